/- The walk of the law FnExactFragJoin. -/
import Derived.Test.YtjbkgmbakjnlhabSpecJ
import Derived.Test.YtjbkgmbakjnlhabLMark
namespace Go.Proofs.Ytjbkgmbakjnlhab
open Go.RowKit

theorem bytes_len {L : List PB} : ∀ n bs, bytesL L n = some bs → bs.length = n := by
  intro n
  induction n with
  | zero => intro bs h; simp [bytesL] at h; subst h; rfl
  | succ n ih =>
    intro bs h
    rw [bytesL] at h
    cases h1 : bytesL L n with
    | none => rw [h1] at h; simp at h
    | some cs =>
      cases h2 : L.find? (fun x => hasB x n) with
      | none => rw [h1, h2] at h; simp at h
      | some x =>
        rw [h1, h2] at h
        simp at h
        subst h
        simp [ih cs h1]
theorem join_len (xs : List RV) : (joinL (xs.map RV.key)).2.2.length ≤ 128 := by
  cases ha : alikeL (xs.map RV.key) with
  | false => rw [joinL_one ha]; simp
  | true =>
    cases hd : disagreeL (xs.map RV.key) with
    | true => rw [joinL_two ha hd]; simp
    | false =>
      cases he : endL (xs.map RV.key) with
      | none => rw [joinL_three ha hd he]; simp
      | some e =>
        cases hb : bytesL (xs.map RV.key) e.toNat with
        | none => rw [joinL_lack ha hd he hb]; simp
        | some bs =>
          rw [joinL_zero ha hd he hb]
          have h1 := bytes_len _ _ hb
          have h2 := end_bound (alike_ok ha).2.1 he
          simp only
          omega
/-- what marking a list leaves alone, by its blocks' numbers -/
theorem Left.far {w4 w8 w9 : World} {lo gX n : Nat} {ys : List RV} (hL : LB w4 lo gX n ys) (h : Left gX ys w8 w9) {b : Nat} (hb : b < w8.heap.size) (hf : b < lo ∨ w4.heap.size ≤ b) : w9.heap[b]? = w8.heap[b]? := by
  refine h.block b hb ⟨fun e => ?_, fun y hy gy ha e => ?_⟩
  · have h1 := hL.low
    have h2 := hL.lt
    omega
  · obtain ⟨gy', a1, _, a3, a4, _⟩ := hL.each y hy
    rw [ha] at a1
    have e1 : gy = gy' := by
      have := Option.some.inj a1
      exact congrArg Addr.block this
    have := lt_of_block a4
    omega
theorem Left.below {w w4 w8 w9 : World} {lo gX n : Nat} {ys : List RV} (hL : LB w4 lo gX n ys) (h : Left gX ys w8 w9) (hb : Below w.heap.size w w8) (hlo : w.heap.size ≤ lo) : Below w.heap.size w w9 :=
  hb.trans ⟨h.os, h.tape, h.output, h.size, fun k hk => h.far hL (Nat.lt_of_lt_of_le hk hb.size) (Or.inl (by omega))⟩

set_option maxRecDepth 100000 in
set_option maxHeartbeats 12800000 in
theorem joinLaw_any (a : Option Addr) (cl : Nat) (xs : List RV) (w : World) (hL : RLo w a xs) (hm : xs.length ≤ 9223372036854775807) :
    Calls Try.prog 4 #[.slice a xs.length cl] w fun e w' => e = .returned (.bool true) ∧ Below w.heap.size w w' := by
  have HL : Hid (RLo w a xs) := hL
  clear hL
  have hJL := join_len xs
  have SJ : Hid (∀ (W : World) (lo g : Nat) (ys : List RV), LB W lo g xs.length ys → ys.map RV.key = xs.map RV.key → Calls Try.prog 12 #[.slice (some ⟨g, 0, none⟩) xs.length xs.length] W (JoinPost (xs.map RV.key) W)) := fun W lo g ys hB hk => by
    have hl : ys.length = xs.length := by have := congrArg List.length hk; simpa using this
    have h := specJoin_any g xs.length ys W hB.rl (by omega)
    rw [hk, hl] at h
    exact h
  have IJ : Hid (∀ (W : World) (lo g : Nat) (ys : List RV), LB W lo g xs.length ys → ys.map RV.key = xs.map RV.key → Calls Try.prog 14 #[.slice (some ⟨g, 0, none⟩) xs.length xs.length] W (JoinPost (xs.map RV.key) W)) := fun W lo g ys hB hk => by
    have hl : ys.length = xs.length := by have := congrArg List.length hk; simpa using this
    have h := implJoin_any g xs.length ys W hB.rl (by omega)
    rw [hk, hl] at h
    exact h
  unfold JoinPost at SJ IJ
  generalize joinL (xs.map RV.key) = J at SJ IJ hJL
  obtain ⟨code, jp, js⟩ := J
  simp only at SJ IJ hJL
  unfold Pk.val at SJ IJ
  have hn : ∀ x : Int, (x != x) = false := fun x => by simp
  go_enter Try.func4, Try.ntmps4
  go_wp2_with fail
  refine (szFragPacketS_any a cl xs _ HL.out hm).mono ?_
  rintro e w1 ⟨r, rfl, hr, b1⟩
  have B1 : Below w.heap.size w w1 := b1
  clear b1
  rcases hr with rfl | ⟨hr0, hsum⟩
  · go_wp2
    go_ret
    exact ⟨rfl, B1⟩
  have hr0' : ¬ (r < 0) := by omega
  have hs1 := B1.size
  go_wp2_with fail
  refine (toFragPacketS_any a cl xs _ (HL.out.below B1) hsum).mono ?_
  rintro e w2 ⟨gA, ysA, rfl, LA, kA, b2⟩
  have B2 : Below w.heap.size w w2 := B1.trans (b2.mono hs1)
  have hs2 := B2.size
  clear b2
  go_wp2_with fail
  refine (SJ.out _ _ _ _ LA kA).mono ?_
  rintro e w3 ⟨aW, cW, rfl, oW, b3⟩
  have B3 : Below w.heap.size w w3 := B2.trans (b3.mono hs2)
  have lW := own_lt oW
  have hs3 := B3.size
  clear b3 B2 B1 LA kA
  go_wp2_with fail
  refine (toFragPacketS_any a cl xs _ (HL.out.below (B3.alloc (by omega) _)) hsum).mono ?_
  rintro e w4 ⟨gX, ysX, rfl, LX0, kX, b4⟩
  have b4' : Below w3.heap.size w3 w4 := (Joins.below_alloc1 _ _).trans (b4.mono (by simp))
  have B4 : Below w.heap.size w w4 := B3.trans (b4'.mono hs3)
  have W4 : Boxed w4 w3.heap.size jp (.slice aW js.length cW) := (Boxed.new w3 jp (.slice aW js.length cW) 27).below b4
  have oW4 := own_below oW b4'
  have LX : Hid (LB w4 (w3.heap.size + 1) gX xs.length ysX) := (by have h := LX0; simp at h; exact h)
  have hs4 := B4.size
  have hlX : ysX.length = xs.length := by have := congrArg List.length kX; simpa using this
  have KX : Hid (ysX.map RV.key = xs.map RV.key) := kX
  clear b4 b4' B3 oW LX0 kX
  go_wp2_with fail
  refine (IJ.out _ _ _ _ LX.out KX.out).mono ?_
  rintro e w5 ⟨aG, cG, rfl, oG, b5⟩
  have B5 : Below w.heap.size w w5 := B4.trans (b5.mono hs4)
  have W5 := W4.below b5
  have oW5 := own_below oW4 b5
  have LX5 : Hid (LB w5 (w3.heap.size + 1) gX xs.length ysX) := LX.out.below b5
  have lG := own_lt oG
  have hs45 : w4.heap.size ≤ w5.heap.size := b5.size
  have hs34 : w3.heap.size < w4.heap.size := W4.lt
  have hs5 := B5.size
  clear b5 B4 W4 oW4
  obtain ⟨klt, k0, k1, k2, k3, k4, k5, k6, k7, k8⟩ := id W5
  go_wp2_with fail
  refine (eqFragPacket_same jp aG aW js.length cG cW js _ ((RdB.of_own rfl oG).below (Joins.below_alloc1 _ _)) ((RdB.of_own rfl oW5).below (Joins.below_alloc1 _ _)) (by omega)).mono ?_
  rintro e w6 ⟨rfl, b6⟩
  have b6' : Below w5.heap.size w5 w6 := (Joins.below_alloc1 _ _).trans (b6.mono (by simp))
  have B6 : Below w.heap.size w w6 := B5.trans (b6'.mono hs5)
  have W6 := W5.below b6'
  have G6 : Boxed w6 w5.heap.size jp (.slice aG js.length cG) := (Boxed.new w5 jp (.slice aG js.length cG) 27).below b6
  have oW6 := own_below oW5 b6'
  have oG6 := own_below oG b6'
  have LX6 : Hid (LB w6 (w3.heap.size + 1) gX xs.length ysX) := LX5.out.below b6'
  have hs6 := B6.size
  have hs56 : w5.heap.size < w6.heap.size := G6.lt
  clear k0 k1 k2 k3 k4 k5 k6 k7 k8 klt
  clear b6 b6' B5 W5 oW5 oG LX5
  go_wp2_with fail
  refine (toFragPacketS_any a cl xs _ (HL.out.below B6) hsum).mono ?_
  rintro e w7 ⟨gT, ysT, rfl, LT, kT, b7⟩
  have B7 : Below w.heap.size w w7 := B6.trans (b7.mono hs6)
  have W7 := W6.below b7
  have G7 := G6.below b7
  have oW7 := own_below oW6 b7
  have oG7 := own_below oG6 b7
  have LX7 : Hid (LB w7 (w3.heap.size + 1) gX xs.length ysX) := LX6.out.below b7
  have hs7 := B7.size
  have hlT : ysT.map RV.key = ysX.map RV.key := kT.trans KX.out.symm
  have EQ : Hid (Calls Try.prog 15 #[.slice (some ⟨gX, 0, none⟩) xs.length xs.length, .slice (some ⟨gT, 0, none⟩) xs.length xs.length] w7 fun e w' => e = .returned (.bool true) ∧ Below w7.heap.size w7 w') := by
    have h := eqFragPacketS_same gX gT xs.length xs.length ysX ysT w7 LX7.out.rl LT.rl hlT (by omega)
    rw [hlX] at h
    exact h
  clear b7 B6 W6 G6 oW6 oG6 LX6 LT kT hlT
  go_wp2_with fail
  refine EQ.out.mono ?_
  rintro e w8 ⟨rfl, b8⟩
  have B8 : Below w.heap.size w w8 := B7.trans (b8.mono hs7)
  have W8 := W7.below b8
  have G8 := G7.below b8
  have oW8 := own_below oW7 b8
  have oG8 := own_below oG7 b8
  have LX8 : Hid (LB w8 (w3.heap.size + 1) gX xs.length ysX) := LX7.out.below b8
  have hs8 := B8.size
  have hs18 : w5.heap.size < w8.heap.size := G8.lt
  have hsX : xs.length + sumLen ysX ≤ 1048576 := by
    have e1 : sumLen ysX = sumLen xs := by
      have h := congrArg (fun l => (l.map fun (x : PB) => x.2.length).sum) KX.out
      simp only [List.map_map] at h
      exact h
    omega
  clear b8 B7 W7 G7 oW7 oG7 LX7 EQ
  go_wp2_with fail
  refine (markFragPacketS_any gX xs.length xs.length ysX _ hlX LX8.out.mb hsX).mono ?_
  rintro e w9 ⟨km, rfl, hkm, F9⟩
  have B9 : Below w.heap.size w w9 := F9.below LX.out B8 (by omega)
  have q9 : ∀ b, b < w8.heap.size → (b < w3.heap.size + 1 ∨ w4.heap.size ≤ b) → w9.heap[b]? = w8.heap[b]? := fun b hb hf => F9.far LX.out hb hf
  have W9 := W8.kept F9.size (q9 _ W8.lt (by omega))
  have G9 := G8.kept F9.size (q9 _ G8.lt (by omega))
  have oW9 := own_kept oW8 (fun k hk => q9 k (own_lt oW8 k hk).2 (by have := lW k hk; omega))
  have oG9 := own_kept oG8 (fun k hk => q9 k (own_lt oG8 k hk).2 (by have := lG k hk; omega))
  have hkm' : ¬ (km < 0) := by omega
  have hs9 := B9.size
  clear F9 q9 B8 W8 G8 oW8 oG8 LX8
  obtain ⟨_, c0, c1, c2, c3, c4, c5, c6, c7, c8⟩ := id W9
  obtain ⟨_, k0, k1, k2, k3, k4, k5, k6, k7, k8⟩ := id G9
  go_wp2_with fail
  refine (eqFragPacket_same jp aG aW js.length cG cW js _ (RdB.of_own rfl oG9) (RdB.of_own rfl oW9) (by omega)).mono ?_
  rintro e w10 ⟨rfl, b10⟩
  have B10 : Below w.heap.size w w10 := B9.trans (b10.mono hs9)
  have W10 := W9.below b10
  have G10 := G9.below b10
  have oW10 := own_below oW9 b10
  have oG10 := own_below oG9 b10
  have hs10 := B10.size
  clear c0 c1 c2 c3 c4 c5 c6 c7 c8 k0 k1 k2 k3 k4 k5 k6 k7 k8
  clear b10 B9 W9 G9 oW9 oG9
  obtain ⟨_, k0, k1, k2, k3, k4, k5, k6, k7, k8⟩ := id G10
  go_wp2_with fail
  refine (markFragPacket_any jp aG js.length cG w4.heap.size 1 js _ rfl oG10 (by omega) (by omega) (by omega)).mono ?_
  rintro e w11 ⟨rfl, oG11, hg11⟩
  have q11 : ∀ b, b < w10.heap.size → (b < w4.heap.size ∨ w5.heap.size ≤ b) → w11.heap[b]? = w10.heap[b]? := fun b hb hne => hg11.block b hb (fun h => by have := lG b h.symm; omega)
  have B11 : Below w.heap.size w w11 := B10.trans (below_grown hg11 hs10 (fun k hk => by have := lG k hk; omega))
  have W11 := W10.kept hg11.size (q11 _ W10.lt (by omega))
  have G11 := G10.kept hg11.size (q11 _ G10.lt (by omega))
  have oW11 := own_kept oW10 (fun k hk => q11 k (own_lt oW10 k hk).2 (by have := lW k hk; omega))
  have hs11 := B11.size
  clear k0 k1 k2 k3 k4 k5 k6 k7 k8
  clear hg11 q11 B10 W10 G10 oW10 oG10
  obtain ⟨_, k0, k1, k2, k3, k4, k5, k6, k7, k8⟩ := id G11
  go_wp2_with fail
  refine (heldFragPacket_any jp aG js.length cG _ 1 _ oG11 (by omega) (by omega) (by omega)).mono ?_
  rintro e w12 ⟨rfl, b12⟩
  have B12 : Below w.heap.size w w12 := B11.trans (b12.mono hs11)
  have W12 := W11.below b12
  have G12 := G11.below b12
  have oW12 := own_below oW11 b12
  have oG12 := own_below oG11 b12
  have hs12 := B12.size
  clear k0 k1 k2 k3 k4 k5 k6 k7 k8
  clear b12 B11 W11 G11 oW11 oG11
  go_wp2_with fail
  refine (toFragPacketS_any a cl xs _ (HL.out.below B12) hsum).mono ?_
  rintro e w13 ⟨gU, ysU, rfl, LU, kU, b13⟩
  have B13 : Below w.heap.size w w13 := B12.trans (b13.mono hs12)
  have W13 := W12.below b13
  have G13 := G12.below b13
  have oW13 := own_below oW12 b13
  have oG13 := own_below oG12 b13
  have hs13 := B13.size
  clear b13 B12 W12 G12 oW12 oG12
  go_wp2_with fail
  refine (IJ.out _ _ _ _ LU kU).mono ?_
  rintro e w14 ⟨aH, cH, rfl, oH, b14⟩
  have B14 : Below w.heap.size w w14 := B13.trans (b14.mono hs13)
  have W14 := W13.below b14
  have G14 := G13.below b14
  have oW14 := own_below oW13 b14
  have oG14 := own_below oG13 b14
  have hs14 := B14.size
  clear b14 B13 W13 G13 oW13 oG13 LU kU
  obtain ⟨_, c0, c1, c2, c3, c4, c5, c6, c7, c8⟩ := id W14
  go_wp2_with fail
  refine (eqFragPacket_same jp aH aW js.length cH cW js _ ((RdB.of_own rfl oH).below (Joins.below_alloc1 _ _)) ((RdB.of_own rfl oW14).below (Joins.below_alloc1 _ _)) (by omega)).mono ?_
  rintro e w15 ⟨rfl, b15⟩
  have b15' : Below w14.heap.size w14 w15 := (Joins.below_alloc1 _ _).trans (b15.mono (by simp))
  have B15 : Below w.heap.size w w15 := B14.trans (b15'.mono hs14)
  have G15 := G14.below b15'
  have oG15 := own_below oG14 b15'
  clear c0 c1 c2 c3 c4 c5 c6 c7 c8
  clear b15 b15' B14 W14 G14 oW14 oG14 oH
  obtain ⟨_, k0, k1, k2, k3, k4, k5, k6, k7, k8⟩ := id G15
  go_wp2_with fail
  refine (heldFragPacket_any jp aG js.length cG _ 1 _ oG15 (by omega) (by omega) (by omega)).mono ?_
  rintro e w16 ⟨rfl, b16⟩
  have B16 : Hid (Below w.heap.size w w16) := B15.trans (b16.mono B15.size)
  clear k0 k1 k2 k3 k4 k5 k6 k7 k8
  clear b16 B15 G15 oG15
  go_wp2
  go_ret
  exact ⟨rfl, B16.out⟩
end Go.Proofs.Ytjbkgmbakjnlhab
