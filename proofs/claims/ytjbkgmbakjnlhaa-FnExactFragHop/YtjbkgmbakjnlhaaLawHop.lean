/- The walk of the law FnExactFragHop. -/
import Derived.Test.YtjbkgmbakjnlhaaHop
import Derived.Test.YtjbkgmbakjnlhaaKept
namespace Go.Proofs.Ytjbkgmbakjnlhaa
open Go.RowKit

theorem hopD_len (p : Pk) (zs : List Int) : (hopD p zs).length ≤ zs.length := by
  unfold hopD; split <;> simp

set_option maxHeartbeats 3200000 in
theorem hopLaw_any (p : Pk) (a : Option Addr) (len cap : Nat) (zs : List Int) (w : World) (hr : RdB w a len zs) (hm : (len : Int) ≤ 9223372036854775807) :
    Calls Try.prog 8 #[p.val (.slice a len cap)] w fun e w' => e = .returned (.bool true) ∧ Below w.heap.size w w' := by
  unfold Pk.val
  by_cases hl : 1048576 < (len : Int)
  · have hi : (if (1048576 : Int) < (len : Int) then (-1 : Int) else 1048576 - len) = -1 := if_pos hl
    have HI : Hid ((if (1048576 : Int) < (len : Int) then (-1 : Int) else 1048576 - len) = -1) := hi
    clear hi
    go_enter Try.func8, Try.ntmps8
    go_wp2_with (go_at_call 21; refine (szFragPacket_any p a len cap 1048576 _ (by omega) (by omega) hm).mono ?_; rw [HI.out]; rintro e w1 ⟨rfl, hb1⟩)
    go_ret
    exact ⟨rfl, (Joins.below_alloc1 _ _).trans (hb1.mono (by simp))⟩
  · have hi : (if (1048576 : Int) < (len : Int) then (-1 : Int) else 1048576 - len) = 1048576 - len := if_neg hl
    have HI : Hid ((if (1048576 : Int) < (len : Int) then (-1 : Int) else 1048576 - len) = 1048576 - len) := hi
    clear hi
    have hl' : len ≤ 1048576 := by omega
    have hnl : (hopD p zs).length ≤ len := by have := hopD_len p zs; rw [hr.1] at this; exact this
    go_enter Try.func8, Try.ntmps8
    go_wp2_with fail
    refine (szFragPacket_any p a len cap 1048576 _ (by omega) (by omega) hm).mono ?_
    rw [HI.out]
    rintro e w1 ⟨rfl, hb1⟩
    have B1 : Below w.heap.size w w1 := (Joins.below_alloc1 _ _).trans (hb1.mono (by simp))
    have X1 : Boxed w1 w.heap.size p (.slice a len cap) := (Boxed.new w p (.slice a len cap) 38).below hb1
    clear hb1 HI
    obtain ⟨hlt, c0, c1, c2, c3, c4, c5, c6, c7, c8⟩ := id X1
    go_wp2_with fail
    refine (toFragPacket_any p a len cap zs _ (hr.below B1) hl').mono ?_
    rintro e w2 ⟨g1, rfl, hg1, hh1, b2⟩
    have B2 : Below w.heap.size w w2 := B1.trans (b2.mono (by omega))
    have X2 := X1.below b2
    have d2 : RdB w2 (some ⟨g1, 0, none⟩) len zs := by have h := RdB.of_block hh1; rw [hr.1] at h; exact h
    clear c0 c1 c2 c3 c4 c5 c6 c7 c8 b2 B1 X1 hh1 hlt hg1
    unfold Pk.val
    go_wp2_with fail
    refine (specHop_any p ⟨g1, 0, none⟩ len len zs _ d2 hl').mono ?_
    rintro e w3 ⟨aW, cW, rfl, oW, b3⟩
    have B3 : Below w.heap.size w w3 := B2.trans (b3.mono (by have := X2.lt; omega))
    have X3 := X2.below b3
    have lW := own_lt oW
    have hA3 : w.heap.size < w3.heap.size := X3.lt
    clear b3 B2 X2 d2
    obtain ⟨hlt, c0, c1, c2, c3, c4, c5, c6, c7, c8⟩ := id X3
    unfold Pk.val
    go_wp2_with fail
    refine (toFragPacket_any p a len cap zs _ (hr.below (B3.alloc (by omega) _)) hl').mono ?_
    rintro e w4 ⟨g2, rfl, hg2, hh2, b4⟩
    have b4' : Below w3.heap.size w3 w4 := (Joins.below_alloc1 _ _).trans (b4.mono (by simp))
    have B4 : Below w.heap.size w w4 := B3.trans (b4'.mono (by omega))
    have X4 := X3.below b4'
    have W4 : Boxed w4 w3.heap.size (hopP p len) (.slice aW (hopD p zs).length cW) := (Boxed.new w3 (hopP p len) (.slice aW (hopD p zs).length cW) 24).below b4
    have oW4 := own_below oW b4'
    have hg2' : w3.heap.size < g2 := Nat.lt_of_lt_of_le (by simp) hg2
    have hg2s : g2 < w4.heap.size := by
      rcases Nat.lt_or_ge g2 w4.heap.size with h' | h'
      · exact h'
      · rw [Array.getElem?_eq_none h'] at hh2; cases hh2
    have oX4 : w4.ownsRow (w3.heap.size + 1) 5 1 (.slice (some ⟨g2, 0, none⟩) len len) len (zs.map (.int .u8)) := by
      have h := own_of_block (base := w3.heap.size + 1) (by omega) (by unfold maxLen; rw [hr.1]; omega) hh2
      rw [hr.1] at h
      exact h
    have d4 : RdB w4 (some ⟨g2, 0, none⟩) len zs := RdB.of_own hr.1 oX4
    clear c0 c1 c2 c3 c4 c5 c6 c7 c8 b4 b4' B3 X3 hh2 hlt oW hg2
    unfold Pk.val
    go_wp2_with fail
    refine (implHop_any p ⟨g2, 0, none⟩ len len zs _ (d4.below (Joins.below_alloc1 _ _)) hl').mono ?_
    rintro e w5 ⟨aG, cG, rfl, oG, b5⟩
    have b5' : Below w4.heap.size w4 w5 := (Joins.below_alloc1 _ _).trans (b5.mono (by simp))
    have B5 : Below w.heap.size w w5 := B4.trans (b5'.mono (by have := X4.lt; omega))
    have X5 := X4.below b5'
    have W5 := W4.below b5'
    have Y5 : Boxed w5 w4.heap.size p (.slice (some ⟨g2, 0, none⟩) len len) := (Boxed.new w4 p (.slice (some ⟨g2, 0, none⟩) len len) 24).below b5
    have oW5 := own_below oW4 b5'
    have oX5 := own_below oX4 b5'
    have oG5 : w5.ownsRow (w4.heap.size + 1) 5 1 (.slice aG (hopD p zs).length cG) (hopD p zs).length ((hopD p zs).map (.int .u8)) := Joins.ownsRow_le oG (by simp)
    have lG := own_lt oG5
    have lt4 : w3.heap.size < w4.heap.size := W4.lt
    clear b5 b5' B4 X4 W4 oW4 oX4 d4 oG
    obtain ⟨hlt, c0, c1, c2, c3, c4, c5, c6, c7, c8⟩ := id X5
    obtain ⟨klt, k0, k1, k2, k3, k4, k5, k6, k7, k8⟩ := id W5
    have hn : ∀ x : Int, (x != x) = false := fun x => by simp
    unfold Pk.val
    go_wp2_with fail
    refine (eqFragPacket_same (hopP p len) aG aW (hopD p zs).length cG cW (hopD p zs) _ ((RdB.of_own rfl oG5).below (Joins.below_alloc1 _ _)) ((RdB.of_own rfl oW5).below (Joins.below_alloc1 _ _)) (by omega)).mono ?_
    rintro e w6 ⟨rfl, b6⟩
    have b6' : Below w5.heap.size w5 w6 := (Joins.below_alloc1 _ _).trans (b6.mono (by simp))
    have B6 : Below w.heap.size w w6 := B5.trans (b6'.mono (by omega))
    have X6 := X5.below b6'
    have W6 := W5.below b6'
    have Y6 := Y5.below b6'
    have G6 : Boxed w6 w5.heap.size (hopP p len) (.slice aG (hopD p zs).length cG) := (Boxed.new w5 (hopP p len) (.slice aG (hopD p zs).length cG) 24).below b6
    have oW6 := own_below oW5 b6'
    have oX6 := own_below oX5 b6'
    have oG6 := own_below oG5 b6'
    have lt5 : w4.heap.size < w5.heap.size := Y5.lt
    clear c0 c1 c2 c3 c4 c5 c6 c7 c8 k0 k1 k2 k3 k4 k5 k6 k7 k8
    clear b6 b6' B5 X5 W5 Y5 oW5 oX5 oG5 hlt klt
    obtain ⟨_, c0, c1, c2, c3, c4, c5, c6, c7, c8⟩ := id X6
    obtain ⟨_, k0, k1, k2, k3, k4, k5, k6, k7, k8⟩ := id Y6
    go_wp2
    have hA6 : w.heap.size < w6.heap.size := X6.lt
    have h46 : w4.heap.size < w6.heap.size := Y6.lt
    go_region_held3 (fun w' => w'.cell? ⟨w.heap.size, 0, none⟩ = some (.int .i64 p.src) ∧ w'.cell? ⟨w.heap.size, 1, none⟩ = some (.int .i64 p.dst) ∧ w'.cell? ⟨w.heap.size, 2, none⟩ = some (.int .i64 p.kind) ∧ w'.cell? ⟨w.heap.size, 3, none⟩ = some (.int .i64 p.id) ∧ w'.cell? ⟨w.heap.size, 4, none⟩ = some (.int .i64 p.hops) ∧ w'.cell? ⟨w.heap.size, 5, none⟩ = some (.bool p.whole) ∧ w'.cell? ⟨w.heap.size, 6, none⟩ = some (.int .i64 p.off) ∧ w'.cell? ⟨w.heap.size, 7, none⟩ = some (.bool p.more) ∧ w'.cell? ⟨w.heap.size, 8, none⟩ = some (.slice a len cap) ∧ w'.cell? ⟨w4.heap.size, 0, none⟩ = some (.int .i64 p.src) ∧ w'.cell? ⟨w4.heap.size, 1, none⟩ = some (.int .i64 p.dst) ∧ w'.cell? ⟨w4.heap.size, 2, none⟩ = some (.int .i64 p.kind) ∧ w'.cell? ⟨w4.heap.size, 3, none⟩ = some (.int .i64 p.id) ∧ w'.cell? ⟨w4.heap.size, 4, none⟩ = some (.int .i64 p.hops) ∧ w'.cell? ⟨w4.heap.size, 5, none⟩ = some (.bool p.whole) ∧ w'.cell? ⟨w4.heap.size, 6, none⟩ = some (.int .i64 p.off) ∧ w'.cell? ⟨w4.heap.size, 7, none⟩ = some (.bool p.more) ∧ w'.cell? ⟨w4.heap.size, 8, none⟩ = some (.slice (some ⟨g2, 0, none⟩) len len)) (go_keep)
      (first
        | (go_at_call 22; refine (toFragPacket_any p a len cap zs _ (hr.below (B6.trans (draw1 _ |>.mono (by omega)))) hl').mono ?_; rintro e w7 ⟨g3, rfl, hg3, hh3, b7⟩; unfold Pk.val; have hc7 : ∀ b o, b < w6.heap.size → w7.cell? ⟨b, o, none⟩ = w6.cell? ⟨b, o, none⟩ := fun b o h => b7.cell (p := ⟨b, o, none⟩) h; have d7 := (RdB.of_own hr.1 oX6).below ((draw1 _).trans b7); have e7 : RdB w7 (some ⟨g3, 0, none⟩) len zs := (by have h := RdB.of_block hh3; rw [hr.1] at h; exact h))
        | (go_at_call 23; refine (eqFragPacket_same p (some ⟨g2, 0, none⟩) (some ⟨g3, 0, none⟩) len len len zs _ d7 e7 hl').mono ?_; rintro e w8 ⟨rfl, b8⟩; have s8 : w6.heap.size ≤ w7.heap.size := b7.size; have hc8 : ∀ b o, b < w6.heap.size → w8.cell? ⟨b, o, none⟩ = w7.cell? ⟨b, o, none⟩ := fun b o h => b8.cell (p := ⟨b, o, none⟩) (Nat.lt_of_lt_of_le h s8)))
    have b8' : Below w6.heap.size w6 w8 := ((draw1 _).trans b7).trans (b8.mono s8)
    have B8 : Below w.heap.size w w8 := B6.trans (b8'.mono (by omega))
    have X8 := X6.below b8'
    have W8 := W6.below b8'
    have Y8 := Y6.below b8'
    have G8 := G6.below b8'
    have oW8 := own_below oW6 b8'
    have oX8 := own_below oX6 b8'
    have oG8 := own_below oG6 b8'
    clear c0 c1 c2 c3 c4 c5 c6 c7 c8 k0 k1 k2 k3 k4 k5 k6 k7 k8
    clear b7 b8 b8' hc7 hc8 d7 e7 s8 hh3 hg3 B6 X6 W6 Y6 G6 oW6 oX6 oG6 hA6 h46
    obtain ⟨_, k0, k1, k2, k3, k4, k5, k6, k7, k8⟩ := id Y8
    go_wp2_with fail
    refine (markFragPacket_any p (some ⟨g2, 0, none⟩) len len (w3.heap.size + 1) 1 zs _ hr.1 oX8 (by omega) (by omega) hl').mono ?_
    rintro e w9 ⟨rfl, -, hg9⟩
    have q9 : ∀ b, b < w8.heap.size → b ≠ g2 → w9.heap[b]? = w8.heap[b]? := fun b hb hne => hg9.block b hb (fun h => hne (Option.some.inj h))
    have B9 : Below w.heap.size w w9 := B8.trans (below_grown hg9 (by have := X8.lt; omega) (fun k hk => by have h : g2 = k := Option.some.inj hk; omega))
    have X9 := X8.kept hg9.size (q9 _ X8.lt (by omega))
    have W9 := W8.kept hg9.size (q9 _ W8.lt (by omega))
    have G9 := G8.kept hg9.size (q9 _ G8.lt (by omega))
    have oW9 := own_kept oW8 (fun k hk => q9 k (own_lt oW8 k hk).2 (by have := lW k hk; omega))
    have oG9 := own_kept oG8 (fun k hk => q9 k (own_lt oG8 k hk).2 (by have := lG k hk; omega))
    clear k0 k1 k2 k3 k4 k5 k6 k7 k8
    clear hg9 q9 B8 X8 W8 Y8 G8 oW8 oX8 oG8
    obtain ⟨_, c0, c1, c2, c3, c4, c5, c6, c7, c8⟩ := id W9
    obtain ⟨_, k0, k1, k2, k3, k4, k5, k6, k7, k8⟩ := id G9
    go_wp2_with fail
    refine (eqFragPacket_same (hopP p len) aG aW (hopD p zs).length cG cW (hopD p zs) _ (RdB.of_own rfl oG9) (RdB.of_own rfl oW9) (by omega)).mono ?_
    rintro e w10 ⟨rfl, b10⟩
    have B10 : Below w.heap.size w w10 := B9.trans (b10.mono (by have := X9.lt; omega))
    have X10 := X9.below b10
    have W10 := W9.below b10
    have G10 := G9.below b10
    have oW10 := own_below oW9 b10
    have oG10 := own_below oG9 b10
    clear c0 c1 c2 c3 c4 c5 c6 c7 c8 k0 k1 k2 k3 k4 k5 k6 k7 k8
    clear b10 B9 X9 W9 G9 oW9 oG9
    obtain ⟨_, k0, k1, k2, k3, k4, k5, k6, k7, k8⟩ := id G10
    go_wp2_with fail
    refine (markFragPacket_any (hopP p len) aG (hopD p zs).length cG (w4.heap.size + 1) 1 (hopD p zs) _ rfl oG10 (by omega) (by omega) (by omega)).mono ?_
    rintro e w11 ⟨rfl, oG11, hg11⟩
    have q11 : ∀ b, b < w10.heap.size → (b < w4.heap.size + 1 ∨ w5.heap.size ≤ b) → w11.heap[b]? = w10.heap[b]? := fun b hb hne => hg11.block b hb (fun h => by have := lG b h.symm; omega)
    have B11 : Below w.heap.size w w11 := B10.trans (below_grown hg11 (by have := X10.lt; omega) (fun k hk => by have := lG k hk; omega))
    have X11 := X10.kept hg11.size (q11 _ X10.lt (by omega))
    have W11 := W10.kept hg11.size (q11 _ W10.lt (by omega))
    have G11 := G10.kept hg11.size (q11 _ G10.lt (by omega))
    have oW11 := own_kept oW10 (fun k hk => q11 k (own_lt oW10 k hk).2 (by have := lW k hk; omega))
    clear k0 k1 k2 k3 k4 k5 k6 k7 k8
    clear hg11 q11 B10 X10 W10 G10 oW10 oG10
    obtain ⟨_, k0, k1, k2, k3, k4, k5, k6, k7, k8⟩ := id G11
    go_wp2_with fail
    refine (heldFragPacket_any (hopP p len) aG (hopD p zs).length cG _ 1 _ oG11 (by omega) (by omega) (by omega)).mono ?_
    rintro e w12 ⟨rfl, b12⟩
    have B12 : Below w.heap.size w w12 := B11.trans (b12.mono (by have := X11.lt; omega))
    have X12 := X11.below b12
    have W12 := W11.below b12
    have G12 := G11.below b12
    have oW12 := own_below oW11 b12
    have oG12 := own_below oG11 b12
    clear k0 k1 k2 k3 k4 k5 k6 k7 k8
    clear b12 B11 X11 W11 G11 oW11 oG11
    obtain ⟨_, c0, c1, c2, c3, c4, c5, c6, c7, c8⟩ := id X12
    go_wp2_with fail
    refine (toFragPacket_any p a len cap zs _ (hr.below B12) hl').mono ?_
    rintro e w13 ⟨g4, rfl, -, hh4, b13⟩
    have d13 : RdB w13 (some ⟨g4, 0, none⟩) len zs := by have h := RdB.of_block hh4; rw [hr.1] at h; exact h
    have B13 : Below w.heap.size w w13 := B12.trans (b13.mono (by have := X12.lt; omega))
    have W13 := W12.below b13
    have G13 := G12.below b13
    have oW13 := own_below oW12 b13
    have oG13 := own_below oG12 b13
    clear c0 c1 c2 c3 c4 c5 c6 c7 c8
    clear b13 B12 X12 W12 G12 oW12 oG12 hh4
    unfold Pk.val
    go_wp2_with fail
    refine (implHop_any p ⟨g4, 0, none⟩ len len zs _ d13 hl').mono ?_
    rintro e w14 ⟨aH, cH, rfl, oH, b14⟩
    have B14 : Below w.heap.size w w14 := B13.trans (b14.mono (by have := W13.lt; omega))
    have W14 := W13.below b14
    have G14 := G13.below b14
    have oW14 := own_below oW13 b14
    have oG14 := own_below oG13 b14
    have ltA : w.heap.size ≤ w14.heap.size := B14.size
    clear b14 B13 W13 G13 oW13 oG13 d13
    obtain ⟨_, c0, c1, c2, c3, c4, c5, c6, c7, c8⟩ := id W14
    unfold Pk.val
    go_wp2_with fail
    refine (eqFragPacket_same (hopP p len) aH aW (hopD p zs).length cH cW (hopD p zs) _ ((RdB.of_own rfl oH).below (Joins.below_alloc1 _ _)) ((RdB.of_own rfl oW14).below (Joins.below_alloc1 _ _)) (by omega)).mono ?_
    rintro e w15 ⟨rfl, b15⟩
    have b15' : Below w14.heap.size w14 w15 := (Joins.below_alloc1 _ _).trans (b15.mono (by simp))
    have B15 : Below w.heap.size w w15 := B14.trans (b15'.mono (by omega))
    have G15 := G14.below b15'
    have oG15 := own_below oG14 b15'
    clear c0 c1 c2 c3 c4 c5 c6 c7 c8
    clear b15 b15' B14 W14 G14 oW14 oG14 oH
    obtain ⟨_, k0, k1, k2, k3, k4, k5, k6, k7, k8⟩ := id G15
    go_wp2_with fail
    refine (heldFragPacket_any (hopP p len) aG (hopD p zs).length cG _ 1 _ oG15 (by omega) (by omega) (by omega)).mono ?_
    rintro e w16 ⟨rfl, b16⟩
    have B16 : Below w.heap.size w w16 := B15.trans (b16.mono (by have := G15.lt; omega))
    clear k0 k1 k2 k3 k4 k5 k6 k7 k8
    clear b16 B15 G15 oG15
    go_wp2
    go_ret
    exact ⟨rfl, B16⟩
end Go.Proofs.Ytjbkgmbakjnlhaa
