/- The contract of the specification's FragCut. -/
import Derived.Test.YtjbkgmbakjnlhaaPartAb
import Derived.Test.YtjbkgmbakjnlhaaPartAd
import Derived.Test.YtjbkgmbakjnlhaaPartAe
import Derived.Deep.RegionLaw
import Derived.Deep.RegionHeld3
namespace Go.Proofs.Ytjbkgmbakjnlhaa
open Go.RowKit

/-- how many bytes a piece has -/
def cutN (most : Int) : Nat := ((most - 8) / 4 * 4).toNat
/-- the first k pieces of a packet that is cut -/
def cutTo (p : Pk) (zs : List Int) (n k : Nat) : List (Pk × List Int) := (List.range k).map fun i => (pieceP p zs.length (i * n) n, pieceD zs (i * n) n)
/-- what FragCut answers: the code, the pieces -/
def cutC (p : Pk) (len : Nat) (most : Int) : Int := if okB p len = true then (if most < 12 then 2 else if 8 + (len : Int) ≤ most then 0 else if p.whole = true then 3 else 0) else 1
def cutL (p : Pk) (zs : List Int) (most : Int) : List (Pk × List Int) :=
  if okB p zs.length = true then (if most < 12 then [] else if 8 + (zs.length : Int) ≤ most then [(p, zs)] else if p.whole = true then [] else cutTo p zs (cutN most) ((zs.length + cutN most - 1) / cutN most)) else []

theorem Try.info24 : (Try.prog.info? 24).map (fun i => (i.zero, i.size, i.bytes)) = some (some (.agg #[.int .i64 0, .int .i64 0, .int .i64 0, .int .i64 0, .int .i64 0, .bool false, .int .i64 0, .bool false, .slice none 0 0]), 9, 88) := by kernel_rfl

/-- what is in memory when FragCut has answered -/
def CutPost (p : Pk) (zs : List Int) (most : Int) (w : World) (e : Ending) (w' : World) : Prop :=
  ∃ (g c : Nat) (ps : List PV), e = .returned (.tuple #[.slice (some ⟨g, 0, none⟩) ps.length c, .int .i64 (cutC p zs.length most)]) ∧ PL w' w.heap.size (.slice (some ⟨g, 0, none⟩) ps.length c) ps ∧ ps.map PV.key = cutL p zs most ∧ Below w.heap.size w w'

theorem nine_new (w : World) (p : Pk) (v : Value) : ∀ j u, (pcells p v).toList[j]? = some u → (w.alloc (.cells (pcells p v) 24)).cell? ((Addr.mk w.heap.size 0 none).add j) = some u := by
  intro j u hu
  rw [add_none, Nat.zero_add, World.cell?_alloc_at _ _ _ _ rfl]
  simpa using hu
theorem ceil_of {a n k : Nat} (_hn : 0 < n) (h1 : k * n < a + n) (h2 : a ≤ k * n) : (a + n - 1) / n = k := by
  apply Nat.div_eq_of_lt_le
  · omega
  · rw [Nat.add_mul]; omega
theorem ok_off {p : Pk} {len : Nat} (h : okB p len = true) : 0 ≤ p.off ∧ p.off ≤ 128 := by
  simp only [okB, offB, inB, Bool.and_eq_true, decide_eq_true_eq] at h
  omega

set_option maxRecDepth 100000 in
set_option maxHeartbeats 1600000 in
theorem specCut_any (p : Pk) (ad : Addr) (cap : Nat) (zs : List Int) (most : Int) (w : World) (hr : RdB w (some ad) zs.length zs) (hl : zs.length ≤ 1048576) (hc : zs.length ≤ cap) (hcm : cap ≤ 9223372036854775807) (hm1 : -9223372036854775808 ≤ most) (hm2 : most ≤ 9223372036854775807) :
    Calls Try.prog 28 #[p.val (.slice (some ad) zs.length cap), .int .i64 most] w (CutPost p zs most w) := by
  unfold Pk.val
  cases hv : okB p zs.length
  · have HC : Hid (cutC p zs.length most = 1 ∧ cutL p zs most = []) := by constructor <;> simp [cutC, cutL, hv]
    go_enter Try.func28, Try.ntmps28
    go_wp2_with fail
    refine (specOk_any p (some ad) zs.length cap _ hl).mono ?_
    rintro e w1 ⟨rfl, b1⟩
    have B1 : Below w.heap.size w w1 := (Joins.below_alloc1 _ _).trans (b1.mono (by simp))
    have X1 : Boxed w1 w.heap.size p (.slice (some ad) zs.length cap) := (Boxed.new w p (.slice (some ad) zs.length cap) 24).below b1
    clear b1
    have BH : Hid (Below w.heap.size w w1) := B1
    have hs1 := B1.size
    clear B1 X1
    go_wp2
    go_ret2
    exact ⟨w1.heap.size, 0, [], by rw [HC.out.1]; rfl, PL.nil _ _ _ rfl hs1, by rw [HC.out.2]; rfl, BH.out.alloc hs1 _⟩
  by_cases h12 : most < 12
  · have HC : Hid (cutC p zs.length most = 2 ∧ cutL p zs most = []) := by constructor <;> simp [cutC, cutL, hv, h12]
    go_enter Try.func28, Try.ntmps28
    go_wp2_with fail
    refine (specOk_any p (some ad) zs.length cap _ hl).mono ?_
    rintro e w1 ⟨rfl, b1⟩
    have B1 : Below w.heap.size w w1 := (Joins.below_alloc1 _ _).trans (b1.mono (by simp))
    have X1 : Boxed w1 w.heap.size p (.slice (some ad) zs.length cap) := (Boxed.new w p (.slice (some ad) zs.length cap) 24).below b1
    clear b1
    have BH : Hid (Below w.heap.size w w1) := B1
    have hs1 := B1.size
    clear B1 X1
    go_wp2
    go_ret2
    exact ⟨w1.heap.size, 0, [], by rw [HC.out.1]; rfl, PL.nil _ _ _ rfl hs1, by rw [HC.out.2]; rfl, BH.out.alloc hs1 _⟩
  have HS : Hid (sizeI p zs.length = 8 + (zs.length : Int)) := by show sizeI p zs.length = _; unfold sizeI; rw [hv]; rfl
  have size : ∀ (W : World), Calls Try.prog 24 #[p.val (.slice (some ad) zs.length cap)] W fun e w' => e = .returned (.int .i64 (8 + (zs.length : Int))) ∧ Below W.heap.size W w' := fun W => by
    have h := specSize_any p (some ad) zs.length cap W hl
    rw [HS.out] at h
    exact h
  have SZ : Hid (∀ (W : World), Calls Try.prog 24 #[p.val (.slice (some ad) zs.length cap)] W fun e w' => e = .returned (.int .i64 (8 + (zs.length : Int))) ∧ Below W.heap.size W w') := size
  clear size HS
  by_cases hfit : 8 + (zs.length : Int) ≤ most
  · have HC : Hid (cutC p zs.length most = 0 ∧ cutL p zs most = [(p, zs)]) := by constructor <;> simp [cutC, cutL, hv, h12, hfit]
    go_enter Try.func28, Try.ntmps28
    go_wp2_with fail
    refine (specOk_any p (some ad) zs.length cap _ hl).mono ?_
    rintro e w1 ⟨rfl, b1⟩
    have B1 : Below w.heap.size w w1 := (Joins.below_alloc1 _ _).trans (b1.mono (by simp))
    have X1 : Boxed w1 w.heap.size p (.slice (some ad) zs.length cap) := (Boxed.new w p (.slice (some ad) zs.length cap) 24).below b1
    clear b1
    obtain ⟨hlt, c0, c1, c2, c3, c4, c5, c6, c7, c8⟩ := id X1
    go_wp2_with fail
    refine (SZ.out _).mono ?_
    rintro e w2 ⟨rfl, b2⟩
    have B2 : Below w.heap.size w w2 := B1.trans (b2.mono (by omega))
    have X2 := X1.below b2
    clear c0 c1 c2 c3 c4 c5 c6 c7 c8 b2 B1 X1 hlt
    obtain ⟨hlt, c0, c1, c2, c3, c4, c5, c6, c7, c8⟩ := id X2
    go_wp2_with fail
    refine (l1Copy_any p ad zs.length cap zs _ (hr.below B2) hl).mono ?_
    rintro e w3 ⟨g, c, rfl, o3, b3⟩
    have BH : Hid (Below w.heap.size w w3) := B2.trans (b3.mono (by omega))
    have OH : Hid (w3.ownsRow w.heap.size 5 1 (.slice (some ⟨g, 0, none⟩) zs.length c) zs.length (zs.map (.int .u8))) := Joins.ownsRow_le o3 (by omega)
    have hs3 := BH.out.size
    clear c0 c1 c2 c3 c4 c5 c6 c7 c8 b3 B2 X2 o3
    unfold Pk.val
    go_wp2
    go_ret2
    exact ⟨w3.heap.size, 1, [⟨p, g, c, zs⟩], by rw [HC.out.1]; rfl, PL.one w3 _ _ ⟨p, g, c, zs⟩ rfl hs3 OH.out, by rw [HC.out.2]; rfl, BH.out.alloc hs3 _⟩
  have whole_of : p.whole = true ∨ p.whole = false := by cases p.whole <;> simp
  rcases whole_of with hw | hw
  · have HC : Hid (cutC p zs.length most = 3 ∧ cutL p zs most = []) := by constructor <;> simp [cutC, cutL, hv, h12, hfit, hw]
    have HW : Hid (p.whole = true) := hw
    clear hw
    go_enter Try.func28, Try.ntmps28
    go_wp2_with fail
    refine (specOk_any p (some ad) zs.length cap _ hl).mono ?_
    rintro e w1 ⟨rfl, b1⟩
    have B1 : Below w.heap.size w w1 := (Joins.below_alloc1 _ _).trans (b1.mono (by simp))
    have X1 : Boxed w1 w.heap.size p (.slice (some ad) zs.length cap) := (Boxed.new w p (.slice (some ad) zs.length cap) 24).below b1
    clear b1
    obtain ⟨hlt, c0, c1, c2, c3, c4, c5, c6, c7, c8⟩ := id X1
    go_wp2_with fail
    refine (SZ.out _).mono ?_
    rintro e w2 ⟨rfl, b2⟩
    have BH : Hid (Below w.heap.size w w2) := B1.trans (b2.mono (by omega))
    have X2 := X1.below b2
    have hs2 := BH.out.size
    clear c0 c1 c2 c3 c4 c5 c6 c7 c8 b2 B1 X1 hlt
    obtain ⟨hlt, c0, c1, c2, c3, c4, c5, c6, c7, c8⟩ := id X2
    rw [HW.out] at c5
    go_wp2
    go_ret2
    exact ⟨w2.heap.size, 0, [], by rw [HC.out.1]; rfl, PL.nil _ _ _ rfl hs2, by rw [HC.out.2]; rfl, BH.out.alloc hs2 _⟩
  · obtain ⟨n, hn⟩ : ∃ n : Nat, (most - 8) / 4 * 4 = (n : Int) := ⟨((most - 8) / 4 * 4).toNat, by omega⟩
    have hn4 : 4 ≤ n := by omega
    have hnl : n < zs.length := by omega
    have HN : Hid (cutN most = n) := by show cutN most = n; unfold cutN; rw [hn]; simp
    have HC : Hid (cutC p zs.length most = 0 ∧ cutL p zs most = cutTo p zs (cutN most) ((zs.length + cutN most - 1) / cutN most)) := by constructor <;> simp [cutC, cutL, hv, h12, hfit, hw]
    obtain ⟨i1, hi1, hy0, hy1, hy2⟩ := info_parts Try.info24
    have hoff := ok_off hv
    have HW : Hid (p.whole = false) := hw
    clear hw
    go_enter Try.func28, Try.ntmps28
    go_wp2_with fail
    refine (specOk_any p (some ad) zs.length cap _ hl).mono ?_
    rintro e w1 ⟨rfl, b1⟩
    have B1 : Below w.heap.size w w1 := (Joins.below_alloc1 _ _).trans (b1.mono (by simp))
    have X1 : Boxed w1 w.heap.size p (.slice (some ad) zs.length cap) := (Boxed.new w p (.slice (some ad) zs.length cap) 24).below b1
    clear b1
    obtain ⟨hlt, c0, c1, c2, c3, c4, c5, c6, c7, c8⟩ := id X1
    go_wp2_with fail
    refine (SZ.out _).mono ?_
    rintro e w2 ⟨rfl, b2⟩
    have B2 : Below w.heap.size w w2 := B1.trans (b2.mono (by omega))
    have X2 := X1.below b2
    have hs2 := B2.size
    clear c0 c1 c2 c3 c4 c5 c6 c7 c8 b2 B1 X1 hlt
    obtain ⟨hlt, c0, c1, c2, c3, c4, c5, c6, c7, c8⟩ := id X2
    have c5' := c5
    rw [HW.out] at c5'
    clear c5
    have PH : Hid (PL (w2.alloc (.cells #[] 24)) w2.heap.size (.slice (some ⟨w2.heap.size, 0, none⟩) 0 0) []) := PL.nil _ _ _ rfl (Nat.le_refl _)
    have XH : Hid (Boxed w2 w.heap.size p (.slice (some ad) zs.length cap)) := X2
    have BH : Hid (Below w.heap.size w w2) := B2
    clear B2 X2
    go_wp2
    go_loopw [7, 8] (fun v i wr => ∃ (m k g c : Nat) (ps : List PV), i = .int .i64 m ∧ v = .slice (some ⟨g, 0, none⟩) k c ∧ m < zs.length + n ∧ Hid (m = k * n) ∧ Hid (ps.length = k) ∧ Hid (PL wr w2.heap.size (.slice (some ⟨g, 0, none⟩) k c) ps) ∧ Hid (ps.map PV.key = cutTo p zs n k) ∧ Hid (Below w2.heap.size w2 wr)) (fun _ i _ => zs.length + n - (intOf i).toNat)
    case atStart => exact ⟨0, 0, w2.heap.size, 0, [], rfl, rfl, by omega, (show (0 : Nat) = 0 * n by simp), rfl, PH.out, rfl, (Below.refl _ _).alloc (Nat.le_refl _) _⟩
    case round =>
      obtain ⟨m, k, g, c, ps, rfl, rfl, hm, HM, HL, HP, HK, HB⟩ := hrel
      have hb2 := HB.out.size
      have X3 := XH.out.below HB.out
      clear c0 c1 c2 c3 c4 c5' c6 c7 c8
      obtain ⟨hlt3, c0, c1, c2, c3, c4, c5, c6, c7, c8⟩ := id X3
      by_cases hmk : m < zs.length
      · go_wp2_with fail
        refine (l2Piece_any p ad zs.length cap m n zs _ (hr.below (BH.out.trans (HB.out.mono (by omega)))) hl hc hcm hmk (by omega) hoff.1 (by omega)).mono ?_
        rintro e w3 ⟨g3, d3, rfl, o3, b3⟩
        have P3 := HP.out.below b3
        have O3 : w3.ownsRow w2.heap.size 5 1 (.slice (some ⟨g3, 0, none⟩) (pieceD zs m n).length d3) (pieceD zs m n).length ((pieceD zs m n).map (.int .u8)) := Joins.ownsRow_le o3 (by omega)
        have B3 : Hid (Below w2.heap.size w2 w3) := HB.out.trans (b3.mono (by omega))
        have hs3 : w2.heap.size ≤ w3.heap.size := B3.out.size
        have R3 : w3.ownsRow w2.heap.size 24 9 (.slice (some ⟨g, 0, none⟩) k c) k (ps.flatMap PV.cells) := by have h := P3.row; rw [HL.out] at h; exact h
        have hkm : k ≤ 2097152 := by have e := HM.out; have : k ≤ k * n := Nat.le_mul_of_pos_right k (by omega); omega
        clear c0 c1 c2 c3 c4 c5 c6 c7 c8 X3 b3 o3 HP HB
        have PH3 : Hid (PL w3 w2.heap.size (.slice (some ⟨g, 0, none⟩) k c) ps) := P3
        have OH3 : Hid (w3.ownsRow w2.heap.size 5 1 (.slice (some ⟨g3, 0, none⟩) (pieceD zs m n).length d3) (pieceD zs m n).length ((pieceD zs m n).map (.int .u8))) := O3
        clear P3 O3
        unfold Pk.val
        go_wp2_with (at_builtin; refine wpList_append_own _ rfl _ _ 25 rfl w2.heap.size 24 i1 (.agg #[.int .i64 0, .int .i64 0, .int .i64 0, .int .i64 0, .int .i64 0, .bool false, .int .i64 0, .bool false, .slice none 0 0]) 9 88 Try.underlying25 hi1 hy0 hy1 hy2 rfl (by decide) (.slice (some ⟨g, 0, none⟩) k c) k (ps.flatMap PV.cells) rfl (R3.alloc _) ⟨w3.heap.size, 0, none⟩ 1 1 (PV.cells ⟨pieceP p zs.length m n, g3, d3, pieceD zs m n⟩) rfl rfl ?h1 ?h2 ?h3 ?h4 ?h5 ?_)
        case h1 => exact nine_new w3 _ _
        case h2 => exact nine_one _ _ _ _
        case h3 => unfold maxLen; omega
        case h4 => omega
        case h5 => simp; omega
        intro v1 w4 hown hgrow hnil
        obtain ⟨g', c', rfl⟩ : ∃ g' c', v1 = .slice (some ⟨g', 0, none⟩) (k + 1) c' := by
          rcases Joins.ownsRow_forms hown with h | h
          · exact absurd h.1 hnil
          · exact h
        have P4 : Hid (PL w4 w2.heap.size (.slice (some ⟨g', 0, none⟩) (k + 1) c') (ps ++ [⟨pieceP p zs.length m n, g3, d3, pieceD zs m n⟩])) := by
          refine PL.append (v := .slice (some ⟨g, 0, none⟩) k c) (qs := [⟨pieceP p zs.length m n, g3, d3, pieceD zs m n⟩]) (PH3.out.below (Joins.below_alloc1 _ _)) (fun x hx => ?_) ?_ hgrow
          · obtain rfl := List.mem_singleton.1 hx
            exact own_below OH3.out (Joins.below_alloc1 _ _)
          · rw [HL.out]
            simpa using hown
        have B4 : Hid (Below w2.heap.size w2 w4) := (B3.out.alloc hs3 _).grown hgrow (by simp; omega) (fun j hj => (own_lt R3 j hj).1)
        have K4 : Hid ((ps ++ [(⟨pieceP p zs.length m n, g3, d3, pieceD zs m n⟩ : PV)]).map PV.key = cutTo p zs n (k + 1)) := by
          show _ = _
          rw [List.map_append, HK.out, HM.out]
          simp [cutTo, List.range_succ, PV.key]
        have L4 : Hid ((ps ++ [(⟨pieceP p zs.length m n, g3, d3, pieceD zs m n⟩ : PV)]).length = k + 1) := by
          show _ = _
          rw [List.length_append, HL.out]; rfl
        have M4 : Hid (m + n = (k + 1) * n) := by show _ = _; rw [HM.out, Nat.add_mul]; omega
        clear hown hgrow hnil R3 PH3 OH3 B3
        go_wp2
        go_roundw
        case rel => exact ⟨m + n, k + 1, g', c', _, by go_num, rfl, by omega, M4, L4, P4, K4, B4⟩
        case measure => simp [intOf]; omega
      · go_wp2
        go_ret2
        have hkk : (zs.length + n - 1) / n = k := ceil_of (by omega) (by rw [← HM.out]; omega) (by rw [← HM.out]; omega)
        refine ⟨g, c, ps, by rw [HC.out.1, HL.out]; rfl, ?_, by rw [HC.out.2, HN.out, hkk]; exact HK.out, BH.out.trans (HB.out.mono (by omega))⟩
        rw [HL.out]
        exact HP.out.le (by omega)
end Go.Proofs.Ytjbkgmbakjnlhaa

/- An append as one step of a region that draws; small facts on owned rows. -/
namespace Go.Proofs.Ytjbkgmbakjnlhaa
open Go.RowKit

theorem own_caps {w : World} {base e size n c : Nat} {a : Option Addr} {xs : List Value} (h : w.ownsRow base e size (.slice a n c) n xs) : n ≤ c ∧ c ≤ 9223372036854775807 := by
  rcases h.2 with ⟨hv, h0⟩ | ⟨g, cap, cur, hv, _, _, hc, hm, _⟩
  · simp at hv; omega
  · simp at hv; unfold maxLen at hm; omega

/-- append to a slice of the call's own, as one step of a region that draws -/
theorem step_append_own {P : Program} {w : World} {ops : Array Oper} {o : Oper} {a : Act} {K : Act → World → Prop} {Q : Exit → Act → World → Prop} {E : Prop} (hgd : o.guard = none) (s x : Operand) (t : TypeId)
    (ho : o.op = .call { callee := .builtin .append, args := #[s, x], argTypes := #[t, t] })
    (base : Nat) (e : TypeId) (i : TypeInfo) (z : Value) (size bytes : Nat) (ht : P.underlying t = some (.slice e)) (hi : P.info? e = some i) (hz : i.zero = some z)
    (hsize : i.size = size) (hby : i.bytes = bytes) (hzs : z.cells.size = size) (hsz : 0 < size)
    (v : Value) (n : Nat) (xs : List Value) (hs : a.eval s = v) (hown : w.ownsRow base e size v n xs)
    (ad : Addr) (m c : Nat) (news : List Value) (hx : a.eval x = .slice (some ad) m c) (hl : news.length = m * size) (hnews : ∀ j u, news[j]? = some u → w.cell? (ad.add j) = some u) (h1 : ∀ u ∈ news, u.oneCell' = true)
    (h63 : n + m ≤ maxLen) (hbytes : (n + m) * bytes ≤ 140737488355328) (hbase : base ≤ w.heap.size)
    (h : ∀ v' w', w'.ownsRow base e size v' (n + m) (xs ++ news) → w.grownBy w' v.ownBlock → (v' = .slice none 0 0 ↔ v = .slice none 0 0 ∧ m = 0) → K (a.put o.dst v') w') :
    if Region.wanted o (yielded ops a.tmps) = true then Oper.wp P o a w K Q else E := by
  have hw : Region.wanted o (yielded ops a.tmps) = true := by simp [Region.wanted, hgd]
  rw [if_pos hw]
  exact wp_append_own w s x t ho base e i z size bytes ht hi hz hsize hby hzs hsz v n xs hs hown ad m c news hx hl hnews h1 h63 hbytes hbase h

/-- the same, with the slot that is written spelt out -/
theorem step_append_d {P : Program} {w : World} {ops : Array Oper} {o : Oper} {a : Act} {K : Act → World → Prop} {Q : Exit → Act → World → Prop} {E : Prop} (hgd : o.guard = none) (d : Option Tmp) (hd : o.dst = d) (s x : Operand) (t : TypeId)
    (ho : o.op = .call { callee := .builtin .append, args := #[s, x], argTypes := #[t, t] })
    (base : Nat) (e : TypeId) (i : TypeInfo) (z : Value) (size bytes : Nat) (ht : P.underlying t = some (.slice e)) (hi : P.info? e = some i) (hz : i.zero = some z)
    (hsize : i.size = size) (hby : i.bytes = bytes) (hzs : z.cells.size = size) (hsz : 0 < size)
    (v : Value) (n : Nat) (xs : List Value) (hs : a.eval s = v) (hown : w.ownsRow base e size v n xs)
    (ad : Addr) (m c : Nat) (news : List Value) (hx : a.eval x = .slice (some ad) m c) (hl : news.length = m * size) (hnews : ∀ j u, news[j]? = some u → w.cell? (ad.add j) = some u) (h1 : ∀ u ∈ news, u.oneCell' = true)
    (h63 : n + m ≤ maxLen) (hbytes : (n + m) * bytes ≤ 140737488355328) (hbase : base ≤ w.heap.size)
    (h : ∀ v' w', w'.ownsRow base e size v' (n + m) (xs ++ news) → w.grownBy w' v.ownBlock → (v' = .slice none 0 0 ↔ v = .slice none 0 0 ∧ m = 0) → K (a.put d v') w') :
    if Region.wanted o (yielded ops a.tmps) = true then Oper.wp P o a w K Q else E := by
  subst hd
  exact step_append_own hgd s x t ho base e i z size bytes ht hi hz hsize hby hzs hsz v n xs hs hown ad m c news hx hl hnews h1 h63 hbytes hbase h

/-- an operation that yields in every world that meets a condition, taken first -/
theorem take_held {P : Program} {md : Region.Mode} {ops : Array Oper} {Q : Exit → Act → World → Prop} {S : World → Prop} {fuel : Nat} {listed : Array Bool} {a : Act} {w : World} {oi : Oper} (i : Nat) (d : Option Tmp) (v : Value) (hi : ops[i]? = some oi) (hd : oi.dst = d)
    (hs : Region.noSelect ops = true) (hf : Region.free md ops listed i = true) (hr : (Region.ready md ops listed).contains i = true)
    (hQ : ∀ c a w, Q (.panic c) (a.put d v) w → Q (.panic c) a w) (hw : Region.wanted oi (yielded ops a.tmps) = true) (hy : ∀ w, S w → (execOp a.eval oi).run P w = .ok (.value v) w) (hS : S w)
    (h : wpAnyH P md ops Q S fuel (listed.setIfInBounds i true) (a.put d v) w) : wpAnyH P md ops Q S (fuel + 1) listed a w := by
  subst hd
  exact wpAnyH_take hi hs hf hr hQ (Or.inl ⟨hw, hy⟩) hS h
theorem form_of {w : World} {base e size n : Nat} {v : Value} {xs : List Value} (h : w.ownsRow base e size v n xs) (hn : v = .slice none 0 0 → False) : ∃ g c, v = .slice (some ⟨g, 0, none⟩) n c := by
  rcases Joins.ownsRow_forms h with h | h
  · exact absurd h.1 hn
  · exact h
end Go.Proofs.Ytjbkgmbakjnlhaa
