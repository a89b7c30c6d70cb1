import Derived.Test.YtjbkgmbakjnlhaaGreatDoorPartAy
import Derived.Test.YtjbkgmbakjnlhaaGreatDoorPartAc
import Derived.Test.YtjbkgmbakjnlhaaGreatDoorPartAa
import Derived.Test.YtjbkgmbakjnlhaaGreatDoorPartAx
namespace Go.Proofs.YtjbkgmbakjnlhaaGreatDoor
set_option maxRecDepth 100000
open Go.RowKit
structure PV where
 p : Pk
 g : Nat
 c : Nat
 zs : List Int
def PV.data (x : PV) : Value := .slice (some ⟨x.g, 0, none⟩) x.zs.length x.c
def PV.cells (x : PV) : List Value := (pcells x.p x.data).toList
def PV.key (x : PV) : Pk × List Int := (x.p, x.zs)
def PV.own (w : World) (lo : Nat) (x : PV) : Prop := w.ownsRow lo 5 1 x.data x.zs.length (x.zs.map (.int .u8))
structure PL (w : World) (lo : Nat) (v : Value) (ps : List PV) : Prop where
 row : w.ownsRow lo 29 9 v ps.length (ps.flatMap PV.cells)
 each : ∀ x ∈ ps, x.own w lo
theorem PV.cells_len (x : PV) : x.cells.length = 9 := rfl
theorem flat_len (ps : List PV) : (ps.flatMap PV.cells).length = ps.length * 9 := by
 induction ps with
 | nil => rfl
 | cons x r ih => simp only [List.flatMap_cons, List.length_append, ih, PV.cells_len, List.length_cons]; omega
theorem flat_at (ps : List PV) (i j : Nat) (hi : i < ps.length) (hj : j < 9) : (ps.flatMap PV.cells)[9 * i + j]? = (ps[i].cells)[j]? := by
 induction ps generalizing i with
 | nil => simp at hi
 | cons x r ih =>
  rw [List.flatMap_cons]
  match i with
  | 0 => rw [List.getElem?_append_left (by rw [PV.cells_len]; omega)]; simp
  | i + 1 =>
   rw [List.getElem?_append_right (by rw [PV.cells_len]; omega), PV.cells_len, show 9 * (i + 1) + j - 9 = 9 * i + j by omega]
   exact ih i (by simpa using hi)
theorem own_ne {w : World} {lo lo' n n' s s' : Nat} {v v' : Value} {xs xs' : List Value} (h : w.ownsRow lo 29 s v n xs) (h' : w.ownsRow lo' 5 s' v' n' xs') : ∀ k, v'.ownBlock = some k → some k ≠ v.ownBlock := by
 intro k hk hv
 rcases h.2 with ⟨e, _⟩ | ⟨g, cap, cur, e, _, hh, _⟩
 ·rw [e] at hv; cases hv
 ·rcases h'.2 with ⟨e', _⟩ | ⟨g', cap', cur', e', _, hh', _⟩
  ·rw [e'] at hk; cases hk
  ·rw [e] at hv
   rw [e'] at hk
   cases hk
   cases hv
   rw [hh] at hh'
   cases hh'
theorem PL.kept {w w' : World} {lo : Nat} {v : Value} {ps : List PV} (h : PL w lo v ps) (hk : ∀ k, lo ≤ k → k < w.heap.size → w'.heap[k]? = w.heap[k]?) : PL w' lo v ps :=
 ⟨own_kept h.row fun k e => hk k (own_lt h.row k e).1 (own_lt h.row k e).2, fun x hx => own_kept (h.each x hx) fun k e => hk k (own_lt (h.each x hx) k e).1 (own_lt (h.each x hx) k e).2⟩
theorem PL.below {w w' : World} {lo : Nat} {v : Value} {ps : List PV} (h : PL w lo v ps) (hb : Below w.heap.size w w') : PL w' lo v ps := h.kept fun k _ hk => hb.block k hk
theorem PL.grown {w w' : World} {lo rb : Nat} {v : Value} {ps : List PV} (h : PL w lo v ps) (hg : w.grownBy w' (some rb)) (hr : rb < lo) : PL w' lo v ps :=
 h.kept fun k h1 h2 => hg.block k h2 (fun e => by have := Option.some.inj e; omega)
theorem PL.le {w : World} {lo lo' : Nat} {v : Value} {ps : List PV} (h : PL w lo v ps) (hl : lo' ≤ lo) : PL w lo' v ps :=
 ⟨Joins.ownsRow_le h.row hl, fun x hx => Joins.ownsRow_le (h.each x hx) hl⟩
theorem PL.nil (w : World) (n base : Nat) (h : n = w.heap.size) (hb : base ≤ n) : PL (w.alloc (.cells #[] 29)) base (.slice (some ⟨n, 0, none⟩) 0 0) [] :=
 ⟨⟨rfl, Or.inr ⟨n, 0, #[], rfl, hb, heap_new _ _ _ h, Nat.le_refl _, by unfold maxLen; omega, rfl, rfl⟩⟩, fun x hx => by cases hx⟩
theorem PL.one (w : World) (n base : Nat) (x : PV) (h : n = w.heap.size) (hb : base ≤ n) (hx : x.own w base) : PL (w.alloc (.cells (pcells x.p x.data) 29)) base (.slice (some ⟨n, 0, none⟩) 1 1) [x] :=
 ⟨⟨rfl, Or.inr ⟨n, 1, pcells x.p x.data, rfl, hb, heap_new _ _ _ h, Nat.le_refl _, by unfold maxLen; omega, rfl, by simp [PV.cells]; rfl⟩⟩, fun y hy => by
  obtain rfl := List.mem_singleton.1 hy
  exact own_below hx (zBa _ _)⟩
theorem PL.append {w w' : World} {lo : Nat} {v v' : Value} {ps qs : List PV} (h : PL w lo v ps) (hq : ∀ x ∈ qs, x.own w lo) (ho : w'.ownsRow lo 29 9 v' (ps.length + qs.length) (ps.flatMap PV.cells ++ qs.flatMap PV.cells)) (hg : w.grownBy w' v.ownBlock) : PL w' lo v' (ps ++ qs) := by
 refine ⟨by rw [List.length_append, List.flatMap_append]; exact ho, fun x hx => ?_⟩
 have hx' : x.own w lo := by
  rcases List.mem_append.1 hx with h1 | h1
  ·exact h.each x h1
  ·exact hq x h1
 exact own_kept hx' fun k e => hg.block k (own_lt hx' k e).2 (own_ne h.row hx' k e)
theorem PL.at {w : World} {lo g c : Nat} {ps : List PV} (h : PL w lo (.slice (some ⟨g, 0, none⟩) ps.length c) ps) (i j : Nat) (hi : i < ps.length) (hj : j < 9) : w.cell? ⟨g, 9 * i + j, none⟩ = (ps[i].cells)[j]? := by
 rw [h.row.cellAt _ (by omega), flat_at ps i j hi hj]
theorem nine_one (p : Pk) (a : Option Addr) (n c : Nat) : ∀ u ∈ (pcells p (.slice a n c)).toList, u.oneCell' = true := by
 intro u hu
 simp [pcells] at hu
 rcases hu with rfl | rfl | rfl | rfl | rfl | rfl | rfl | rfl | rfl <;> rfl
theorem flat_one (ps : List PV) : ∀ u ∈ ps.flatMap PV.cells, u.oneCell' = true := by
 intro u hu
 obtain ⟨x, _, hx⟩ := List.mem_flatMap.1 hu
 exact nine_one _ _ _ _ u hx
def sizeI (p : Pk) (len : Nat) : Int := if okB p len = true then 8 + (len : Int) else 0
set_option maxHeartbeats 400000 in
theorem specSize_any (p : Pk) (a : Option Addr) (len cap : Nat) (w : World) (hl : len ≤ 1048576) :
  Calls Tryz.prog 78 #[p.val (.slice a len cap)] w fun e w' => e = .returned (.int .i64 (sizeI p len)) ∧ Below w.heap.size w w' := by
 unfold Pk.val
 cases hv : okB p len
 all_goals
  have HS : Hid (sizeI p len = if okB p len = true then 8 + (len : Int) else 0) := rfl
  go_enter Tryz.func78, Tryz.ntmps78
  go_wp2_with fail
  refine (specOk_any p a len cap _ hl).mono ?_
  rintro e w1 ⟨rfl, b1⟩
  have X := (Boxed.new w p (.slice a len cap) 29).below b1
  have B : Below w.heap.size w w1 := (zBa _ _).trans (b1.mono (by simp))
  obtain ⟨hlt, c0, c1, c2, c3, c4, c5, c6, c7, c8⟩ := X
  clear b1
  go_wp2
  go_ret
  exact ⟨ret_int (by rw [HS.out, hv]; simp), B⟩
def cutN (most : Int) : Nat := ((most - 8) / 4 * 4).toNat
def cutTo (p : Pk) (zs : List Int) (n k : Nat) : List (Pk × List Int) := (List.range k).map fun i => (pieceP p zs.length (i * n) n, pieceD zs (i * n) n)
def cutC (p : Pk) (len : Nat) (most : Int) : Int := if okB p len = true then (if most < 12 then 2 else if 8 + (len : Int) ≤ most then 0 else if p.whole = true then 3 else 0) else 1
def cutL (p : Pk) (zs : List Int) (most : Int) : List (Pk × List Int) :=
 if okB p zs.length = true then (if most < 12 then [] else if 8 + (zs.length : Int) ≤ most then [(p, zs)] else if p.whole = true then [] else cutTo p zs (cutN most) ((zs.length + cutN most - 1) / cutN most)) else []
theorem Tryz.info29 : (Tryz.prog.info? 29).map (fun i => (i.zero, i.size, i.bytes)) = some (some (.agg #[.int .i64 0, .int .i64 0, .int .i64 0, .int .i64 0, .int .i64 0, .bool false, .int .i64 0, .bool false, .slice none 0 0]), 9, 88) := by kernel_rfl
def CutPost (p : Pk) (zs : List Int) (most : Int) (w : World) (e : Ending) (w' : World) : Prop :=
 ∃ (g c : Nat) (ps : List PV), e = .returned (.tuple #[.slice (some ⟨g, 0, none⟩) ps.length c, .int .i64 (cutC p zs.length most)]) ∧ PL w' w.heap.size (.slice (some ⟨g, 0, none⟩) ps.length c) ps ∧ ps.map PV.key = cutL p zs most ∧ Below w.heap.size w w'
theorem nine_new (w : World) (p : Pk) (v : Value) : ∀ j u, (pcells p v).toList[j]? = some u → (w.alloc (.cells (pcells p v) 29)).cell? ((Addr.mk w.heap.size 0 none).add j) = some u := by
 intro j u hu
 rw [add_none, Nat.zero_add, World.cell?_alloc_at _ _ _ _ rfl]
 simpa using hu
theorem ceil_of {a n k : Nat} (_hn : 0 < n) (h1 : k * n < a + n) (h2 : a ≤ k * n) : (a + n - 1) / n = k := by
 apply Nat.div_eq_of_lt_le
 ·omega
 ·rw [Nat.add_mul]; omega
theorem ok_off {p : Pk} {len : Nat} (h : okB p len = true) : 0 ≤ p.off ∧ p.off ≤ 128 := by
 simp only [okB, offB, inB, Bool.and_eq_true, decide_eq_true_eq] at h
 omega
set_option maxHeartbeats 1600000 in
theorem specCut_any (p : Pk) (ad : Addr) (cap : Nat) (zs : List Int) (most : Int) (w : World) (hr : RdB w (some ad) zs.length zs) (hl : zs.length ≤ 1048576) (hc : zs.length ≤ cap) (hcm : cap ≤ 9223372036854775807) (hm1 : -9223372036854775808 ≤ most) (hm2 : most ≤ 9223372036854775807) :
  Calls Tryz.prog 50 #[p.val (.slice (some ad) zs.length cap), .int .i64 most] w (CutPost p zs most w) := by
 unfold Pk.val
 cases hv : okB p zs.length
 ·have HC : Hid (cutC p zs.length most = 1 ∧ cutL p zs most = []) := by constructor <;> simp [cutC, cutL, hv]
  go_enter Tryz.func50, Tryz.ntmps50
  go_wp2_with fail
  refine (specOk_any p (some ad) zs.length cap _ hl).mono ?_
  rintro e w1 ⟨rfl, b1⟩
  have B1 : Below w.heap.size w w1 := (zBa _ _).trans (b1.mono (by simp))
  have X1 : Boxed w1 w.heap.size p (.slice (some ad) zs.length cap) := (Boxed.new w p (.slice (some ad) zs.length cap) 29).below b1
  clear b1
  have BH : Hid (Below w.heap.size w w1) := B1
  have hs1 := B1.size
  clear B1 X1
  go_wp2
  go_ret2
  exact ⟨w1.heap.size, 0, [], by rw [HC.out.1]; rfl, PL.nil _ _ _ rfl hs1, by rw [HC.out.2]; rfl, BH.out.alloc hs1 _⟩
 by_cases h12 : most < 12
 ·have HC : Hid (cutC p zs.length most = 2 ∧ cutL p zs most = []) := by constructor <;> simp [cutC, cutL, hv, h12]
  go_enter Tryz.func50, Tryz.ntmps50
  go_wp2_with fail
  refine (specOk_any p (some ad) zs.length cap _ hl).mono ?_
  rintro e w1 ⟨rfl, b1⟩
  have B1 : Below w.heap.size w w1 := (zBa _ _).trans (b1.mono (by simp))
  have X1 : Boxed w1 w.heap.size p (.slice (some ad) zs.length cap) := (Boxed.new w p (.slice (some ad) zs.length cap) 29).below b1
  clear b1
  have BH : Hid (Below w.heap.size w w1) := B1
  have hs1 := B1.size
  clear B1 X1
  go_wp2
  go_ret2
  exact ⟨w1.heap.size, 0, [], by rw [HC.out.1]; rfl, PL.nil _ _ _ rfl hs1, by rw [HC.out.2]; rfl, BH.out.alloc hs1 _⟩
 have HS : Hid (sizeI p zs.length = 8 + (zs.length : Int)) := by show sizeI p zs.length = _; unfold sizeI; rw [hv]; rfl
 have size : ∀ (W : World), Calls Tryz.prog 78 #[p.val (.slice (some ad) zs.length cap)] W fun e w' => e = .returned (.int .i64 (8 + (zs.length : Int))) ∧ Below W.heap.size W w' := fun W => by
  have h := specSize_any p (some ad) zs.length cap W hl
  rw [HS.out] at h
  exact h
 have SZ : Hid (∀ (W : World), Calls Tryz.prog 78 #[p.val (.slice (some ad) zs.length cap)] W fun e w' => e = .returned (.int .i64 (8 + (zs.length : Int))) ∧ Below W.heap.size W w') := size
 clear size HS
 by_cases hfit : 8 + (zs.length : Int) ≤ most
 ·have HC : Hid (cutC p zs.length most = 0 ∧ cutL p zs most = [(p, zs)]) := by constructor <;> simp [cutC, cutL, hv, h12, hfit]
  go_enter Tryz.func50, Tryz.ntmps50
  go_wp2_with fail
  refine (specOk_any p (some ad) zs.length cap _ hl).mono ?_
  rintro e w1 ⟨rfl, b1⟩
  have B1 : Below w.heap.size w w1 := (zBa _ _).trans (b1.mono (by simp))
  have X1 : Boxed w1 w.heap.size p (.slice (some ad) zs.length cap) := (Boxed.new w p (.slice (some ad) zs.length cap) 29).below b1
  clear b1
  obtain ⟨hlt, c0, c1, c2, c3, c4, c5, c6, c7, c8⟩ := id X1
  go_wp2_with fail
  refine (SZ.out _).mono ?_
  rintro e w2 ⟨rfl, b2⟩
  have B2 : Below w.heap.size w w2 := B1.trans (b2.mono (by omega))
  have X2 := X1.below b2
  clear c0 c1 c2 c3 c4 c5 c6 c7 c8 b2 B1 X1 hlt
  obtain ⟨hlt, c0, c1, c2, c3, c4, c5, c6, c7, c8⟩ := id X2
  go_wp2_with fail
  refine (l1Copy_any p ad zs.length cap zs _ (hr.below B2) hl).mono ?_
  rintro e w3 ⟨g, c, rfl, o3, b3⟩
  have BH : Hid (Below w.heap.size w w3) := B2.trans (b3.mono (by omega))
  have OH : Hid (w3.ownsRow w.heap.size 5 1 (.slice (some ⟨g, 0, none⟩) zs.length c) zs.length (zs.map (.int .u8))) := Joins.ownsRow_le o3 (by omega)
  have hs3 := BH.out.size
  clear c0 c1 c2 c3 c4 c5 c6 c7 c8 b3 B2 X2 o3
  unfold Pk.val
  go_wp2
  go_ret2
  exact ⟨w3.heap.size, 1, [⟨p, g, c, zs⟩], by rw [HC.out.1]; rfl, PL.one w3 _ _ ⟨p, g, c, zs⟩ rfl hs3 OH.out, by rw [HC.out.2]; rfl, BH.out.alloc hs3 _⟩
 have whole_of : p.whole = true ∨ p.whole = false := by cases p.whole <;> simp
 rcases whole_of with hw | hw
 ·have HC : Hid (cutC p zs.length most = 3 ∧ cutL p zs most = []) := by constructor <;> simp [cutC, cutL, hv, h12, hfit, hw]
  have HW : Hid (p.whole = true) := hw
  clear hw
  go_enter Tryz.func50, Tryz.ntmps50
  go_wp2_with fail
  refine (specOk_any p (some ad) zs.length cap _ hl).mono ?_
  rintro e w1 ⟨rfl, b1⟩
  have B1 : Below w.heap.size w w1 := (zBa _ _).trans (b1.mono (by simp))
  have X1 : Boxed w1 w.heap.size p (.slice (some ad) zs.length cap) := (Boxed.new w p (.slice (some ad) zs.length cap) 29).below b1
  clear b1
  obtain ⟨hlt, c0, c1, c2, c3, c4, c5, c6, c7, c8⟩ := id X1
  go_wp2_with fail
  refine (SZ.out _).mono ?_
  rintro e w2 ⟨rfl, b2⟩
  have BH : Hid (Below w.heap.size w w2) := B1.trans (b2.mono (by omega))
  have X2 := X1.below b2
  have hs2 := BH.out.size
  clear c0 c1 c2 c3 c4 c5 c6 c7 c8 b2 B1 X1 hlt
  obtain ⟨hlt, c0, c1, c2, c3, c4, c5, c6, c7, c8⟩ := id X2
  rw [HW.out] at c5
  go_wp2
  go_ret2
  exact ⟨w2.heap.size, 0, [], by rw [HC.out.1]; rfl, PL.nil _ _ _ rfl hs2, by rw [HC.out.2]; rfl, BH.out.alloc hs2 _⟩
 ·obtain ⟨n, hn⟩ : ∃ n : Nat, (most - 8) / 4 * 4 = (n : Int) := ⟨((most - 8) / 4 * 4).toNat, by omega⟩
  have hn4 : 4 ≤ n := by omega
  have hnl : n < zs.length := by omega
  have HN : Hid (cutN most = n) := by show cutN most = n; unfold cutN; rw [hn]; simp
  have HC : Hid (cutC p zs.length most = 0 ∧ cutL p zs most = cutTo p zs (cutN most) ((zs.length + cutN most - 1) / cutN most)) := by constructor <;> simp [cutC, cutL, hv, h12, hfit, hw]
  obtain ⟨i1, hi1, hy0, hy1, hy2⟩ := info_parts Tryz.info29
  have hoff := ok_off hv
  have HW : Hid (p.whole = false) := hw
  clear hw
  go_enter Tryz.func50, Tryz.ntmps50
  go_wp2_with fail
  refine (specOk_any p (some ad) zs.length cap _ hl).mono ?_
  rintro e w1 ⟨rfl, b1⟩
  have B1 : Below w.heap.size w w1 := (zBa _ _).trans (b1.mono (by simp))
  have X1 : Boxed w1 w.heap.size p (.slice (some ad) zs.length cap) := (Boxed.new w p (.slice (some ad) zs.length cap) 29).below b1
  clear b1
  obtain ⟨hlt, c0, c1, c2, c3, c4, c5, c6, c7, c8⟩ := id X1
  go_wp2_with fail
  refine (SZ.out _).mono ?_
  rintro e w2 ⟨rfl, b2⟩
  have B2 : Below w.heap.size w w2 := B1.trans (b2.mono (by omega))
  have X2 := X1.below b2
  have hs2 := B2.size
  clear c0 c1 c2 c3 c4 c5 c6 c7 c8 b2 B1 X1 hlt
  obtain ⟨hlt, c0, c1, c2, c3, c4, c5, c6, c7, c8⟩ := id X2
  have c5' := c5
  rw [HW.out] at c5'
  clear c5
  have PH : Hid (PL (w2.alloc (.cells #[] 29)) w2.heap.size (.slice (some ⟨w2.heap.size, 0, none⟩) 0 0) []) := PL.nil _ _ _ rfl (Nat.le_refl _)
  have XH : Hid (Boxed w2 w.heap.size p (.slice (some ad) zs.length cap)) := X2
  have BH : Hid (Below w.heap.size w w2) := B2
  clear B2 X2
  go_wp2
  go_loopw [7, 8] (fun v i wr => ∃ (m k g c : Nat) (ps : List PV), i = .int .i64 m ∧ v = .slice (some ⟨g, 0, none⟩) k c ∧ m < zs.length + n ∧ Hid (m = k * n) ∧ Hid (ps.length = k) ∧ Hid (PL wr w2.heap.size (.slice (some ⟨g, 0, none⟩) k c) ps) ∧ Hid (ps.map PV.key = cutTo p zs n k) ∧ Hid (Below w2.heap.size w2 wr)) (fun _ i _ => zs.length + n - (intOf i).toNat)
  case atStart => exact ⟨0, 0, w2.heap.size, 0, [], rfl, rfl, by omega, (show (0 : Nat) = 0 * n by simp), rfl, PH.out, rfl, (Below.refl _ _).alloc (Nat.le_refl _) _⟩
  case round =>
   obtain ⟨m, k, g, c, ps, rfl, rfl, hm, HM, HL, HP, HK, HB⟩ := hrel
   have hb2 := HB.out.size
   have X3 := XH.out.below HB.out
   clear c0 c1 c2 c3 c4 c5' c6 c7 c8
   obtain ⟨hlt3, c0, c1, c2, c3, c4, c5, c6, c7, c8⟩ := id X3
   by_cases hmk : m < zs.length
   ·go_wp2_with fail
    refine (l2Piece_any p ad zs.length cap m n zs _ (hr.below (BH.out.trans (HB.out.mono (by omega)))) hl hc hcm hmk (by omega) hoff.1 (by omega)).mono ?_
    rintro e w3 ⟨g3, d3, rfl, o3, b3⟩
    have P3 := HP.out.below b3
    have O3 : w3.ownsRow w2.heap.size 5 1 (.slice (some ⟨g3, 0, none⟩) (pieceD zs m n).length d3) (pieceD zs m n).length ((pieceD zs m n).map (.int .u8)) := Joins.ownsRow_le o3 (by omega)
    have B3 : Hid (Below w2.heap.size w2 w3) := HB.out.trans (b3.mono (by omega))
    have hs3 : w2.heap.size ≤ w3.heap.size := B3.out.size
    have R3 : w3.ownsRow w2.heap.size 29 9 (.slice (some ⟨g, 0, none⟩) k c) k (ps.flatMap PV.cells) := by have h := P3.row; rw [HL.out] at h; exact h
    have hkm : k ≤ 2097152 := by have e := HM.out; have : k ≤ k * n := Nat.le_mul_of_pos_right k (by omega); omega
    clear c0 c1 c2 c3 c4 c5 c6 c7 c8 X3 b3 o3 HP HB
    have PH3 : Hid (PL w3 w2.heap.size (.slice (some ⟨g, 0, none⟩) k c) ps) := P3
    have OH3 : Hid (w3.ownsRow w2.heap.size 5 1 (.slice (some ⟨g3, 0, none⟩) (pieceD zs m n).length d3) (pieceD zs m n).length ((pieceD zs m n).map (.int .u8))) := O3
    clear P3 O3
    unfold Pk.val
    go_wp2_with (at_builtin; refine wpList_append_own _ rfl _ _ 23 rfl w2.heap.size 29 i1 _ 9 88 Tryz.underlying23 hi1 hy0 hy1 hy2 rfl (by decide) (.slice (some ⟨g, 0, none⟩) k c) k (ps.flatMap PV.cells) rfl (R3.alloc _) ⟨w3.heap.size, 0, none⟩ 1 1 (PV.cells ⟨pieceP p zs.length m n, g3, d3, pieceD zs m n⟩) rfl rfl ?h1 ?h2 ?h3 ?h4 ?h5 ?_)
    case h1 => exact nine_new w3 _ _
    case h2 => exact nine_one _ _ _ _
    case h3 => unfold maxLen; omega
    case h4 => omega
    case h5 => simp; omega
    intro v1 w4 hown hgrow hnil
    obtain ⟨g', c', rfl⟩ : ∃ g' c', v1 = .slice (some ⟨g', 0, none⟩) (k + 1) c' := by
     rcases Joins.ownsRow_forms hown with h | h
     ·exact absurd h.1 hnil
     ·exact h
    have P4 : Hid (PL w4 w2.heap.size (.slice (some ⟨g', 0, none⟩) (k + 1) c') (ps ++ [⟨pieceP p zs.length m n, g3, d3, pieceD zs m n⟩])) := by
     refine PL.append (v := .slice (some ⟨g, 0, none⟩) k c) (qs := [⟨pieceP p zs.length m n, g3, d3, pieceD zs m n⟩]) (PH3.out.below (zBa _ _)) (fun x hx => ?_) ?_ hgrow
     ·obtain rfl := List.mem_singleton.1 hx
      exact own_below OH3.out (zBa _ _)
     ·rw [HL.out]
      simpa using hown
    have B4 : Hid (Below w2.heap.size w2 w4) := (B3.out.alloc hs3 _).grown hgrow (by simp; omega) (fun j hj => (own_lt R3 j hj).1)
    have K4 : Hid ((ps ++ [(⟨pieceP p zs.length m n, g3, d3, pieceD zs m n⟩ : PV)]).map PV.key = cutTo p zs n (k + 1)) := by
     show _ = _
     rw [List.map_append, HK.out, HM.out]
     simp [cutTo, List.range_succ, PV.key]
    have L4 : Hid ((ps ++ [(⟨pieceP p zs.length m n, g3, d3, pieceD zs m n⟩ : PV)]).length = k + 1) := by
     show _ = _
     rw [List.length_append, HL.out]; rfl
    have M4 : Hid (m + n = (k + 1) * n) := by show _ = _; rw [HM.out, Nat.add_mul]; omega
    clear hown hgrow hnil R3 PH3 OH3 B3
    go_wp2
    go_roundw
    case rel => exact ⟨m + n, k + 1, g', c', _, by go_num, rfl, by omega, M4, L4, P4, K4, B4⟩
    case measure => simp [intOf]; omega
   ·go_wp2
    go_ret2
    have hkk : (zs.length + n - 1) / n = k := ceil_of (by omega) (by rw [← HM.out]; omega) (by rw [← HM.out]; omega)
    refine ⟨g, c, ps, by rw [HC.out.1, HL.out]; rfl, ?_, by rw [HC.out.2, HN.out, hkk]; exact HK.out, BH.out.trans (HB.out.mono (by omega))⟩
    rw [HL.out]
    exact HP.out.le (by omega)
end Go.Proofs.YtjbkgmbakjnlhaaGreatDoor
