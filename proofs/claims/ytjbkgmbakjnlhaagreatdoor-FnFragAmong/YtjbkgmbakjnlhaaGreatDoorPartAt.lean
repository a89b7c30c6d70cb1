import Derived.Test.YtjbkgmbakjnlhaaGreatDoorPartAs
import Derived.Test.YtjbkgmbakjnlhaaGreatDoorPartAb
import Derived.Test.YtjbkgmbakjnlhaaGreatDoorPartAc
import Derived.Test.YtjbkgmbakjnlhaaGreatDoorPartAa
namespace Go.Proofs.YtjbkgmbakjnlhaaGreatDoor
set_option maxRecDepth 100000
open Go.RowKit
def PktPost (rb M lo : Nat) (Q : Pk → Nat → Prop) (w : World) (e : Ending) (w' : World) : Prop :=
 ∃ (p : Pk) (g c len : Nat) (zs : List Int), e = .returned (p.val (.slice (some ⟨g, 0, none⟩) len c)) ∧ w'.ownsRow lo 5 1 (.slice (some ⟨g, 0, none⟩) len c) len (zs.map (.int .u8)) ∧ zs.length = len ∧ len ≤ 200 ∧ Q p len ∧ Rdr w' rb M ∧ w.grownBy w' (some rb) ∧ ∀ z ∈ zs, 0 ≤ z ∧ z ≤ 255
def WholeOk (p : Pk) (len : Nat) : Prop := okB p len = true ∧ p.whole = false ∧ p.off = 0 ∧ p.more = false
theorem own_len {w : World} {base len c : Nat} {a : Option Addr} {zs : List Int} (h : w.ownsRow base 5 1 (.slice a len c) len (zs.map (.int .u8))) : zs.length = len := by
 have := h.1; simpa using this
theorem lt_of_block {w : World} {b : Nat} {o : Obj} (h : w.heap[b]? = some o) : b < w.heap.size := by
 rcases Nat.lt_or_ge b w.heap.size with h' | h'
 ·exact h'
 ·rw [Array.getElem?_eq_none h'] at h; cases h
theorem tab9 (X : Nat) (h : X < 9) : ∃ m : Nat, m ≤ 128 ∧ (#[Value.int IntKind.i64 0, .int .i64 1, .int .i64 4, .int .i64 5, .int .i64 12, .int .i64 31, .int .i64 64, .int .i64 127, .int .i64 128] : Array Value)[X]? = some (.int .i64 m) := by
 match X, h with
 | 0, _ => exact ⟨0, by omega, rfl⟩
 | 1, _ => exact ⟨1, by omega, rfl⟩
 | 2, _ => exact ⟨4, by omega, rfl⟩
 | 3, _ => exact ⟨5, by omega, rfl⟩
 | 4, _ => exact ⟨12, by omega, rfl⟩
 | 5, _ => exact ⟨31, by omega, rfl⟩
 | 6, _ => exact ⟨64, by omega, rfl⟩
 | 7, _ => exact ⟨127, by omega, rfl⟩
 | 8, _ => exact ⟨128, by omega, rfl⟩
theorem mul_in {a b : Int} (a0 : 0 ≤ a) (a1 : a < 5) (b0 : 0 ≤ b) (b1 : b < 16) : 0 ≤ a * b ∧ a * b ≤ 60 := by
 rcases (show a = 0 ∨ a = 1 ∨ a = 2 ∨ a = 3 ∨ a = 4 from by omega) with rfl | rfl | rfl | rfl | rfl <;> omega
theorem grown_b {a b c : World} {rb B : Nat} (h : a.grownBy b (some rb)) (hb : Below B b c) (hB : a.heap.size ≤ B) : a.grownBy c (some rb) :=
 ⟨hb.os.trans h.os, hb.tape.trans h.tape, hb.output.trans h.output, Nat.le_trans h.size hb.size, fun i hi hne => (hb.block i (by omega)).trans (h.block i hi hne)⟩
theorem Rdr.upto {w w' : World} {rb N B : Nat} (h : Rdr w rb N) (hb : Below B w w') (hB : rb < B) : Rdr w' rb N := h.keep hb.size fun j hj => hb.block j (by omega)
theorem wholeOk {s d k i x : Int} {len : Nat} (s0 : 0 ≤ s) (s2 : s < 3) (d0 : 0 ≤ d) (d2 : d < 2) (k0 : 0 ≤ k) (k2 : k < 2) (i0 : 0 ≤ i) (i2 : i < 2) (hx : 0 ≤ x ∧ x ≤ 60) (hl : len ≤ 128) :
  WholeOk ⟨s, 256 * d, 1 + k, i, 1 + x, false, 0, false⟩ len := by
 refine ⟨?_, rfl, rfl, rfl⟩
 simp [okB, headB, offB, moreB, wholeB, inB]
 omega
set_option maxHeartbeats 3200000 in
theorem l5Whole_any (rb N : Nat) (w : World) (hR : Rdr w rb N) (hN : N ≤ 890000) :
  Calls Tryz.prog 48 #[.pointer (some ⟨rb, 0, none⟩)] w (PktPost rb (N + 700) w.heap.size WholeOk w) := by
 have hlt := hR.lt
 have hne : some w.heap.size ≠ some rb := fun e => by have := Option.some.inj e; omega
 go_enter Tryz.func48, Tryz.ntmps48
 go_wp2_with fail
 refine (pick_any rb N 9 _ (hR.below (Joins.below_alloc2 _ _ _)) (by omega) (by omega) (by omega)).mono ?_
 rintro e w1 ⟨x, rfl, hx0, hx1, -, R1, G⟩
 obtain ⟨X, rfl⟩ := Int.eq_ofNat_of_zero_le hx0
 have hX : X < 9 := by have := hx1 (by omega); omega
 obtain ⟨m, hm, htab⟩ := tab9 X hX
 have Z1 : w1.heap[w.heap.size]? = some (.cells (pcells zeroPk (.slice none 0 0)) 29 (0, 0)) := (G.block _ (by simp; omega) hne).trans (by rw [zHa (by simp)]; exact heap_new _ _ _ rfl)
 have hcX : w1.cell? ⟨w.heap.size + 1, X, none⟩ = some (.int .i64 m) := by
  rw [Joins.cell_of_block ((G.block _ (by simp) (fun e => by have := Option.some.inj e; omega)).trans (heap_new _ _ _ (by simp))) X]
  exact htab
 have G1 : w.grownBy w1 (some rb) := grown_trans (grown_below (Joins.below_alloc2 _ _ _)) G
 have hXi : (X : Int) < 9 := by omega
 clear G htab hR
 go_wp2_with fail
 refine (pick_any rb (N + 1) 2 _ R1 (by omega) (by omega) (by omega)).mono ?_
 rintro e w2 ⟨y, rfl, hy0, hy1, -, R2, G⟩
 have Z2 := (G.block _ (lt_of_block Z1) hne).trans Z1
 have G2 := grown_trans G1 G
 clear R1 Z1 G1 G hcX
 by_cases hy : y = 0
 ·subst hy
  go_wp2_with fail
  refine (pick_any rb (N + 1 + 1) 40 _ R2 (by omega) (by omega) (by omega)).mono ?_
  rintro e w3 ⟨z, rfl, hz0, hz1, -, R3, G⟩
  have Z3 := (G.block _ (lt_of_block Z2) hne).trans Z2
  have G3 := grown_trans G2 G
  clear R2 Z2 G2 G
  obtain ⟨m', rfl⟩ := Int.eq_ofNat_of_zero_le hz0
  have hm' : m' < 40 := by have := hz1 (by omega); omega
  go_wp2_with fail
  refine (pick_any rb (N + 1 + 1 + 1) 3 _ R3 (by omega) (by omega) (by omega)).mono ?_
  rintro e w4 ⟨s, rfl, s0, s1, -, R4, G⟩
  have Z4 := (G.block _ (lt_of_block Z3) hne).trans Z3
  have G4 := grown_trans G3 G
  have s2 := s1 (by omega)
  clear R3 Z3 G3 G s1
  go_wp2_with fail
  refine (pick_any rb (N + 1 + 1 + 1 + 1) 2 _ R4 (by omega) (by omega) (by omega)).mono ?_
  rintro e w5 ⟨d, rfl, d0, d1, -, R5, G⟩
  have Z5 := (G.block _ (lt_of_block Z4) hne).trans Z4
  have G5 := grown_trans G4 G
  have d2 := d1 (by omega)
  clear R4 Z4 G4 G d1
  go_wp2_with fail
  refine (pick_any rb (N + 1 + 1 + 1 + 1 + 1) 2 _ R5 (by omega) (by omega) (by omega)).mono ?_
  rintro e w6 ⟨k, rfl, k0, k1, -, R6, G⟩
  have Z6 := (G.block _ (lt_of_block Z5) hne).trans Z5
  have G6 := grown_trans G5 G
  have k2 := k1 (by omega)
  clear R5 Z5 G5 G k1
  go_wp2_with fail
  refine (pick_any rb (N + 1 + 1 + 1 + 1 + 1 + 1) 2 _ R6 (by omega) (by omega) (by omega)).mono ?_
  rintro e w7 ⟨i, rfl, i0, i1, -, R7, G⟩
  have Z7 := (G.block _ (lt_of_block Z6) hne).trans Z6
  have G7 := grown_trans G6 G
  have i2 := i1 (by omega)
  clear R6 Z6 G6 G i1
  go_wp2_with fail
  refine (pick_any rb (N + 1 + 1 + 1 + 1 + 1 + 1 + 1) 5 _ R7 (by omega) (by omega) (by omega)).mono ?_
  rintro e w8 ⟨ha, rfl, ha0, ha1, -, R8, G⟩
  have Z8 := (G.block _ (lt_of_block Z7) hne).trans Z7
  have G8 := grown_trans G7 G
  have ha2 := ha1 (by omega)
  clear R7 Z7 G7 G ha1
  go_wp2_with fail
  refine (pick_any rb (N + 1 + 1 + 1 + 1 + 1 + 1 + 1 + 1) 16 _ R8 (by omega) (by omega) (by omega)).mono ?_
  rintro e w9 ⟨hb, rfl, hb0, hb1, -, R9, G⟩
  have Z9 := (G.block _ (lt_of_block Z8) hne).trans Z8
  have G9 := grown_trans G8 G
  have hb2 := hb1 (by omega)
  clear R8 Z8 G8 G hb1
  have hmul := mul_in ha0 ha2 hb0 hb2
  have hw1 : wrap64 (ha * hb) = ha * hb := wrap_small hmul.1 (by omega)
  go_wp2_with fail
  refine (l5Data_any rb (N + 1 + 1 + 1 + 1 + 1 + 1 + 1 + 1 + 1) m' _ R9 (by omega) (by omega)).mono ?_
  rintro e w10 ⟨g, c, zs, rfl, O, R10, G, hby⟩
  have Z10 := (G.block _ (lt_of_block Z9) hne).trans Z9
  have G10 := grown_trans G9 G
  have hs10 := G9.size
  have OW : Hid (w10.ownsRow (w.heap.size + 1) 5 1 (.slice (some ⟨g, 0, none⟩) m' c) m' (zs.map (.int .u8))) := Joins.ownsRow_le O (by have := lt_of_block Z9; omega)
  have hzl := own_len O
  have HBY : Hid (∀ z ∈ zs, 0 ≤ z ∧ z ≤ 255) := hby
  clear hby
  have GH : Hid (w.grownBy w10 (some rb)) := G10
  have RH : Hid (Rdr w10 rb (N + 700)) := R10.mono (by omega)
  have fz : ∀ o, w10.frozen? ⟨w.heap.size, o, none⟩ = false := fun o => zUf Z10 o
  obtain ⟨zlt, z0, z1, z2, z3, z4, z5, z6, z7, z8⟩ := Boxed.of_block Z10
  clear O R9 R10 Z9 G9 G G10 Z10
  go_wp2
  refine bodyPost_ret (v := Pk.val ⟨s, 256 * d, 1 + k, i, 1 + ha * hb, false, 0, false⟩ (.slice (some ⟨g, 0, none⟩) m' c)) (by simp [results, Tryz.results48, go_sem, z0, z1, z2, z3, z4, z5, z6, z7, z8, Pk.val]) rfl ?_
  have hb9 := below9 (B := w.heap.size) (Below.refl _ w10) (Nat.le_refl _) (.int .i64 s) (.int .i64 (256 * d)) (.int .i64 (1 + k)) (.int .i64 i) (.int .i64 (1 + ha * hb)) (.bool false) (.int .i64 0) (.bool false) (.slice (some ⟨g, 0, none⟩) m' c)
  exact ⟨_, g, c, m', zs, rfl, Joins.ownsRow_le (own9 OW.out (by omega) _ _ _ _ _ _ _ _ _) (by omega), hzl, by omega, wholeOk s0 s2 d0 d2 k0 k2 i0 i2 hmul (by omega), RH.out.upto hb9 hlt, grown_b GH.out hb9 (Nat.le_refl _), HBY.out⟩
 ·have hyb : (y == 0) = false := by simp [hy]
  go_wp2_with fail
  refine (pick_any rb (N + 1 + 1) 3 _ R2 (by omega) (by omega) (by omega)).mono ?_
  rintro e w3 ⟨s, rfl, s0, s1, -, R3, G⟩
  have Z3 := (G.block _ (lt_of_block Z2) hne).trans Z2
  have G3 := grown_trans G2 G
  have s2 := s1 (by omega)
  clear R2 Z2 G2 G s1
  go_wp2_with fail
  refine (pick_any rb (N + 1 + 1 + 1) 2 _ R3 (by omega) (by omega) (by omega)).mono ?_
  rintro e w4 ⟨d, rfl, d0, d1, -, R4, G⟩
  have Z4 := (G.block _ (lt_of_block Z3) hne).trans Z3
  have G4 := grown_trans G3 G
  have d2 := d1 (by omega)
  clear R3 Z3 G3 G d1
  go_wp2_with fail
  refine (pick_any rb (N + 1 + 1 + 1 + 1) 2 _ R4 (by omega) (by omega) (by omega)).mono ?_
  rintro e w5 ⟨k, rfl, k0, k1, -, R5, G⟩
  have Z5 := (G.block _ (lt_of_block Z4) hne).trans Z4
  have G5 := grown_trans G4 G
  have k2 := k1 (by omega)
  clear R4 Z4 G4 G k1
  go_wp2_with fail
  refine (pick_any rb (N + 1 + 1 + 1 + 1 + 1) 2 _ R5 (by omega) (by omega) (by omega)).mono ?_
  rintro e w6 ⟨i, rfl, i0, i1, -, R6, G⟩
  have Z6 := (G.block _ (lt_of_block Z5) hne).trans Z5
  have G6 := grown_trans G5 G
  have i2 := i1 (by omega)
  clear R5 Z5 G5 G i1
  go_wp2_with fail
  refine (pick_any rb (N + 1 + 1 + 1 + 1 + 1 + 1) 5 _ R6 (by omega) (by omega) (by omega)).mono ?_
  rintro e w7 ⟨ha, rfl, ha0, ha1, -, R7, G⟩
  have Z7 := (G.block _ (lt_of_block Z6) hne).trans Z6
  have G7 := grown_trans G6 G
  have ha2 := ha1 (by omega)
  clear R6 Z6 G6 G ha1
  go_wp2_with fail
  refine (pick_any rb (N + 1 + 1 + 1 + 1 + 1 + 1 + 1) 16 _ R7 (by omega) (by omega) (by omega)).mono ?_
  rintro e w8 ⟨hb, rfl, hb0, hb1, -, R8, G⟩
  have Z8 := (G.block _ (lt_of_block Z7) hne).trans Z7
  have G8 := grown_trans G7 G
  have hb2 := hb1 (by omega)
  clear R7 Z7 G7 G hb1
  have hmul := mul_in ha0 ha2 hb0 hb2
  have hw1 : wrap64 (ha * hb) = ha * hb := wrap_small hmul.1 (by omega)
  go_wp2_with fail
  refine (l5Data_any rb (N + 1 + 1 + 1 + 1 + 1 + 1 + 1 + 1) m _ R8 (by omega) (by omega)).mono ?_
  rintro e w9 ⟨g, c, zs, rfl, O, R9, G, hby⟩
  have Z9 := (G.block _ (lt_of_block Z8) hne).trans Z8
  have G9 := grown_trans G8 G
  have hs9 := G8.size
  have OW : Hid (w9.ownsRow (w.heap.size + 1) 5 1 (.slice (some ⟨g, 0, none⟩) m c) m (zs.map (.int .u8))) := Joins.ownsRow_le O (by have := lt_of_block Z8; omega)
  have hzl := own_len O
  have HBY : Hid (∀ z ∈ zs, 0 ≤ z ∧ z ≤ 255) := hby
  clear hby
  have GH : Hid (w.grownBy w9 (some rb)) := G9
  have RH : Hid (Rdr w9 rb (N + 700)) := R9.mono (by omega)
  have fz : ∀ o, w9.frozen? ⟨w.heap.size, o, none⟩ = false := fun o => zUf Z9 o
  obtain ⟨zlt, z0, z1, z2, z3, z4, z5, z6, z7, z8⟩ := Boxed.of_block Z9
  clear O R8 R9 Z8 G8 G G9 Z9
  go_wp2
  refine bodyPost_ret (v := Pk.val ⟨s, 256 * d, 1 + k, i, 1 + ha * hb, false, 0, false⟩ (.slice (some ⟨g, 0, none⟩) m c)) (by simp [results, Tryz.results48, go_sem, z0, z1, z2, z3, z4, z5, z6, z7, z8, Pk.val]) rfl ?_
  have hb9 := below9 (B := w.heap.size) (Below.refl _ w9) (Nat.le_refl _) (.int .i64 s) (.int .i64 (256 * d)) (.int .i64 (1 + k)) (.int .i64 i) (.int .i64 (1 + ha * hb)) (.bool false) (.int .i64 0) (.bool false) (.slice (some ⟨g, 0, none⟩) m c)
  exact ⟨_, g, c, m, zs, rfl, Joins.ownsRow_le (own9 OW.out (by omega) _ _ _ _ _ _ _ _ _) (by omega), hzl, by omega, wholeOk s0 s2 d0 d2 k0 k2 i0 i2 hmul (by omega), RH.out.upto hb9 hlt, grown_b GH.out hb9 (Nat.le_refl _), HBY.out⟩
structure PV where
 p : Pk
 g : Nat
 c : Nat
 zs : List Int
def PV.data (x : PV) : Value := .slice (some ⟨x.g, 0, none⟩) x.zs.length x.c
def PV.cells (x : PV) : List Value := (pcells x.p x.data).toList
def PV.key (x : PV) : Pk × List Int := (x.p, x.zs)
def PV.own (w : World) (lo : Nat) (x : PV) : Prop := w.ownsRow lo 5 1 x.data x.zs.length (x.zs.map (.int .u8))
structure PL (w : World) (lo : Nat) (v : Value) (ps : List PV) : Prop where
 row : w.ownsRow lo 29 9 v ps.length (ps.flatMap PV.cells)
 each : ∀ x ∈ ps, x.own w lo
theorem PV.cells_len (x : PV) : x.cells.length = 9 := rfl
theorem flat_len (ps : List PV) : (ps.flatMap PV.cells).length = ps.length * 9 := by
 induction ps with
 | nil => rfl
 | cons x r ih => simp only [List.flatMap_cons, List.length_append, ih, PV.cells_len, List.length_cons]; omega
theorem flat_at (ps : List PV) (i j : Nat) (hi : i < ps.length) (hj : j < 9) : (ps.flatMap PV.cells)[9 * i + j]? = (ps[i].cells)[j]? := by
 induction ps generalizing i with
 | nil => simp at hi
 | cons x r ih =>
  rw [List.flatMap_cons]
  match i with
  | 0 => rw [List.getElem?_append_left (by rw [PV.cells_len]; omega)]; simp
  | i + 1 =>
   rw [List.getElem?_append_right (by rw [PV.cells_len]; omega), PV.cells_len, show 9 * (i + 1) + j - 9 = 9 * i + j by omega]
   exact ih i (by simpa using hi)
theorem own_ne {w : World} {lo lo' n n' s s' : Nat} {v v' : Value} {xs xs' : List Value} (h : w.ownsRow lo 29 s v n xs) (h' : w.ownsRow lo' 5 s' v' n' xs') : ∀ k, v'.ownBlock = some k → some k ≠ v.ownBlock := by
 intro k hk hv
 rcases h.2 with ⟨e, _⟩ | ⟨g, cap, cur, e, _, hh, _⟩
 ·rw [e] at hv; cases hv
 ·rcases h'.2 with ⟨e', _⟩ | ⟨g', cap', cur', e', _, hh', _⟩
  ·rw [e'] at hk; cases hk
  ·rw [e] at hv
   rw [e'] at hk
   cases hk
   cases hv
   rw [hh] at hh'
   cases hh'
theorem PL.kept {w w' : World} {lo : Nat} {v : Value} {ps : List PV} (h : PL w lo v ps) (hk : ∀ k, lo ≤ k → k < w.heap.size → w'.heap[k]? = w.heap[k]?) : PL w' lo v ps :=
 ⟨own_kept h.row fun k e => hk k (own_lt h.row k e).1 (own_lt h.row k e).2, fun x hx => own_kept (h.each x hx) fun k e => hk k (own_lt (h.each x hx) k e).1 (own_lt (h.each x hx) k e).2⟩
theorem PL.below {w w' : World} {lo : Nat} {v : Value} {ps : List PV} (h : PL w lo v ps) (hb : Below w.heap.size w w') : PL w' lo v ps := h.kept fun k _ hk => hb.block k hk
theorem PL.grown {w w' : World} {lo rb : Nat} {v : Value} {ps : List PV} (h : PL w lo v ps) (hg : w.grownBy w' (some rb)) (hr : rb < lo) : PL w' lo v ps :=
 h.kept fun k h1 h2 => hg.block k h2 (fun e => by have := Option.some.inj e; omega)
theorem PL.le {w : World} {lo lo' : Nat} {v : Value} {ps : List PV} (h : PL w lo v ps) (hl : lo' ≤ lo) : PL w lo' v ps :=
 ⟨Joins.ownsRow_le h.row hl, fun x hx => Joins.ownsRow_le (h.each x hx) hl⟩
theorem PL.nil (w : World) (n base : Nat) (h : n = w.heap.size) (hb : base ≤ n) : PL (w.alloc (.cells #[] 29)) base (.slice (some ⟨n, 0, none⟩) 0 0) [] :=
 ⟨⟨rfl, Or.inr ⟨n, 0, #[], rfl, hb, heap_new _ _ _ h, Nat.le_refl _, by unfold maxLen; omega, rfl, rfl⟩⟩, fun x hx => by cases hx⟩
theorem PL.one (w : World) (n base : Nat) (x : PV) (h : n = w.heap.size) (hb : base ≤ n) (hx : x.own w base) : PL (w.alloc (.cells (pcells x.p x.data) 29)) base (.slice (some ⟨n, 0, none⟩) 1 1) [x] :=
 ⟨⟨rfl, Or.inr ⟨n, 1, pcells x.p x.data, rfl, hb, heap_new _ _ _ h, Nat.le_refl _, by unfold maxLen; omega, rfl, by simp [PV.cells]; rfl⟩⟩, fun y hy => by
  obtain rfl := List.mem_singleton.1 hy
  exact own_below hx (zBa _ _)⟩
theorem PL.append {w w' : World} {lo : Nat} {v v' : Value} {ps qs : List PV} (h : PL w lo v ps) (hq : ∀ x ∈ qs, x.own w lo) (ho : w'.ownsRow lo 29 9 v' (ps.length + qs.length) (ps.flatMap PV.cells ++ qs.flatMap PV.cells)) (hg : w.grownBy w' v.ownBlock) : PL w' lo v' (ps ++ qs) := by
 refine ⟨by rw [List.length_append, List.flatMap_append]; exact ho, fun x hx => ?_⟩
 have hx' : x.own w lo := by
  rcases List.mem_append.1 hx with h1 | h1
  ·exact h.each x h1
  ·exact hq x h1
 exact own_kept hx' fun k e => hg.block k (own_lt hx' k e).2 (own_ne h.row hx' k e)
theorem PL.at {w : World} {lo g c : Nat} {ps : List PV} (h : PL w lo (.slice (some ⟨g, 0, none⟩) ps.length c) ps) (i j : Nat) (hi : i < ps.length) (hj : j < 9) : w.cell? ⟨g, 9 * i + j, none⟩ = (ps[i].cells)[j]? := by
 rw [h.row.cellAt _ (by omega), flat_at ps i j hi hj]
theorem nine_one (p : Pk) (a : Option Addr) (n c : Nat) : ∀ u ∈ (pcells p (.slice a n c)).toList, u.oneCell' = true := by
 intro u hu
 simp [pcells] at hu
 rcases hu with rfl | rfl | rfl | rfl | rfl | rfl | rfl | rfl | rfl <;> rfl
theorem flat_one (ps : List PV) : ∀ u ∈ ps.flatMap PV.cells, u.oneCell' = true := by
 intro u hu
 obtain ⟨x, _, hx⟩ := List.mem_flatMap.1 hu
 exact nine_one _ _ _ _ u hx
def sizeI (p : Pk) (len : Nat) : Int := if okB p len = true then 8 + (len : Int) else 0
set_option maxHeartbeats 400000 in
theorem specSize_any (p : Pk) (a : Option Addr) (len cap : Nat) (w : World) (hl : len ≤ 1048576) :
  Calls Tryz.prog 78 #[p.val (.slice a len cap)] w fun e w' => e = .returned (.int .i64 (sizeI p len)) ∧ Below w.heap.size w w' := by
 unfold Pk.val
 cases hv : okB p len
 all_goals
  have HS : Hid (sizeI p len = if okB p len = true then 8 + (len : Int) else 0) := rfl
  go_enter Tryz.func78, Tryz.ntmps78
  go_wp2_with fail
  refine (specOk_any p a len cap _ hl).mono ?_
  rintro e w1 ⟨rfl, b1⟩
  have X := (Boxed.new w p (.slice a len cap) 29).below b1
  have B : Below w.heap.size w w1 := (zBa _ _).trans (b1.mono (by simp))
  obtain ⟨hlt, c0, c1, c2, c3, c4, c5, c6, c7, c8⟩ := X
  clear b1
  go_wp2
  go_ret
  exact ⟨ret_int (by rw [HS.out, hv]; simp), B⟩
def cutN (most : Int) : Nat := ((most - 8) / 4 * 4).toNat
def cutTo (p : Pk) (zs : List Int) (n k : Nat) : List (Pk × List Int) := (List.range k).map fun i => (pieceP p zs.length (i * n) n, pieceD zs (i * n) n)
def cutC (p : Pk) (len : Nat) (most : Int) : Int := if okB p len = true then (if most < 12 then 2 else if 8 + (len : Int) ≤ most then 0 else if p.whole = true then 3 else 0) else 1
def cutL (p : Pk) (zs : List Int) (most : Int) : List (Pk × List Int) :=
 if okB p zs.length = true then (if most < 12 then [] else if 8 + (zs.length : Int) ≤ most then [(p, zs)] else if p.whole = true then [] else cutTo p zs (cutN most) ((zs.length + cutN most - 1) / cutN most)) else []
theorem Tryz.info29 : (Tryz.prog.info? 29).map (fun i => (i.zero, i.size, i.bytes)) = some (some (.agg #[.int .i64 0, .int .i64 0, .int .i64 0, .int .i64 0, .int .i64 0, .bool false, .int .i64 0, .bool false, .slice none 0 0]), 9, 88) := by kernel_rfl
def CutPost (p : Pk) (zs : List Int) (most : Int) (w : World) (e : Ending) (w' : World) : Prop :=
 ∃ (g c : Nat) (ps : List PV), e = .returned (.tuple #[.slice (some ⟨g, 0, none⟩) ps.length c, .int .i64 (cutC p zs.length most)]) ∧ PL w' w.heap.size (.slice (some ⟨g, 0, none⟩) ps.length c) ps ∧ ps.map PV.key = cutL p zs most ∧ Below w.heap.size w w'
theorem nine_new (w : World) (p : Pk) (v : Value) : ∀ j u, (pcells p v).toList[j]? = some u → (w.alloc (.cells (pcells p v) 29)).cell? ((Addr.mk w.heap.size 0 none).add j) = some u := by
 intro j u hu
 rw [add_none, Nat.zero_add, World.cell?_alloc_at _ _ _ _ rfl]
 simpa using hu
theorem ceil_of {a n k : Nat} (_hn : 0 < n) (h1 : k * n < a + n) (h2 : a ≤ k * n) : (a + n - 1) / n = k := by
 apply Nat.div_eq_of_lt_le
 ·omega
 ·rw [Nat.add_mul]; omega
theorem ok_off {p : Pk} {len : Nat} (h : okB p len = true) : 0 ≤ p.off ∧ p.off ≤ 128 := by
 simp only [okB, offB, inB, Bool.and_eq_true, decide_eq_true_eq] at h
 omega
set_option maxHeartbeats 1600000 in
theorem specCut_any (p : Pk) (ad : Addr) (cap : Nat) (zs : List Int) (most : Int) (w : World) (hr : RdB w (some ad) zs.length zs) (hl : zs.length ≤ 1048576) (hc : zs.length ≤ cap) (hcm : cap ≤ 9223372036854775807) (hm1 : -9223372036854775808 ≤ most) (hm2 : most ≤ 9223372036854775807) :
  Calls Tryz.prog 50 #[p.val (.slice (some ad) zs.length cap), .int .i64 most] w (CutPost p zs most w) := by
 unfold Pk.val
 cases hv : okB p zs.length
 ·have HC : Hid (cutC p zs.length most = 1 ∧ cutL p zs most = []) := by constructor <;> simp [cutC, cutL, hv]
  go_enter Tryz.func50, Tryz.ntmps50
  go_wp2_with fail
  refine (specOk_any p (some ad) zs.length cap _ hl).mono ?_
  rintro e w1 ⟨rfl, b1⟩
  have B1 : Below w.heap.size w w1 := (zBa _ _).trans (b1.mono (by simp))
  have X1 : Boxed w1 w.heap.size p (.slice (some ad) zs.length cap) := (Boxed.new w p (.slice (some ad) zs.length cap) 29).below b1
  clear b1
  have BH : Hid (Below w.heap.size w w1) := B1
  have hs1 := B1.size
  clear B1 X1
  go_wp2
  go_ret2
  exact ⟨w1.heap.size, 0, [], by rw [HC.out.1]; rfl, PL.nil _ _ _ rfl hs1, by rw [HC.out.2]; rfl, BH.out.alloc hs1 _⟩
 by_cases h12 : most < 12
 ·have HC : Hid (cutC p zs.length most = 2 ∧ cutL p zs most = []) := by constructor <;> simp [cutC, cutL, hv, h12]
  go_enter Tryz.func50, Tryz.ntmps50
  go_wp2_with fail
  refine (specOk_any p (some ad) zs.length cap _ hl).mono ?_
  rintro e w1 ⟨rfl, b1⟩
  have B1 : Below w.heap.size w w1 := (zBa _ _).trans (b1.mono (by simp))
  have X1 : Boxed w1 w.heap.size p (.slice (some ad) zs.length cap) := (Boxed.new w p (.slice (some ad) zs.length cap) 29).below b1
  clear b1
  have BH : Hid (Below w.heap.size w w1) := B1
  have hs1 := B1.size
  clear B1 X1
  go_wp2
  go_ret2
  exact ⟨w1.heap.size, 0, [], by rw [HC.out.1]; rfl, PL.nil _ _ _ rfl hs1, by rw [HC.out.2]; rfl, BH.out.alloc hs1 _⟩
 have HS : Hid (sizeI p zs.length = 8 + (zs.length : Int)) := by show sizeI p zs.length = _; unfold sizeI; rw [hv]; rfl
 have size : ∀ (W : World), Calls Tryz.prog 78 #[p.val (.slice (some ad) zs.length cap)] W fun e w' => e = .returned (.int .i64 (8 + (zs.length : Int))) ∧ Below W.heap.size W w' := fun W => by
  have h := specSize_any p (some ad) zs.length cap W hl
  rw [HS.out] at h
  exact h
 have SZ : Hid (∀ (W : World), Calls Tryz.prog 78 #[p.val (.slice (some ad) zs.length cap)] W fun e w' => e = .returned (.int .i64 (8 + (zs.length : Int))) ∧ Below W.heap.size W w') := size
 clear size HS
 by_cases hfit : 8 + (zs.length : Int) ≤ most
 ·have HC : Hid (cutC p zs.length most = 0 ∧ cutL p zs most = [(p, zs)]) := by constructor <;> simp [cutC, cutL, hv, h12, hfit]
  go_enter Tryz.func50, Tryz.ntmps50
  go_wp2_with fail
  refine (specOk_any p (some ad) zs.length cap _ hl).mono ?_
  rintro e w1 ⟨rfl, b1⟩
  have B1 : Below w.heap.size w w1 := (zBa _ _).trans (b1.mono (by simp))
  have X1 : Boxed w1 w.heap.size p (.slice (some ad) zs.length cap) := (Boxed.new w p (.slice (some ad) zs.length cap) 29).below b1
  clear b1
  obtain ⟨hlt, c0, c1, c2, c3, c4, c5, c6, c7, c8⟩ := id X1
  go_wp2_with fail
  refine (SZ.out _).mono ?_
  rintro e w2 ⟨rfl, b2⟩
  have B2 : Below w.heap.size w w2 := B1.trans (b2.mono (by omega))
  have X2 := X1.below b2
  clear c0 c1 c2 c3 c4 c5 c6 c7 c8 b2 B1 X1 hlt
  obtain ⟨hlt, c0, c1, c2, c3, c4, c5, c6, c7, c8⟩ := id X2
  go_wp2_with fail
  refine (l1Copy_any p ad zs.length cap zs _ (hr.below B2) hl).mono ?_
  rintro e w3 ⟨g, c, rfl, o3, b3⟩
  have BH : Hid (Below w.heap.size w w3) := B2.trans (b3.mono (by omega))
  have OH : Hid (w3.ownsRow w.heap.size 5 1 (.slice (some ⟨g, 0, none⟩) zs.length c) zs.length (zs.map (.int .u8))) := Joins.ownsRow_le o3 (by omega)
  have hs3 := BH.out.size
  clear c0 c1 c2 c3 c4 c5 c6 c7 c8 b3 B2 X2 o3
  unfold Pk.val
  go_wp2
  go_ret2
  exact ⟨w3.heap.size, 1, [⟨p, g, c, zs⟩], by rw [HC.out.1]; rfl, PL.one w3 _ _ ⟨p, g, c, zs⟩ rfl hs3 OH.out, by rw [HC.out.2]; rfl, BH.out.alloc hs3 _⟩
 have whole_of : p.whole = true ∨ p.whole = false := by cases p.whole <;> simp
 rcases whole_of with hw | hw
 ·have HC : Hid (cutC p zs.length most = 3 ∧ cutL p zs most = []) := by constructor <;> simp [cutC, cutL, hv, h12, hfit, hw]
  have HW : Hid (p.whole = true) := hw
  clear hw
  go_enter Tryz.func50, Tryz.ntmps50
  go_wp2_with fail
  refine (specOk_any p (some ad) zs.length cap _ hl).mono ?_
  rintro e w1 ⟨rfl, b1⟩
  have B1 : Below w.heap.size w w1 := (zBa _ _).trans (b1.mono (by simp))
  have X1 : Boxed w1 w.heap.size p (.slice (some ad) zs.length cap) := (Boxed.new w p (.slice (some ad) zs.length cap) 29).below b1
  clear b1
  obtain ⟨hlt, c0, c1, c2, c3, c4, c5, c6, c7, c8⟩ := id X1
  go_wp2_with fail
  refine (SZ.out _).mono ?_
  rintro e w2 ⟨rfl, b2⟩
  have BH : Hid (Below w.heap.size w w2) := B1.trans (b2.mono (by omega))
  have X2 := X1.below b2
  have hs2 := BH.out.size
  clear c0 c1 c2 c3 c4 c5 c6 c7 c8 b2 B1 X1 hlt
  obtain ⟨hlt, c0, c1, c2, c3, c4, c5, c6, c7, c8⟩ := id X2
  rw [HW.out] at c5
  go_wp2
  go_ret2
  exact ⟨w2.heap.size, 0, [], by rw [HC.out.1]; rfl, PL.nil _ _ _ rfl hs2, by rw [HC.out.2]; rfl, BH.out.alloc hs2 _⟩
 ·obtain ⟨n, hn⟩ : ∃ n : Nat, (most - 8) / 4 * 4 = (n : Int) := ⟨((most - 8) / 4 * 4).toNat, by omega⟩
  have hn4 : 4 ≤ n := by omega
  have hnl : n < zs.length := by omega
  have HN : Hid (cutN most = n) := by show cutN most = n; unfold cutN; rw [hn]; simp
  have HC : Hid (cutC p zs.length most = 0 ∧ cutL p zs most = cutTo p zs (cutN most) ((zs.length + cutN most - 1) / cutN most)) := by constructor <;> simp [cutC, cutL, hv, h12, hfit, hw]
  obtain ⟨i1, hi1, hy0, hy1, hy2⟩ := info_parts Tryz.info29
  have hoff := ok_off hv
  have HW : Hid (p.whole = false) := hw
  clear hw
  go_enter Tryz.func50, Tryz.ntmps50
  go_wp2_with fail
  refine (specOk_any p (some ad) zs.length cap _ hl).mono ?_
  rintro e w1 ⟨rfl, b1⟩
  have B1 : Below w.heap.size w w1 := (zBa _ _).trans (b1.mono (by simp))
  have X1 : Boxed w1 w.heap.size p (.slice (some ad) zs.length cap) := (Boxed.new w p (.slice (some ad) zs.length cap) 29).below b1
  clear b1
  obtain ⟨hlt, c0, c1, c2, c3, c4, c5, c6, c7, c8⟩ := id X1
  go_wp2_with fail
  refine (SZ.out _).mono ?_
  rintro e w2 ⟨rfl, b2⟩
  have B2 : Below w.heap.size w w2 := B1.trans (b2.mono (by omega))
  have X2 := X1.below b2
  have hs2 := B2.size
  clear c0 c1 c2 c3 c4 c5 c6 c7 c8 b2 B1 X1 hlt
  obtain ⟨hlt, c0, c1, c2, c3, c4, c5, c6, c7, c8⟩ := id X2
  have c5' := c5
  rw [HW.out] at c5'
  clear c5
  have PH : Hid (PL (w2.alloc (.cells #[] 29)) w2.heap.size (.slice (some ⟨w2.heap.size, 0, none⟩) 0 0) []) := PL.nil _ _ _ rfl (Nat.le_refl _)
  have XH : Hid (Boxed w2 w.heap.size p (.slice (some ad) zs.length cap)) := X2
  have BH : Hid (Below w.heap.size w w2) := B2
  clear B2 X2
  go_wp2
  go_loopw [7, 8] (fun v i wr => ∃ (m k g c : Nat) (ps : List PV), i = .int .i64 m ∧ v = .slice (some ⟨g, 0, none⟩) k c ∧ m < zs.length + n ∧ Hid (m = k * n) ∧ Hid (ps.length = k) ∧ Hid (PL wr w2.heap.size (.slice (some ⟨g, 0, none⟩) k c) ps) ∧ Hid (ps.map PV.key = cutTo p zs n k) ∧ Hid (Below w2.heap.size w2 wr)) (fun _ i _ => zs.length + n - (intOf i).toNat)
  case atStart => exact ⟨0, 0, w2.heap.size, 0, [], rfl, rfl, by omega, (show (0 : Nat) = 0 * n by simp), rfl, PH.out, rfl, (Below.refl _ _).alloc (Nat.le_refl _) _⟩
  case round =>
   obtain ⟨m, k, g, c, ps, rfl, rfl, hm, HM, HL, HP, HK, HB⟩ := hrel
   have hb2 := HB.out.size
   have X3 := XH.out.below HB.out
   clear c0 c1 c2 c3 c4 c5' c6 c7 c8
   obtain ⟨hlt3, c0, c1, c2, c3, c4, c5, c6, c7, c8⟩ := id X3
   by_cases hmk : m < zs.length
   ·go_wp2_with fail
    refine (l2Piece_any p ad zs.length cap m n zs _ (hr.below (BH.out.trans (HB.out.mono (by omega)))) hl hc hcm hmk (by omega) hoff.1 (by omega)).mono ?_
    rintro e w3 ⟨g3, d3, rfl, o3, b3⟩
    have P3 := HP.out.below b3
    have O3 : w3.ownsRow w2.heap.size 5 1 (.slice (some ⟨g3, 0, none⟩) (pieceD zs m n).length d3) (pieceD zs m n).length ((pieceD zs m n).map (.int .u8)) := Joins.ownsRow_le o3 (by omega)
    have B3 : Hid (Below w2.heap.size w2 w3) := HB.out.trans (b3.mono (by omega))
    have hs3 : w2.heap.size ≤ w3.heap.size := B3.out.size
    have R3 : w3.ownsRow w2.heap.size 29 9 (.slice (some ⟨g, 0, none⟩) k c) k (ps.flatMap PV.cells) := by have h := P3.row; rw [HL.out] at h; exact h
    have hkm : k ≤ 2097152 := by have e := HM.out; have : k ≤ k * n := Nat.le_mul_of_pos_right k (by omega); omega
    clear c0 c1 c2 c3 c4 c5 c6 c7 c8 X3 b3 o3 HP HB
    have PH3 : Hid (PL w3 w2.heap.size (.slice (some ⟨g, 0, none⟩) k c) ps) := P3
    have OH3 : Hid (w3.ownsRow w2.heap.size 5 1 (.slice (some ⟨g3, 0, none⟩) (pieceD zs m n).length d3) (pieceD zs m n).length ((pieceD zs m n).map (.int .u8))) := O3
    clear P3 O3
    unfold Pk.val
    go_wp2_with (at_builtin; refine wpList_append_own _ rfl _ _ 23 rfl w2.heap.size 29 i1 _ 9 88 Tryz.underlying23 hi1 hy0 hy1 hy2 rfl (by decide) (.slice (some ⟨g, 0, none⟩) k c) k (ps.flatMap PV.cells) rfl (R3.alloc _) ⟨w3.heap.size, 0, none⟩ 1 1 (PV.cells ⟨pieceP p zs.length m n, g3, d3, pieceD zs m n⟩) rfl rfl ?h1 ?h2 ?h3 ?h4 ?h5 ?_)
    case h1 => exact nine_new w3 _ _
    case h2 => exact nine_one _ _ _ _
    case h3 => unfold maxLen; omega
    case h4 => omega
    case h5 => simp; omega
    intro v1 w4 hown hgrow hnil
    obtain ⟨g', c', rfl⟩ : ∃ g' c', v1 = .slice (some ⟨g', 0, none⟩) (k + 1) c' := by
     rcases Joins.ownsRow_forms hown with h | h
     ·exact absurd h.1 hnil
     ·exact h
    have P4 : Hid (PL w4 w2.heap.size (.slice (some ⟨g', 0, none⟩) (k + 1) c') (ps ++ [⟨pieceP p zs.length m n, g3, d3, pieceD zs m n⟩])) := by
     refine PL.append (v := .slice (some ⟨g, 0, none⟩) k c) (qs := [⟨pieceP p zs.length m n, g3, d3, pieceD zs m n⟩]) (PH3.out.below (zBa _ _)) (fun x hx => ?_) ?_ hgrow
     ·obtain rfl := List.mem_singleton.1 hx
      exact own_below OH3.out (zBa _ _)
     ·rw [HL.out]
      simpa using hown
    have B4 : Hid (Below w2.heap.size w2 w4) := (B3.out.alloc hs3 _).grown hgrow (by simp; omega) (fun j hj => (own_lt R3 j hj).1)
    have K4 : Hid ((ps ++ [(⟨pieceP p zs.length m n, g3, d3, pieceD zs m n⟩ : PV)]).map PV.key = cutTo p zs n (k + 1)) := by
     show _ = _
     rw [List.map_append, HK.out, HM.out]
     simp [cutTo, List.range_succ, PV.key]
    have L4 : Hid ((ps ++ [(⟨pieceP p zs.length m n, g3, d3, pieceD zs m n⟩ : PV)]).length = k + 1) := by
     show _ = _
     rw [List.length_append, HL.out]; rfl
    have M4 : Hid (m + n = (k + 1) * n) := by show _ = _; rw [HM.out, Nat.add_mul]; omega
    clear hown hgrow hnil R3 PH3 OH3 B3
    go_wp2
    go_roundw
    case rel => exact ⟨m + n, k + 1, g', c', _, by go_num, rfl, by omega, M4, L4, P4, K4, B4⟩
    case measure => simp [intOf]; omega
   ·go_wp2
    go_ret2
    have hkk : (zs.length + n - 1) / n = k := ceil_of (by omega) (by rw [← HM.out]; omega) (by rw [← HM.out]; omega)
    refine ⟨g, c, ps, by rw [HC.out.1, HL.out]; rfl, ?_, by rw [HC.out.2, HN.out, hkk]; exact HK.out, BH.out.trans (HB.out.mono (by omega))⟩
    rw [HL.out]
    exact HP.out.le (by omega)
end Go.Proofs.YtjbkgmbakjnlhaaGreatDoor
