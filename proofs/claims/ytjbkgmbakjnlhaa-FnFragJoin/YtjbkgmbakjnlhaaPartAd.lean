/- The contract of l5Whole: a whole packet is drawn. -/
import Derived.Test.YtjbkgmbakjnlhaaPartAc
import Derived.Test.YtjbkgmbakjnlhaaPartAa
import Derived.Deep.RegionHeld3
namespace Go.Proofs.Ytjbkgmbakjnlhaa
open Go.RowKit

/-- a packet that was drawn: its bytes are new -/
def PktPost (rb M lo : Nat) (Q : Pk → Nat → Prop) (w : World) (e : Ending) (w' : World) : Prop :=
  ∃ (p : Pk) (g c len : Nat) (zs : List Int), e = .returned (p.val (.slice (some ⟨g, 0, none⟩) len c)) ∧ w'.ownsRow lo 5 1 (.slice (some ⟨g, 0, none⟩) len c) len (zs.map (.int .u8)) ∧ zs.length = len ∧ len ≤ 200 ∧ Q p len ∧ Rdr w' rb M ∧ w.grownBy w' (some rb) ∧ ∀ z ∈ zs, 0 ≤ z ∧ z ≤ 255
/-- whole, and ok -/
def WholeOk (p : Pk) (len : Nat) : Prop := okB p len = true ∧ p.whole = false ∧ p.off = 0 ∧ p.more = false

theorem own_len {w : World} {base len c : Nat} {a : Option Addr} {zs : List Int} (h : w.ownsRow base 5 1 (.slice a len c) len (zs.map (.int .u8))) : zs.length = len := by
  have := h.1; simpa using this

theorem lt_of_block {w : World} {b : Nat} {o : Obj} (h : w.heap[b]? = some o) : b < w.heap.size := by
  rcases Nat.lt_or_ge b w.heap.size with h' | h'
  · exact h'
  · rw [Array.getElem?_eq_none h'] at h; cases h
/-- the lengths that are drawn from a table -/
theorem tab9 (X : Nat) (h : X < 9) : ∃ m : Nat, m ≤ 128 ∧ (#[Value.int IntKind.i64 0, .int .i64 1, .int .i64 4, .int .i64 5, .int .i64 12, .int .i64 31, .int .i64 64, .int .i64 127, .int .i64 128] : Array Value)[X]? = some (.int .i64 m) := by
  match X, h with
  | 0, _ => exact ⟨0, by omega, rfl⟩
  | 1, _ => exact ⟨1, by omega, rfl⟩
  | 2, _ => exact ⟨4, by omega, rfl⟩
  | 3, _ => exact ⟨5, by omega, rfl⟩
  | 4, _ => exact ⟨12, by omega, rfl⟩
  | 5, _ => exact ⟨31, by omega, rfl⟩
  | 6, _ => exact ⟨64, by omega, rfl⟩
  | 7, _ => exact ⟨127, by omega, rfl⟩
  | 8, _ => exact ⟨128, by omega, rfl⟩
theorem mul_in {a b : Int} (a0 : 0 ≤ a) (a1 : a < 5) (b0 : 0 ≤ b) (b1 : b < 16) : 0 ≤ a * b ∧ a * b ≤ 60 := by
  rcases (show a = 0 ∨ a = 1 ∨ a = 2 ∨ a = 3 ∨ a = 4 from by omega) with rfl | rfl | rfl | rfl | rfl <;> omega

theorem grown_b {a b c : World} {rb B : Nat} (h : a.grownBy b (some rb)) (hb : Below B b c) (hB : a.heap.size ≤ B) : a.grownBy c (some rb) :=
  ⟨hb.os.trans h.os, hb.tape.trans h.tape, hb.output.trans h.output, Nat.le_trans h.size hb.size, fun i hi hne => (hb.block i (by omega)).trans (h.block i hi hne)⟩
theorem Rdr.upto {w w' : World} {rb N B : Nat} (h : Rdr w rb N) (hb : Below B w w') (hB : rb < B) : Rdr w' rb N := h.keep hb.size fun j hj => hb.block j (by omega)
theorem wholeOk {s d k i x : Int} {len : Nat} (s0 : 0 ≤ s) (s2 : s < 3) (d0 : 0 ≤ d) (d2 : d < 2) (k0 : 0 ≤ k) (k2 : k < 2) (i0 : 0 ≤ i) (i2 : i < 2) (hx : 0 ≤ x ∧ x ≤ 60) (hl : len ≤ 128) :
    WholeOk ⟨s, 256 * d, 1 + k, i, 1 + x, false, 0, false⟩ len := by
  refine ⟨?_, rfl, rfl, rfl⟩
  simp [okB, headB, offB, moreB, wholeB, inB]
  omega

set_option maxHeartbeats 3200000 in
theorem l5Whole_any (rb N : Nat) (w : World) (hR : Rdr w rb N) (hN : N ≤ 90000) :
    Calls Try.prog 34 #[.pointer (some ⟨rb, 0, none⟩)] w (PktPost rb (N + 700) w.heap.size WholeOk w) := by
  have hlt := hR.lt
  have hne : some w.heap.size ≠ some rb := fun e => by have := Option.some.inj e; omega
  go_enter Try.func34, Try.ntmps34
  go_wp2_with fail
  refine (pick_any rb N 9 _ (hR.below (Joins.below_alloc2 _ _ _)) (by omega) (by omega) (by omega)).mono ?_
  rintro e w1 ⟨x, rfl, hx0, hx1, -, R1, G⟩
  obtain ⟨X, rfl⟩ := Int.eq_ofNat_of_zero_le hx0
  have hX : X < 9 := by have := hx1 (by omega); omega
  obtain ⟨m, hm, htab⟩ := tab9 X hX
  have Z1 : w1.heap[w.heap.size]? = some (.cells (pcells zeroPk (.slice none 0 0)) 24 (0, 0)) := (G.block _ (by simp; omega) hne).trans (by rw [Below.heap_alloc _ _ _ (by simp)]; exact heap_new _ _ _ rfl)
  have hcX : w1.cell? ⟨w.heap.size + 1, X, none⟩ = some (.int .i64 m) := by
    rw [Joins.cell_of_block ((G.block _ (by simp) (fun e => by have := Option.some.inj e; omega)).trans (heap_new _ _ _ (by simp))) X]
    exact htab
  have G1 : w.grownBy w1 (some rb) := grown_trans (grown_below (Joins.below_alloc2 _ _ _)) G
  have hXi : (X : Int) < 9 := by omega
  clear G htab hR
  go_wp2_with fail
  refine (pick_any rb (N + 1) 2 _ R1 (by omega) (by omega) (by omega)).mono ?_
  rintro e w2 ⟨y, rfl, hy0, hy1, -, R2, G⟩
  have Z2 := (G.block _ (lt_of_block Z1) hne).trans Z1
  have G2 := grown_trans G1 G
  clear R1 Z1 G1 G hcX
  by_cases hy : y = 0
  · subst hy
    go_wp2_with fail
    refine (pick_any rb (N + 1 + 1) 40 _ R2 (by omega) (by omega) (by omega)).mono ?_
    rintro e w3 ⟨z, rfl, hz0, hz1, -, R3, G⟩
    have Z3 := (G.block _ (lt_of_block Z2) hne).trans Z2
    have G3 := grown_trans G2 G
    clear R2 Z2 G2 G
    obtain ⟨m', rfl⟩ := Int.eq_ofNat_of_zero_le hz0
    have hm' : m' < 40 := by have := hz1 (by omega); omega
    go_wp2_with fail
    refine (pick_any rb (N + 1 + 1 + 1) 3 _ R3 (by omega) (by omega) (by omega)).mono ?_
    rintro e w4 ⟨s, rfl, s0, s1, -, R4, G⟩
    have Z4 := (G.block _ (lt_of_block Z3) hne).trans Z3
    have G4 := grown_trans G3 G
    have s2 := s1 (by omega)
    clear R3 Z3 G3 G s1
    go_wp2_with fail
    refine (pick_any rb (N + 1 + 1 + 1 + 1) 2 _ R4 (by omega) (by omega) (by omega)).mono ?_
    rintro e w5 ⟨d, rfl, d0, d1, -, R5, G⟩
    have Z5 := (G.block _ (lt_of_block Z4) hne).trans Z4
    have G5 := grown_trans G4 G
    have d2 := d1 (by omega)
    clear R4 Z4 G4 G d1
    go_wp2_with fail
    refine (pick_any rb (N + 1 + 1 + 1 + 1 + 1) 2 _ R5 (by omega) (by omega) (by omega)).mono ?_
    rintro e w6 ⟨k, rfl, k0, k1, -, R6, G⟩
    have Z6 := (G.block _ (lt_of_block Z5) hne).trans Z5
    have G6 := grown_trans G5 G
    have k2 := k1 (by omega)
    clear R5 Z5 G5 G k1
    go_wp2_with fail
    refine (pick_any rb (N + 1 + 1 + 1 + 1 + 1 + 1) 2 _ R6 (by omega) (by omega) (by omega)).mono ?_
    rintro e w7 ⟨i, rfl, i0, i1, -, R7, G⟩
    have Z7 := (G.block _ (lt_of_block Z6) hne).trans Z6
    have G7 := grown_trans G6 G
    have i2 := i1 (by omega)
    clear R6 Z6 G6 G i1
    go_wp2_with fail
    refine (pick_any rb (N + 1 + 1 + 1 + 1 + 1 + 1 + 1) 5 _ R7 (by omega) (by omega) (by omega)).mono ?_
    rintro e w8 ⟨ha, rfl, ha0, ha1, -, R8, G⟩
    have Z8 := (G.block _ (lt_of_block Z7) hne).trans Z7
    have G8 := grown_trans G7 G
    have ha2 := ha1 (by omega)
    clear R7 Z7 G7 G ha1
    go_wp2_with fail
    refine (pick_any rb (N + 1 + 1 + 1 + 1 + 1 + 1 + 1 + 1) 16 _ R8 (by omega) (by omega) (by omega)).mono ?_
    rintro e w9 ⟨hb, rfl, hb0, hb1, -, R9, G⟩
    have Z9 := (G.block _ (lt_of_block Z8) hne).trans Z8
    have G9 := grown_trans G8 G
    have hb2 := hb1 (by omega)
    clear R8 Z8 G8 G hb1
    have hmul := mul_in ha0 ha2 hb0 hb2
    have hw1 : wrap64 (ha * hb) = ha * hb := wrap_small hmul.1 (by omega)
    go_wp2_with fail
    refine (l5Data_any rb (N + 1 + 1 + 1 + 1 + 1 + 1 + 1 + 1 + 1) m' _ R9 (by omega) (by omega)).mono ?_
    rintro e w10 ⟨g, c, zs, rfl, O, R10, G, hby⟩
    have Z10 := (G.block _ (lt_of_block Z9) hne).trans Z9
    have G10 := grown_trans G9 G
    have hs10 := G9.size
    have OW : Hid (w10.ownsRow (w.heap.size + 1) 5 1 (.slice (some ⟨g, 0, none⟩) m' c) m' (zs.map (.int .u8))) := Joins.ownsRow_le O (by have := lt_of_block Z9; omega)
    have hzl := own_len O
    have HBY : Hid (∀ z ∈ zs, 0 ≤ z ∧ z ≤ 255) := hby
    clear hby
    have GH : Hid (w.grownBy w10 (some rb)) := G10
    have RH : Hid (Rdr w10 rb (N + 700)) := R10.mono (by omega)
    have fz : ∀ o, w10.frozen? ⟨w.heap.size, o, none⟩ = false := fun o => Joins.unfrozen_of_block Z10 o
    obtain ⟨zlt, z0, z1, z2, z3, z4, z5, z6, z7, z8⟩ := Boxed.of_block Z10
    clear O R9 R10 Z9 G9 G G10 Z10
    go_wp2
    refine bodyPost_ret (v := Pk.val ⟨s, 256 * d, 1 + k, i, 1 + ha * hb, false, 0, false⟩ (.slice (some ⟨g, 0, none⟩) m' c)) (by simp [results, Try.results34, go_sem, z0, z1, z2, z3, z4, z5, z6, z7, z8, Pk.val]) rfl ?_
    have hb9 := below9 (B := w.heap.size) (Below.refl _ w10) (Nat.le_refl _) (.int .i64 s) (.int .i64 (256 * d)) (.int .i64 (1 + k)) (.int .i64 i) (.int .i64 (1 + ha * hb)) (.bool false) (.int .i64 0) (.bool false) (.slice (some ⟨g, 0, none⟩) m' c)
    exact ⟨_, g, c, m', zs, rfl, Joins.ownsRow_le (own9 OW.out (by omega) _ _ _ _ _ _ _ _ _) (by omega), hzl, by omega, wholeOk s0 s2 d0 d2 k0 k2 i0 i2 hmul (by omega), RH.out.upto hb9 hlt, grown_b GH.out hb9 (Nat.le_refl _), HBY.out⟩
  · have hyb : (y == 0) = false := by simp [hy]
    go_wp2_with fail
    refine (pick_any rb (N + 1 + 1) 3 _ R2 (by omega) (by omega) (by omega)).mono ?_
    rintro e w3 ⟨s, rfl, s0, s1, -, R3, G⟩
    have Z3 := (G.block _ (lt_of_block Z2) hne).trans Z2
    have G3 := grown_trans G2 G
    have s2 := s1 (by omega)
    clear R2 Z2 G2 G s1
    go_wp2_with fail
    refine (pick_any rb (N + 1 + 1 + 1) 2 _ R3 (by omega) (by omega) (by omega)).mono ?_
    rintro e w4 ⟨d, rfl, d0, d1, -, R4, G⟩
    have Z4 := (G.block _ (lt_of_block Z3) hne).trans Z3
    have G4 := grown_trans G3 G
    have d2 := d1 (by omega)
    clear R3 Z3 G3 G d1
    go_wp2_with fail
    refine (pick_any rb (N + 1 + 1 + 1 + 1) 2 _ R4 (by omega) (by omega) (by omega)).mono ?_
    rintro e w5 ⟨k, rfl, k0, k1, -, R5, G⟩
    have Z5 := (G.block _ (lt_of_block Z4) hne).trans Z4
    have G5 := grown_trans G4 G
    have k2 := k1 (by omega)
    clear R4 Z4 G4 G k1
    go_wp2_with fail
    refine (pick_any rb (N + 1 + 1 + 1 + 1 + 1) 2 _ R5 (by omega) (by omega) (by omega)).mono ?_
    rintro e w6 ⟨i, rfl, i0, i1, -, R6, G⟩
    have Z6 := (G.block _ (lt_of_block Z5) hne).trans Z5
    have G6 := grown_trans G5 G
    have i2 := i1 (by omega)
    clear R5 Z5 G5 G i1
    go_wp2_with fail
    refine (pick_any rb (N + 1 + 1 + 1 + 1 + 1 + 1) 5 _ R6 (by omega) (by omega) (by omega)).mono ?_
    rintro e w7 ⟨ha, rfl, ha0, ha1, -, R7, G⟩
    have Z7 := (G.block _ (lt_of_block Z6) hne).trans Z6
    have G7 := grown_trans G6 G
    have ha2 := ha1 (by omega)
    clear R6 Z6 G6 G ha1
    go_wp2_with fail
    refine (pick_any rb (N + 1 + 1 + 1 + 1 + 1 + 1 + 1) 16 _ R7 (by omega) (by omega) (by omega)).mono ?_
    rintro e w8 ⟨hb, rfl, hb0, hb1, -, R8, G⟩
    have Z8 := (G.block _ (lt_of_block Z7) hne).trans Z7
    have G8 := grown_trans G7 G
    have hb2 := hb1 (by omega)
    clear R7 Z7 G7 G hb1
    have hmul := mul_in ha0 ha2 hb0 hb2
    have hw1 : wrap64 (ha * hb) = ha * hb := wrap_small hmul.1 (by omega)
    go_wp2_with fail
    refine (l5Data_any rb (N + 1 + 1 + 1 + 1 + 1 + 1 + 1 + 1) m _ R8 (by omega) (by omega)).mono ?_
    rintro e w9 ⟨g, c, zs, rfl, O, R9, G, hby⟩
    have Z9 := (G.block _ (lt_of_block Z8) hne).trans Z8
    have G9 := grown_trans G8 G
    have hs9 := G8.size
    have OW : Hid (w9.ownsRow (w.heap.size + 1) 5 1 (.slice (some ⟨g, 0, none⟩) m c) m (zs.map (.int .u8))) := Joins.ownsRow_le O (by have := lt_of_block Z8; omega)
    have hzl := own_len O
    have HBY : Hid (∀ z ∈ zs, 0 ≤ z ∧ z ≤ 255) := hby
    clear hby
    have GH : Hid (w.grownBy w9 (some rb)) := G9
    have RH : Hid (Rdr w9 rb (N + 700)) := R9.mono (by omega)
    have fz : ∀ o, w9.frozen? ⟨w.heap.size, o, none⟩ = false := fun o => Joins.unfrozen_of_block Z9 o
    obtain ⟨zlt, z0, z1, z2, z3, z4, z5, z6, z7, z8⟩ := Boxed.of_block Z9
    clear O R8 R9 Z8 G8 G G9 Z9
    go_wp2
    refine bodyPost_ret (v := Pk.val ⟨s, 256 * d, 1 + k, i, 1 + ha * hb, false, 0, false⟩ (.slice (some ⟨g, 0, none⟩) m c)) (by simp [results, Try.results34, go_sem, z0, z1, z2, z3, z4, z5, z6, z7, z8, Pk.val]) rfl ?_
    have hb9 := below9 (B := w.heap.size) (Below.refl _ w9) (Nat.le_refl _) (.int .i64 s) (.int .i64 (256 * d)) (.int .i64 (1 + k)) (.int .i64 i) (.int .i64 (1 + ha * hb)) (.bool false) (.int .i64 0) (.bool false) (.slice (some ⟨g, 0, none⟩) m c)
    exact ⟨_, g, c, m, zs, rfl, Joins.ownsRow_le (own9 OW.out (by omega) _ _ _ _ _ _ _ _ _) (by omega), hzl, by omega, wholeOk s0 s2 d0 d2 k0 k2 i0 i2 hmul (by omega), RH.out.upto hb9 hlt, grown_b GH.out hb9 (Nat.le_refl _), HBY.out⟩
end Go.Proofs.Ytjbkgmbakjnlhaa

/- Lists of packets in memory. -/
namespace Go.Proofs.Ytjbkgmbakjnlhaa
open Go.RowKit

/-- a packet in a list: its fields, where its bytes lie, its bytes -/
structure PV where
  p : Pk
  g : Nat
  c : Nat
  zs : List Int
def PV.data (x : PV) : Value := .slice (some ⟨x.g, 0, none⟩) x.zs.length x.c
def PV.cells (x : PV) : List Value := (pcells x.p x.data).toList
def PV.key (x : PV) : Pk × List Int := (x.p, x.zs)
def PV.own (w : World) (lo : Nat) (x : PV) : Prop := w.ownsRow lo 5 1 x.data x.zs.length (x.zs.map (.int .u8))
/-- a list of packets that the call itself made -/
structure PL (w : World) (lo : Nat) (v : Value) (ps : List PV) : Prop where
  row : w.ownsRow lo 24 9 v ps.length (ps.flatMap PV.cells)
  each : ∀ x ∈ ps, x.own w lo

theorem PV.cells_len (x : PV) : x.cells.length = 9 := rfl
theorem flat_len (ps : List PV) : (ps.flatMap PV.cells).length = ps.length * 9 := by
  induction ps with
  | nil => rfl
  | cons x r ih => simp only [List.flatMap_cons, List.length_append, ih, PV.cells_len, List.length_cons]; omega
theorem flat_at (ps : List PV) (i j : Nat) (hi : i < ps.length) (hj : j < 9) : (ps.flatMap PV.cells)[9 * i + j]? = (ps[i].cells)[j]? := by
  induction ps generalizing i with
  | nil => simp at hi
  | cons x r ih =>
    rw [List.flatMap_cons]
    match i with
    | 0 => rw [List.getElem?_append_left (by rw [PV.cells_len]; omega)]; simp
    | i + 1 =>
      rw [List.getElem?_append_right (by rw [PV.cells_len]; omega), PV.cells_len, show 9 * (i + 1) + j - 9 = 9 * i + j by omega]
      exact ih i (by simpa using hi)
theorem own_ne {w : World} {lo lo' n n' s s' : Nat} {v v' : Value} {xs xs' : List Value} (h : w.ownsRow lo 24 s v n xs) (h' : w.ownsRow lo' 5 s' v' n' xs') : ∀ k, v'.ownBlock = some k → some k ≠ v.ownBlock := by
  intro k hk hv
  rcases h.2 with ⟨e, _⟩ | ⟨g, cap, cur, e, _, hh, _⟩
  · rw [e] at hv; cases hv
  · rcases h'.2 with ⟨e', _⟩ | ⟨g', cap', cur', e', _, hh', _⟩
    · rw [e'] at hk; cases hk
    · rw [e] at hv
      rw [e'] at hk
      cases hk
      cases hv
      rw [hh] at hh'
      cases hh'
theorem PL.kept {w w' : World} {lo : Nat} {v : Value} {ps : List PV} (h : PL w lo v ps) (hk : ∀ k, lo ≤ k → k < w.heap.size → w'.heap[k]? = w.heap[k]?) : PL w' lo v ps :=
  ⟨own_kept h.row fun k e => hk k (own_lt h.row k e).1 (own_lt h.row k e).2, fun x hx => own_kept (h.each x hx) fun k e => hk k (own_lt (h.each x hx) k e).1 (own_lt (h.each x hx) k e).2⟩
theorem PL.below {w w' : World} {lo : Nat} {v : Value} {ps : List PV} (h : PL w lo v ps) (hb : Below w.heap.size w w') : PL w' lo v ps := h.kept fun k _ hk => hb.block k hk
theorem PL.grown {w w' : World} {lo rb : Nat} {v : Value} {ps : List PV} (h : PL w lo v ps) (hg : w.grownBy w' (some rb)) (hr : rb < lo) : PL w' lo v ps :=
  h.kept fun k h1 h2 => hg.block k h2 (fun e => by have := Option.some.inj e; omega)
theorem PL.le {w : World} {lo lo' : Nat} {v : Value} {ps : List PV} (h : PL w lo v ps) (hl : lo' ≤ lo) : PL w lo' v ps :=
  ⟨Joins.ownsRow_le h.row hl, fun x hx => Joins.ownsRow_le (h.each x hx) hl⟩
theorem PL.nil (w : World) (n base : Nat) (h : n = w.heap.size) (hb : base ≤ n) : PL (w.alloc (.cells #[] 24)) base (.slice (some ⟨n, 0, none⟩) 0 0) [] :=
  ⟨⟨rfl, Or.inr ⟨n, 0, #[], rfl, hb, heap_new _ _ _ h, Nat.le_refl _, by unfold maxLen; omega, rfl, rfl⟩⟩, fun x hx => by cases hx⟩
/-- one packet alone -/
theorem PL.one (w : World) (n base : Nat) (x : PV) (h : n = w.heap.size) (hb : base ≤ n) (hx : x.own w base) : PL (w.alloc (.cells (pcells x.p x.data) 24)) base (.slice (some ⟨n, 0, none⟩) 1 1) [x] :=
  ⟨⟨rfl, Or.inr ⟨n, 1, pcells x.p x.data, rfl, hb, heap_new _ _ _ h, Nat.le_refl _, by unfold maxLen; omega, rfl, by simp [PV.cells]; rfl⟩⟩, fun y hy => by
    obtain rfl := List.mem_singleton.1 hy
    exact own_below hx (Joins.below_alloc1 _ _)⟩
/-- behind an append: the new row, and the packets of both -/
theorem PL.append {w w' : World} {lo : Nat} {v v' : Value} {ps qs : List PV} (h : PL w lo v ps) (hq : ∀ x ∈ qs, x.own w lo) (ho : w'.ownsRow lo 24 9 v' (ps.length + qs.length) (ps.flatMap PV.cells ++ qs.flatMap PV.cells)) (hg : w.grownBy w' v.ownBlock) : PL w' lo v' (ps ++ qs) := by
  refine ⟨by rw [List.length_append, List.flatMap_append]; exact ho, fun x hx => ?_⟩
  have hx' : x.own w lo := by
    rcases List.mem_append.1 hx with h1 | h1
    · exact h.each x h1
    · exact hq x h1
  exact own_kept hx' fun k e => hg.block k (own_lt hx' k e).2 (own_ne h.row hx' k e)
/-- the cells of the packet at a place -/
theorem PL.at {w : World} {lo g c : Nat} {ps : List PV} (h : PL w lo (.slice (some ⟨g, 0, none⟩) ps.length c) ps) (i j : Nat) (hi : i < ps.length) (hj : j < 9) : w.cell? ⟨g, 9 * i + j, none⟩ = (ps[i].cells)[j]? := by
  rw [h.row.cellAt _ (by omega), flat_at ps i j hi hj]
theorem nine_one (p : Pk) (a : Option Addr) (n c : Nat) : ∀ u ∈ (pcells p (.slice a n c)).toList, u.oneCell' = true := by
  intro u hu
  simp [pcells] at hu
  rcases hu with rfl | rfl | rfl | rfl | rfl | rfl | rfl | rfl | rfl <;> rfl
theorem flat_one (ps : List PV) : ∀ u ∈ ps.flatMap PV.cells, u.oneCell' = true := by
  intro u hu
  obtain ⟨x, _, hx⟩ := List.mem_flatMap.1 hu
  exact nine_one _ _ _ _ u hx
end Go.Proofs.Ytjbkgmbakjnlhaa

/- The contracts of keyed, packetChecks and the six checks. -/
namespace Go.Proofs.Ytjbkgmbakjnlhaa
open Go.RowKit

/-- a keyed packet as a value -/
def Pk.kval (p : Pk) (n : Int) : Value := .agg #[.int .i64 p.src, .int .i64 p.dst, .int .i64 p.kind, .int .i64 p.id, .int .i64 p.hops, .bool p.whole, .int .i64 p.off, .bool p.more, .int .i64 n]

set_option maxHeartbeats 400000 in
theorem keyed_any (p : Pk) (a : Option Addr) (len cap : Nat) (w : World) :
    Calls Try.prog 51 #[p.val (.slice a len cap)] w fun e w' => e = .returned (p.kval len) ∧ Below w.heap.size w w' := by
  unfold Pk.val Pk.kval
  go_enter Try.func51, Try.ntmps51
  go_wp2
  exact bodyPost_ret (v := p.kval len) (by simp [results, Try.results51, go_sem, Pk.kval]) rfl ⟨rfl, Joins.below_alloc2 _ _ _⟩

set_option maxHeartbeats 400000 in
theorem packetChecks_any (w : World) :
    Calls Try.prog 52 #[] w fun e w' => e = .returned (.slice (some ⟨w.heap.size, 0, none⟩) 6 6) ∧
      w' = w.alloc (.cells #[.func (.func 76) #[] #[], .func (.func 77) #[] #[], .func (.func 78) #[] #[], .func (.func 79) #[] #[], .func (.func 80) #[] #[], .func (.func 81) #[] #[]] 78) := by
  go_enter Try.func52, Try.ntmps52
  go_wp2
  go_ret
  exact ⟨rfl, rfl⟩

set_option maxHeartbeats 400000 in
theorem hops_any (p : Pk) (n : Int) (w : World) :
    Calls Try.prog 77 #[p.kval n] w fun e w' => e = .returned (.bool (inB p.hops 1 64)) ∧ Below w.heap.size w w' := by
  unfold Pk.kval
  rw [← clamp_eq p.hops 1 64 (by omega)]
  go_enter Try.func77, Try.ntmps77
  go_wp2
  go_quiet ((go_at_call 89; exact Calls.quiet_of_same (clamp_any _ _ _ _)))
  go_wp2
  go_ret
  exact ⟨rfl, (Joins.below_alloc1 _ _).trans (Joins.below_draws _ _ _)⟩

set_option maxHeartbeats 400000 in
theorem begins_any (p : Pk) (n : Int) (w : World) :
    Calls Try.prog 78 #[p.kval n] w fun e w' => e = .returned (.bool (inB p.off 0 128 && (p.off.tmod 4 == 0))) ∧ Below w.heap.size w w' := by
  unfold Pk.kval
  rw [← clamp_eq p.off 0 128 (by omega)]
  cases h : (p.off == clampI p.off 0 128)
  all_goals
    go_enter Try.func78, Try.ntmps78
    go_wp2
    go_quiet ((go_at_call 89; exact Calls.quiet_of_same (clamp_any _ _ _ _)))
    go_wp2
    go_ret
    exact ⟨rfl, (Joins.below_alloc1 _ _).trans (Joins.below_draws _ _ _)⟩

set_option maxHeartbeats 400000 in
theorem ends_any (p : Pk) (n : Int) (w : World) (h0 : 0 ≤ n) (h1 : n ≤ 1048576) :
    Calls Try.prog 79 #[p.kval n] w fun e w' => e = .returned (.bool (decide (n ≤ 128) && decide (p.off ≤ 128 - n))) ∧ Below w.heap.size w w' := by
  unfold Pk.kval
  by_cases h : n ≤ 128
  all_goals
    go_enter Try.func79, Try.ntmps79
    go_wp2
    go_ret
    refine ⟨ret_bool ?_, Joins.below_alloc1 _ _⟩
    first | (simp [h]; done) | (simp; intros; omega)

set_option maxHeartbeats 400000 in
theorem leaves_any (p : Pk) (n : Nat) (w : World) (h1 : n ≤ 1048576) :
    Calls Try.prog 80 #[p.kval n] w fun e w' => e = .returned (.bool (!p.more || (decide ((0 : Int) < n) && ((n : Int) % 4 == 0)))) ∧ Below w.heap.size w w' := by
  unfold Pk.kval
  go_enter Try.func80, Try.ntmps80
  go_wp2
  all_goals
    go_ret
    refine ⟨ret_bool ?_, Joins.below_alloc1 _ _⟩
    first | (simp_all; done) | (simp_all; omega)

set_option maxHeartbeats 400000 in
theorem whole_any (p : Pk) (n : Int) (w : World) :
    Calls Try.prog 81 #[p.kval n] w fun e w' => e = .returned (.bool (!p.whole || ((p.off == 0) && !p.more))) ∧ Below w.heap.size w w' := by
  unfold Pk.kval
  go_enter Try.func81, Try.ntmps81
  go_wp2
  all_goals
    go_ret
    refine ⟨ret_bool ?_, Joins.below_alloc1 _ _⟩
    first | (simp_all; done) | (simp_all; omega)

set_option maxHeartbeats 1600000 in
theorem nearest_any (s d k i : Int) (w : World) :
    Calls Try.prog 88 #[.agg #[.int .i64 s, .int .i64 d, .int .i64 k, .int .i64 i]] w fun e w' => e = .returned (.agg #[.int .i64 (clampI s 0 65535), .int .i64 (clampI d 0 65535), .int .i64 (clampI k 1 7), .int .i64 (clampI i 0 255)]) ∧ Below w.heap.size w w' := by
  go_enter Try.func88, Try.ntmps88
  go_wp2
  go_region_held3 (fun w' => w'.cell? ⟨w.heap.size, 0, none⟩ = some (.int .i64 s) ∧ w'.cell? ⟨w.heap.size, 1, none⟩ = some (.int .i64 d) ∧ w'.cell? ⟨w.heap.size, 2, none⟩ = some (.int .i64 k) ∧ w'.cell? ⟨w.heap.size, 3, none⟩ = some (.int .i64 i)) (go_keep)
    (first | (go_at_call 89; refine (clamp_any _ _ _ _).mono ?_; rintro e w' ⟨rfl, rfl⟩))
  go_wp2
  exact bodyPost_ret (v := .agg #[.int .i64 (clampI s 0 65535), .int .i64 (clampI d 0 65535), .int .i64 (clampI k 1 7), .int .i64 (clampI i 0 255)]) (by simp [results, Try.results88, go_sem]) rfl ⟨rfl, (Joins.below_alloc2 _ _ _).drew⟩

theorem eqg51 (x y : Operand) (xs ys : Array Value) (w : World) : (eqGuard .eql 70 x y (.agg xs) (.agg ys)).run Try.prog w = .ok () w := run_eqGuard_agg w .eql 70 x y xs ys (by kernel_rfl)
theorem eql51 (s d k i s' d' k' i' : Int) (w : World) : (binOp .eql 70 (.agg #[.int .i64 s, .int .i64 d, .int .i64 k, .int .i64 i]) (.agg #[.int .i64 s', .int .i64 d', .int .i64 k', .int .i64 i'])).run Try.prog w =
    .ok (.bool ((s == s') && (d == d') && (k == k') && (i == i'))) w := by
  rw [run_eql_struct, show (10000 : Nat) = 9999 + 1 from rfl, run_equalIn_agg w 9999 70 _ _ (by kernel_rfl) (by kernel_rfl)]
  go_simp
  by_cases h1 : s = s' <;> by_cases h2 : d = d' <;> by_cases h3 : k = k' <;> by_cases h4 : i = i' <;> simp [h1, h2, h3, h4]

set_option maxHeartbeats 1600000 in
theorem key_any (p : Pk) (n : Int) (w : World) :
    Calls Try.prog 76 #[p.kval n] w fun e w' => e = .returned (.bool (inB p.src 0 65535 && inB p.dst 0 65535 && inB p.kind 1 7 && inB p.id 0 255)) ∧ Below w.heap.size w w' := by
  unfold Pk.kval
  rw [← clamp_eq p.src 0 65535 (by omega), ← clamp_eq p.dst 0 65535 (by omega), ← clamp_eq p.kind 1 7 (by omega), ← clamp_eq p.id 0 255 (by omega)]
  have hg := eqg51
  have he := eql51
  go_enter Try.func76, Try.ntmps76
  go_wp2
  go_region_held3 (fun w' => w.heap.size < w'.heap.size ∧ w'.cell? ⟨w.heap.size, 0, none⟩ = some (.int .i64 p.src) ∧ w'.cell? ⟨w.heap.size, 1, none⟩ = some (.int .i64 p.dst) ∧ w'.cell? ⟨w.heap.size, 2, none⟩ = some (.int .i64 p.kind) ∧ w'.cell? ⟨w.heap.size, 3, none⟩ = some (.int .i64 p.id)) (first | go_keep)
    (first | (go_at_call 88; refine (nearest_any _ _ _ _ _).mono ?_; rintro e w' ⟨rfl, hb⟩; have hsz : w.heap.size < w'.heap.size := Nat.lt_of_lt_of_le (by simp) hb.size; have hc : ∀ b o, b < w.heap.size + 1 → w'.cell? ⟨b, o, none⟩ = _ := fun b o h => hb.cell (p := ⟨b, o, none⟩) (by simpa using h)))
  go_wp2
  go_ret
  exact ⟨rfl, (Joins.below_alloc1 _ _).drew.trans (hb.mono (by simp))⟩
end Go.Proofs.Ytjbkgmbakjnlhaa
