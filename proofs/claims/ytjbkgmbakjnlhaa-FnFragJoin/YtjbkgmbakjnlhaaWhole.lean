/- The contract of l5Whole: a whole packet is drawn. -/
import Derived.Test.YtjbkgmbakjnlhaaData
import Derived.Test.YtjbkgmbakjnlhaaOkS
namespace Go.Proofs.Ytjbkgmbakjnlhaa
open Go.RowKit

/-- a packet that was drawn: its bytes are new -/
def PktPost (rb M lo : Nat) (Q : Pk → Nat → Prop) (w : World) (e : Ending) (w' : World) : Prop :=
  ∃ (p : Pk) (g c len : Nat) (zs : List Int), e = .returned (p.val (.slice (some ⟨g, 0, none⟩) len c)) ∧ w'.ownsRow lo 5 1 (.slice (some ⟨g, 0, none⟩) len c) len (zs.map (.int .u8)) ∧ zs.length = len ∧ len ≤ 200 ∧ Q p len ∧ Rdr w' rb M ∧ w.grownBy w' (some rb) ∧ ∀ z ∈ zs, 0 ≤ z ∧ z ≤ 255
/-- whole, and ok -/
def WholeOk (p : Pk) (len : Nat) : Prop := okB p len = true ∧ p.whole = false ∧ p.off = 0 ∧ p.more = false

theorem own_len {w : World} {base len c : Nat} {a : Option Addr} {zs : List Int} (h : w.ownsRow base 5 1 (.slice a len c) len (zs.map (.int .u8))) : zs.length = len := by
  have := h.1; simpa using this

theorem lt_of_block {w : World} {b : Nat} {o : Obj} (h : w.heap[b]? = some o) : b < w.heap.size := by
  rcases Nat.lt_or_ge b w.heap.size with h' | h'
  · exact h'
  · rw [Array.getElem?_eq_none h'] at h; cases h
/-- the lengths that are drawn from a table -/
theorem tab9 (X : Nat) (h : X < 9) : ∃ m : Nat, m ≤ 128 ∧ (#[Value.int IntKind.i64 0, .int .i64 1, .int .i64 4, .int .i64 5, .int .i64 12, .int .i64 31, .int .i64 64, .int .i64 127, .int .i64 128] : Array Value)[X]? = some (.int .i64 m) := by
  match X, h with
  | 0, _ => exact ⟨0, by omega, rfl⟩
  | 1, _ => exact ⟨1, by omega, rfl⟩
  | 2, _ => exact ⟨4, by omega, rfl⟩
  | 3, _ => exact ⟨5, by omega, rfl⟩
  | 4, _ => exact ⟨12, by omega, rfl⟩
  | 5, _ => exact ⟨31, by omega, rfl⟩
  | 6, _ => exact ⟨64, by omega, rfl⟩
  | 7, _ => exact ⟨127, by omega, rfl⟩
  | 8, _ => exact ⟨128, by omega, rfl⟩
theorem mul_in {a b : Int} (a0 : 0 ≤ a) (a1 : a < 5) (b0 : 0 ≤ b) (b1 : b < 16) : 0 ≤ a * b ∧ a * b ≤ 60 := by
  rcases (show a = 0 ∨ a = 1 ∨ a = 2 ∨ a = 3 ∨ a = 4 from by omega) with rfl | rfl | rfl | rfl | rfl <;> omega

theorem grown_b {a b c : World} {rb B : Nat} (h : a.grownBy b (some rb)) (hb : Below B b c) (hB : a.heap.size ≤ B) : a.grownBy c (some rb) :=
  ⟨hb.os.trans h.os, hb.tape.trans h.tape, hb.output.trans h.output, Nat.le_trans h.size hb.size, fun i hi hne => (hb.block i (by omega)).trans (h.block i hi hne)⟩
theorem Rdr.upto {w w' : World} {rb N B : Nat} (h : Rdr w rb N) (hb : Below B w w') (hB : rb < B) : Rdr w' rb N := h.keep hb.size fun j hj => hb.block j (by omega)
theorem wholeOk {s d k i x : Int} {len : Nat} (s0 : 0 ≤ s) (s2 : s < 3) (d0 : 0 ≤ d) (d2 : d < 2) (k0 : 0 ≤ k) (k2 : k < 2) (i0 : 0 ≤ i) (i2 : i < 2) (hx : 0 ≤ x ∧ x ≤ 60) (hl : len ≤ 128) :
    WholeOk ⟨s, 256 * d, 1 + k, i, 1 + x, false, 0, false⟩ len := by
  refine ⟨?_, rfl, rfl, rfl⟩
  simp [okB, headB, offB, moreB, wholeB, inB]
  omega

set_option maxHeartbeats 3200000 in
theorem l5Whole_any (rb N : Nat) (w : World) (hR : Rdr w rb N) (hN : N ≤ 90000) :
    Calls Try.prog 34 #[.pointer (some ⟨rb, 0, none⟩)] w (PktPost rb (N + 700) w.heap.size WholeOk w) := by
  have hlt := hR.lt
  have hne : some w.heap.size ≠ some rb := fun e => by have := Option.some.inj e; omega
  go_enter Try.func34, Try.ntmps34
  go_wp2_with fail
  refine (pick_any rb N 9 _ (hR.below (Joins.below_alloc2 _ _ _)) (by omega) (by omega) (by omega)).mono ?_
  rintro e w1 ⟨x, rfl, hx0, hx1, -, R1, G⟩
  obtain ⟨X, rfl⟩ := Int.eq_ofNat_of_zero_le hx0
  have hX : X < 9 := by have := hx1 (by omega); omega
  obtain ⟨m, hm, htab⟩ := tab9 X hX
  have Z1 : w1.heap[w.heap.size]? = some (.cells (pcells zeroPk (.slice none 0 0)) 24 (0, 0)) := (G.block _ (by simp; omega) hne).trans (by rw [Below.heap_alloc _ _ _ (by simp)]; exact heap_new _ _ _ rfl)
  have hcX : w1.cell? ⟨w.heap.size + 1, X, none⟩ = some (.int .i64 m) := by
    rw [Joins.cell_of_block ((G.block _ (by simp) (fun e => by have := Option.some.inj e; omega)).trans (heap_new _ _ _ (by simp))) X]
    exact htab
  have G1 : w.grownBy w1 (some rb) := grown_trans (grown_below (Joins.below_alloc2 _ _ _)) G
  have hXi : (X : Int) < 9 := by omega
  clear G htab hR
  go_wp2_with fail
  refine (pick_any rb (N + 1) 2 _ R1 (by omega) (by omega) (by omega)).mono ?_
  rintro e w2 ⟨y, rfl, hy0, hy1, -, R2, G⟩
  have Z2 := (G.block _ (lt_of_block Z1) hne).trans Z1
  have G2 := grown_trans G1 G
  clear R1 Z1 G1 G hcX
  by_cases hy : y = 0
  · subst hy
    go_wp2_with fail
    refine (pick_any rb (N + 1 + 1) 40 _ R2 (by omega) (by omega) (by omega)).mono ?_
    rintro e w3 ⟨z, rfl, hz0, hz1, -, R3, G⟩
    have Z3 := (G.block _ (lt_of_block Z2) hne).trans Z2
    have G3 := grown_trans G2 G
    clear R2 Z2 G2 G
    obtain ⟨m', rfl⟩ := Int.eq_ofNat_of_zero_le hz0
    have hm' : m' < 40 := by have := hz1 (by omega); omega
    go_wp2_with fail
    refine (pick_any rb (N + 1 + 1 + 1) 3 _ R3 (by omega) (by omega) (by omega)).mono ?_
    rintro e w4 ⟨s, rfl, s0, s1, -, R4, G⟩
    have Z4 := (G.block _ (lt_of_block Z3) hne).trans Z3
    have G4 := grown_trans G3 G
    have s2 := s1 (by omega)
    clear R3 Z3 G3 G s1
    go_wp2_with fail
    refine (pick_any rb (N + 1 + 1 + 1 + 1) 2 _ R4 (by omega) (by omega) (by omega)).mono ?_
    rintro e w5 ⟨d, rfl, d0, d1, -, R5, G⟩
    have Z5 := (G.block _ (lt_of_block Z4) hne).trans Z4
    have G5 := grown_trans G4 G
    have d2 := d1 (by omega)
    clear R4 Z4 G4 G d1
    go_wp2_with fail
    refine (pick_any rb (N + 1 + 1 + 1 + 1 + 1) 2 _ R5 (by omega) (by omega) (by omega)).mono ?_
    rintro e w6 ⟨k, rfl, k0, k1, -, R6, G⟩
    have Z6 := (G.block _ (lt_of_block Z5) hne).trans Z5
    have G6 := grown_trans G5 G
    have k2 := k1 (by omega)
    clear R5 Z5 G5 G k1
    go_wp2_with fail
    refine (pick_any rb (N + 1 + 1 + 1 + 1 + 1 + 1) 2 _ R6 (by omega) (by omega) (by omega)).mono ?_
    rintro e w7 ⟨i, rfl, i0, i1, -, R7, G⟩
    have Z7 := (G.block _ (lt_of_block Z6) hne).trans Z6
    have G7 := grown_trans G6 G
    have i2 := i1 (by omega)
    clear R6 Z6 G6 G i1
    go_wp2_with fail
    refine (pick_any rb (N + 1 + 1 + 1 + 1 + 1 + 1 + 1) 5 _ R7 (by omega) (by omega) (by omega)).mono ?_
    rintro e w8 ⟨ha, rfl, ha0, ha1, -, R8, G⟩
    have Z8 := (G.block _ (lt_of_block Z7) hne).trans Z7
    have G8 := grown_trans G7 G
    have ha2 := ha1 (by omega)
    clear R7 Z7 G7 G ha1
    go_wp2_with fail
    refine (pick_any rb (N + 1 + 1 + 1 + 1 + 1 + 1 + 1 + 1) 16 _ R8 (by omega) (by omega) (by omega)).mono ?_
    rintro e w9 ⟨hb, rfl, hb0, hb1, -, R9, G⟩
    have Z9 := (G.block _ (lt_of_block Z8) hne).trans Z8
    have G9 := grown_trans G8 G
    have hb2 := hb1 (by omega)
    clear R8 Z8 G8 G hb1
    have hmul := mul_in ha0 ha2 hb0 hb2
    have hw1 : wrap64 (ha * hb) = ha * hb := wrap_small hmul.1 (by omega)
    go_wp2_with fail
    refine (l5Data_any rb (N + 1 + 1 + 1 + 1 + 1 + 1 + 1 + 1 + 1) m' _ R9 (by omega) (by omega)).mono ?_
    rintro e w10 ⟨g, c, zs, rfl, O, R10, G, hby⟩
    have Z10 := (G.block _ (lt_of_block Z9) hne).trans Z9
    have G10 := grown_trans G9 G
    have hs10 := G9.size
    have OW : Hid (w10.ownsRow (w.heap.size + 1) 5 1 (.slice (some ⟨g, 0, none⟩) m' c) m' (zs.map (.int .u8))) := Joins.ownsRow_le O (by have := lt_of_block Z9; omega)
    have hzl := own_len O
    have HBY : Hid (∀ z ∈ zs, 0 ≤ z ∧ z ≤ 255) := hby
    clear hby
    have GH : Hid (w.grownBy w10 (some rb)) := G10
    have RH : Hid (Rdr w10 rb (N + 700)) := R10.mono (by omega)
    have fz : ∀ o, w10.frozen? ⟨w.heap.size, o, none⟩ = false := fun o => Joins.unfrozen_of_block Z10 o
    obtain ⟨zlt, z0, z1, z2, z3, z4, z5, z6, z7, z8⟩ := Boxed.of_block Z10
    clear O R9 R10 Z9 G9 G G10 Z10
    go_wp2
    refine bodyPost_ret (v := Pk.val ⟨s, 256 * d, 1 + k, i, 1 + ha * hb, false, 0, false⟩ (.slice (some ⟨g, 0, none⟩) m' c)) (by simp [results, Try.results34, go_sem, z0, z1, z2, z3, z4, z5, z6, z7, z8, Pk.val]) rfl ?_
    have hb9 := below9 (B := w.heap.size) (Below.refl _ w10) (Nat.le_refl _) (.int .i64 s) (.int .i64 (256 * d)) (.int .i64 (1 + k)) (.int .i64 i) (.int .i64 (1 + ha * hb)) (.bool false) (.int .i64 0) (.bool false) (.slice (some ⟨g, 0, none⟩) m' c)
    exact ⟨_, g, c, m', zs, rfl, Joins.ownsRow_le (own9 OW.out (by omega) _ _ _ _ _ _ _ _ _) (by omega), hzl, by omega, wholeOk s0 s2 d0 d2 k0 k2 i0 i2 hmul (by omega), RH.out.upto hb9 hlt, grown_b GH.out hb9 (Nat.le_refl _), HBY.out⟩
  · have hyb : (y == 0) = false := by simp [hy]
    go_wp2_with fail
    refine (pick_any rb (N + 1 + 1) 3 _ R2 (by omega) (by omega) (by omega)).mono ?_
    rintro e w3 ⟨s, rfl, s0, s1, -, R3, G⟩
    have Z3 := (G.block _ (lt_of_block Z2) hne).trans Z2
    have G3 := grown_trans G2 G
    have s2 := s1 (by omega)
    clear R2 Z2 G2 G s1
    go_wp2_with fail
    refine (pick_any rb (N + 1 + 1 + 1) 2 _ R3 (by omega) (by omega) (by omega)).mono ?_
    rintro e w4 ⟨d, rfl, d0, d1, -, R4, G⟩
    have Z4 := (G.block _ (lt_of_block Z3) hne).trans Z3
    have G4 := grown_trans G3 G
    have d2 := d1 (by omega)
    clear R3 Z3 G3 G d1
    go_wp2_with fail
    refine (pick_any rb (N + 1 + 1 + 1 + 1) 2 _ R4 (by omega) (by omega) (by omega)).mono ?_
    rintro e w5 ⟨k, rfl, k0, k1, -, R5, G⟩
    have Z5 := (G.block _ (lt_of_block Z4) hne).trans Z4
    have G5 := grown_trans G4 G
    have k2 := k1 (by omega)
    clear R4 Z4 G4 G k1
    go_wp2_with fail
    refine (pick_any rb (N + 1 + 1 + 1 + 1 + 1) 2 _ R5 (by omega) (by omega) (by omega)).mono ?_
    rintro e w6 ⟨i, rfl, i0, i1, -, R6, G⟩
    have Z6 := (G.block _ (lt_of_block Z5) hne).trans Z5
    have G6 := grown_trans G5 G
    have i2 := i1 (by omega)
    clear R5 Z5 G5 G i1
    go_wp2_with fail
    refine (pick_any rb (N + 1 + 1 + 1 + 1 + 1 + 1) 5 _ R6 (by omega) (by omega) (by omega)).mono ?_
    rintro e w7 ⟨ha, rfl, ha0, ha1, -, R7, G⟩
    have Z7 := (G.block _ (lt_of_block Z6) hne).trans Z6
    have G7 := grown_trans G6 G
    have ha2 := ha1 (by omega)
    clear R6 Z6 G6 G ha1
    go_wp2_with fail
    refine (pick_any rb (N + 1 + 1 + 1 + 1 + 1 + 1 + 1) 16 _ R7 (by omega) (by omega) (by omega)).mono ?_
    rintro e w8 ⟨hb, rfl, hb0, hb1, -, R8, G⟩
    have Z8 := (G.block _ (lt_of_block Z7) hne).trans Z7
    have G8 := grown_trans G7 G
    have hb2 := hb1 (by omega)
    clear R7 Z7 G7 G hb1
    have hmul := mul_in ha0 ha2 hb0 hb2
    have hw1 : wrap64 (ha * hb) = ha * hb := wrap_small hmul.1 (by omega)
    go_wp2_with fail
    refine (l5Data_any rb (N + 1 + 1 + 1 + 1 + 1 + 1 + 1 + 1) m _ R8 (by omega) (by omega)).mono ?_
    rintro e w9 ⟨g, c, zs, rfl, O, R9, G, hby⟩
    have Z9 := (G.block _ (lt_of_block Z8) hne).trans Z8
    have G9 := grown_trans G8 G
    have hs9 := G8.size
    have OW : Hid (w9.ownsRow (w.heap.size + 1) 5 1 (.slice (some ⟨g, 0, none⟩) m c) m (zs.map (.int .u8))) := Joins.ownsRow_le O (by have := lt_of_block Z8; omega)
    have hzl := own_len O
    have HBY : Hid (∀ z ∈ zs, 0 ≤ z ∧ z ≤ 255) := hby
    clear hby
    have GH : Hid (w.grownBy w9 (some rb)) := G9
    have RH : Hid (Rdr w9 rb (N + 700)) := R9.mono (by omega)
    have fz : ∀ o, w9.frozen? ⟨w.heap.size, o, none⟩ = false := fun o => Joins.unfrozen_of_block Z9 o
    obtain ⟨zlt, z0, z1, z2, z3, z4, z5, z6, z7, z8⟩ := Boxed.of_block Z9
    clear O R8 R9 Z8 G8 G G9 Z9
    go_wp2
    refine bodyPost_ret (v := Pk.val ⟨s, 256 * d, 1 + k, i, 1 + ha * hb, false, 0, false⟩ (.slice (some ⟨g, 0, none⟩) m c)) (by simp [results, Try.results34, go_sem, z0, z1, z2, z3, z4, z5, z6, z7, z8, Pk.val]) rfl ?_
    have hb9 := below9 (B := w.heap.size) (Below.refl _ w9) (Nat.le_refl _) (.int .i64 s) (.int .i64 (256 * d)) (.int .i64 (1 + k)) (.int .i64 i) (.int .i64 (1 + ha * hb)) (.bool false) (.int .i64 0) (.bool false) (.slice (some ⟨g, 0, none⟩) m c)
    exact ⟨_, g, c, m, zs, rfl, Joins.ownsRow_le (own9 OW.out (by omega) _ _ _ _ _ _ _ _ _) (by omega), hzl, by omega, wholeOk s0 s2 d0 d2 k0 k2 i0 i2 hmul (by omega), RH.out.upto hb9 hlt, grown_b GH.out hb9 (Nat.le_refl _), HBY.out⟩
end Go.Proofs.Ytjbkgmbakjnlhaa
