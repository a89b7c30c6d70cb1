/- Contracts of l5Any and DrawFragHop. -/
import Derived.Test.YtjbkgmbakjnlhaaSpoil
import Derived.Test.YtjbkgmbakjnlhaaPartAd
import Derived.Laws.Rows
namespace Go.Proofs.Ytjbkgmbakjnlhaa
open Go.RowKit

set_option maxRecDepth 100000 in
set_option maxHeartbeats 1600000 in
theorem l5Any_any (rb N : Nat) (w : World) (hR : Rdr w rb N) (hN : N ≤ 70000) :
    Calls Try.prog 53 #[.pointer (some ⟨rb, 0, none⟩)] w (PktPost rb (N + 2000) w.heap.size AnyPk w) := by
  have hlt := hR.lt
  have hne : some w.heap.size ≠ some rb := fun e => by have := Option.some.inj e; omega
  go_enter Try.func53, Try.ntmps53
  go_wp2_with fail
  refine (l5Piece_any rb N _ (hR.below (Joins.below_alloc1 _ _)) (by omega)).mono ?_
  rintro e w1 ⟨p, g, c, len, zs, rfl, o1, hz, hl, -, R1, G, hby⟩
  subst hz
  have HBY : Hid (∀ z ∈ zs, 0 ≤ z ∧ z ≤ 255) := hby
  clear hby
  have o1' : w1.ownsRow (w.heap.size + 1) 5 1 (.slice (some ⟨g, 0, none⟩) zs.length c) zs.length (zs.map (.int .u8)) := Joins.ownsRow_le o1 (by simp)
  have Z1 : w1.heap[w.heap.size]? = some (.cells (pcells zeroPk (.slice none 0 0)) 24 (0, 0)) := (G.block _ (by simp) hne).trans (heap_new _ _ _ rfl)
  have G1 : w.grownBy w1 (some rb) := grown_trans (grown_alloc _ _ _) G
  have hs1 : w.heap.size < w1.heap.size := lt_of_block Z1
  have hgx : g ≠ w1.heap.size := by have := (own_lt o1' g rfl).2; omega
  have hgz : g ≠ w.heap.size := by have := (own_lt o1' g rfl).1; omega
  clear G o1 hR
  unfold Pk.val
  go_wp2_with fail
  refine (pick_any rb (N + 720) 20 _ (R1.below (Joins.below_alloc1 _ _)) (by omega) (by omega) (by omega)).mono ?_
  rintro e w2 ⟨x, rfl, x0, x1, -, R2, G⟩
  have hnb : some w1.heap.size ≠ some rb := fun e => by have := Option.some.inj e; omega
  have Z2 := (G.block _ (by simp; omega) hne).trans ((Below.heap_alloc _ _ _ hs1).trans Z1)
  have X2 : w2.heap[w1.heap.size]? = some (.cells (pcells p (.slice (some ⟨g, 0, none⟩) zs.length c)) 24 (0, 0)) := (G.block _ (by simp) hnb).trans (heap_new _ _ _ rfl)
  have o2 := own_grown (own_below o1' (Joins.below_alloc1 _ (.cells (pcells p (.slice (some ⟨g, 0, none⟩) zs.length c)) 24))) G (by omega)
  have G2 : w.grownBy w2 (some rb) := grown_trans (grown_trans G1 (grown_alloc _ _ _)) G
  clear G G1 Z1 o1' R1
  obtain ⟨lx, c0, c1, c2', c3, c4, c5, c6, c7, c8⟩ := Boxed.of_block X2
  by_cases hx : x = 0
  · subst hx
    go_wp2_with fail
    refine (l5Spoil_any rb (N + 720 + 1) (w.heap.size + 1) p g c zs _ R2 (by omega) o2 (by omega) (by omega) hl HBY.out).mono ?_
    rintro e w3 ⟨q, h, d, len, ys, rfl, o3, hz, hl3, -, R3, G, hby⟩
    subst hz
    have HBY3 : Hid (∀ z ∈ ys, 0 ≤ z ∧ z ≤ 255) := hby
    clear hby
    have Z3 := (G.block _ (lt_of_block Z2) hne).trans Z2
    have G3 := grown_trans G2 G
    have fz : ∀ o, w3.frozen? ⟨w.heap.size, o, none⟩ = false := fun o => Joins.unfrozen_of_block Z3 o
    have hhz : h ≠ w.heap.size := by have := (own_lt o3 h rfl).1; omega
    clear c0 c1 c2' c3 c4 c5 c6 c7 c8
    obtain ⟨lz, z0, z1, z2, z3, z4, z5, z6, z7, z8⟩ := Boxed.of_block Z3
    have OH : Hid (w3.ownsRow (w.heap.size + 1) 5 1 (.slice (some ⟨h, 0, none⟩) ys.length d) ys.length (ys.map (.int .u8))) := o3
    have GH : Hid (w.grownBy w3 (some rb)) := G3
    have RH : Hid (Rdr w3 rb (N + 2000)) := R3.mono (by omega)
    clear G G2 G3 Z2 Z3 X2 o2 o3 R2 R3
    unfold Pk.val
    go_wp2
    refine bodyPost_ret (v := .agg #[.int .i64 q.src, .int .i64 q.dst, .int .i64 q.kind, .int .i64 q.id, .int .i64 q.hops, .bool q.whole, .int .i64 q.off, .bool q.more, .slice (some ⟨h, 0, none⟩) ys.length d]) (by simp [results, Try.results53, go_sem, z0, z1, z2, z3, z4, z5, z6, z7, z8]) rfl ?_
    exact pkt_post (p := q) (lo := w.heap.size + 1) (by omega) OH.out hl3 RH.out hlt GH.out (below9 (Below.refl _ _) (Nat.le_refl _) _ _ _ _ _ _ _ _ _) (heap9 _ _ _ hhz _ _ _ _ _ _ _ _ _) HBY3.out
  · have hxb : (x == 0) = false := by simp [hx]
    have fz : ∀ o, w2.frozen? ⟨w.heap.size, o, none⟩ = false := fun o => Joins.unfrozen_of_block Z2 o
    obtain ⟨lz, z0, z1, z2, z3, z4, z5, z6, z7, z8⟩ := Boxed.of_block Z2
    have OH : Hid (w2.ownsRow (w.heap.size + 1) 5 1 (.slice (some ⟨g, 0, none⟩) zs.length c) zs.length (zs.map (.int .u8))) := o2
    have GH : Hid (w.grownBy w2 (some rb)) := G2
    have RH : Hid (Rdr w2 rb (N + 2000)) := R2.mono (by omega)
    clear G2 Z2 X2 o2 R2
    go_wp2
    refine bodyPost_ret (v := .agg #[.int .i64 p.src, .int .i64 p.dst, .int .i64 p.kind, .int .i64 p.id, .int .i64 p.hops, .bool p.whole, .int .i64 p.off, .bool p.more, .slice (some ⟨g, 0, none⟩) zs.length c]) (by simp [results, Try.results53, go_sem, z0, z1, z2, z3, z4, z5, z6, z7, z8]) rfl ?_
    exact pkt_post (p := p) (lo := w.heap.size + 1) (by omega) OH.out hl RH.out hlt GH.out (below9 (Below.refl _ _) (Nat.le_refl _) _ _ _ _ _ _ _ _ _) (heap9 _ _ _ hgz _ _ _ _ _ _ _ _ _) HBY.out

set_option maxRecDepth 100000 in
set_option maxHeartbeats 1600000 in
theorem drawHop_any (a : Option Addr) (len cap : Nat) (zs : List Int) (w : World) (hr : RdB w a len zs) (hz : ∀ z ∈ zs, 0 ≤ z ∧ z ≤ 255) (hc : len ≤ cap) (hl : len ≤ 1048576) :
    Calls Try.prog 17 #[.slice a len cap] w fun e w' => ∃ (p : Pk) (g c : Nat) (ys : List Int), e = .returned (p.val (.slice (some ⟨g, 0, none⟩) ys.length c)) ∧ w'.ownsRow w.heap.size 5 1 (.slice (some ⟨g, 0, none⟩) ys.length c) ys.length (ys.map (.int .u8)) ∧ ys.length ≤ 200 ∧ Below w.heap.size w w' ∧ ∀ z ∈ ys, 0 ≤ z ∧ z ≤ 255 := by
  go_enter Try.func17, Try.ntmps17
  go_wp2_with fail
  refine (l1Open_any a len cap zs _ (hr.below (Joins.below_alloc1 _ _)) hz hc hl).mono ?_
  rintro e w1 ⟨rb, rfl, hrb, R1, b1⟩
  have hrb' : w.heap.size < rb := Nat.lt_of_lt_of_le (by simp) hrb
  have Z1 : w1.heap[w.heap.size]? = some (.cells (pcells zeroPk (.slice none 0 0)) 24 (0, 0)) := (b1.block _ (by simp)).trans (heap_new _ _ _ rfl)
  have B1 : Below w.heap.size w w1 := (Joins.below_alloc1 _ _).trans (b1.mono (by simp))
  have hs1 := R1.lt
  go_wp2_with fail
  refine (l5Any_any rb 0 _ R1 (by omega)).mono ?_
  rintro e w2 ⟨p, g, c, len, ys, rfl, o2, hy, hyl, -, -, G, hby⟩
  subst hy
  have HBY : Hid (∀ z ∈ ys, 0 ≤ z ∧ z ≤ 255) := hby
  clear hby
  have Z2 := (G.block _ (lt_of_block Z1) (fun e => by have := Option.some.inj e; omega)).trans Z1
  have B2 : Below w.heap.size w w2 := B1.trans ⟨G.os, G.tape, G.output, G.size, fun k hk => G.block k (by omega) (fun e => by have := Option.some.inj e; omega)⟩
  have fz : ∀ o, w2.frozen? ⟨w.heap.size, o, none⟩ = false := fun o => Joins.unfrozen_of_block Z2 o
  obtain ⟨lz, z0, z1, z2, z3, z4, z5, z6, z7, z8⟩ := Boxed.of_block Z2
  have OH : Hid (w2.ownsRow (w.heap.size + 1) 5 1 (.slice (some ⟨g, 0, none⟩) ys.length c) ys.length (ys.map (.int .u8))) := Joins.ownsRow_le o2 (by omega)
  have BH : Hid (Below w.heap.size w w2) := B2
  clear G Z1 Z2 o2 B1 B2 b1 R1
  unfold Pk.val
  go_wp2
  refine bodyPost_ret (v := .agg #[.int .i64 p.src, .int .i64 p.dst, .int .i64 p.kind, .int .i64 p.id, .int .i64 p.hops, .bool p.whole, .int .i64 p.off, .bool p.more, .slice (some ⟨g, 0, none⟩) ys.length c]) (by simp [results, Try.results17, go_sem, z0, z1, z2, z3, z4, z5, z6, z7, z8]) rfl ?_
  exact ⟨p, g, c, ys, rfl, Joins.ownsRow_le (own9 OH.out (by omega) _ _ _ _ _ _ _ _ _) (by omega), hyl, below9 BH.out (Nat.le_refl _) _ _ _ _ _ _ _ _ _, HBY.out⟩
end Go.Proofs.Ytjbkgmbakjnlhaa

/- A cell of an owned row is written; a packet of a list is put in another's place. -/
namespace Go.Proofs.Ytjbkgmbakjnlhaa
open Go.RowKit

theorem own_set {w : World} {base : Nat} {e : TypeId} {size n c g o : Nat} {xs : List Value} (h : w.ownsRow base e size (.slice (some ⟨g, 0, none⟩) n c) n xs) (u : Value) : (w.setCell ⟨g, o, none⟩ u).ownsRow base e size (.slice (some ⟨g, 0, none⟩) n c) n (xs.set o u) := by
  have h1 := h.1
  rcases h.2 with ⟨hv, _⟩ | ⟨g', cap, cur, hv, hb, hh, hc, hm, hs, ht⟩
  · cases hv
  · cases hv
    refine ⟨by simpa using h1, Or.inr ⟨g, c, cur.setIfInBounds o u, rfl, hb, heap_setCell_same _ _ _ _ _ _ hh, hc, hm, by simpa using hs, ?_⟩⟩
    rw [Array.toList_setIfInBounds, List.take_set, ht]
theorem flat_set (u : PV) : ∀ (ls : List PV) (k : Nat), k < ls.length →
    (((((((((ls.flatMap PV.cells).set (k * 9) (.int .i64 u.p.src)).set (k * 9 + 1) (.int .i64 u.p.dst)).set (k * 9 + 2) (.int .i64 u.p.kind)).set (k * 9 + 3) (.int .i64 u.p.id)).set (k * 9 + 4) (.int .i64 u.p.hops)).set (k * 9 + 5) (.bool u.p.whole)).set (k * 9 + 6) (.int .i64 u.p.off)).set (k * 9 + 7) (.bool u.p.more)).set (k * 9 + 8) (.slice (some ⟨u.g, 0, none⟩) u.zs.length u.c) = (ls.set k u).flatMap PV.cells
  | [], k, h => by simp at h
  | y :: r, 0, _ => by
    simp only [Nat.zero_mul, Nat.zero_add, List.set_cons_zero, List.flatMap_cons]
    rfl
  | y :: r, k + 1, h => by
    have ih := flat_set u r k (by simp at h; omega)
    rw [List.set_cons_succ, List.flatMap_cons, List.flatMap_cons, ← ih]
    have hl : (PV.cells y).length = 9 := rfl
    have e : ∀ (l : List Value) (j : Nat) (x : Value), (PV.cells y ++ l).set ((k + 1) * 9 + j) x = PV.cells y ++ l.set (k * 9 + j) x := fun l j x => by
      rw [List.set_append_right _ _ (by omega), hl, show (k + 1) * 9 + j - 9 = k * 9 + j by omega]
    have e0 : ∀ (l : List Value) (x : Value), (PV.cells y ++ l).set ((k + 1) * 9) x = PV.cells y ++ l.set (k * 9) x := fun l x => e l 0 x
    rw [e0, e, e, e, e, e, e, e, e]
end Go.Proofs.Ytjbkgmbakjnlhaa
