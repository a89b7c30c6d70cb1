/- A cell of an owned row is written; a packet of a list is put in another's place. -/
import Derived.Test.YtjbkgmbakjnlhaaList
import Derived.Laws.Rows
namespace Go.Proofs.Ytjbkgmbakjnlhaa
open Go.RowKit

theorem own_set {w : World} {base : Nat} {e : TypeId} {size n c g o : Nat} {xs : List Value} (h : w.ownsRow base e size (.slice (some ⟨g, 0, none⟩) n c) n xs) (u : Value) : (w.setCell ⟨g, o, none⟩ u).ownsRow base e size (.slice (some ⟨g, 0, none⟩) n c) n (xs.set o u) := by
  have h1 := h.1
  rcases h.2 with ⟨hv, _⟩ | ⟨g', cap, cur, hv, hb, hh, hc, hm, hs, ht⟩
  · cases hv
  · cases hv
    refine ⟨by simpa using h1, Or.inr ⟨g, c, cur.setIfInBounds o u, rfl, hb, heap_setCell_same _ _ _ _ _ _ hh, hc, hm, by simpa using hs, ?_⟩⟩
    rw [Array.toList_setIfInBounds, List.take_set, ht]
theorem flat_set (u : PV) : ∀ (ls : List PV) (k : Nat), k < ls.length →
    (((((((((ls.flatMap PV.cells).set (k * 9) (.int .i64 u.p.src)).set (k * 9 + 1) (.int .i64 u.p.dst)).set (k * 9 + 2) (.int .i64 u.p.kind)).set (k * 9 + 3) (.int .i64 u.p.id)).set (k * 9 + 4) (.int .i64 u.p.hops)).set (k * 9 + 5) (.bool u.p.whole)).set (k * 9 + 6) (.int .i64 u.p.off)).set (k * 9 + 7) (.bool u.p.more)).set (k * 9 + 8) (.slice (some ⟨u.g, 0, none⟩) u.zs.length u.c) = (ls.set k u).flatMap PV.cells
  | [], k, h => by simp at h
  | y :: r, 0, _ => by
    simp only [Nat.zero_mul, Nat.zero_add, List.set_cons_zero, List.flatMap_cons]
    rfl
  | y :: r, k + 1, h => by
    have ih := flat_set u r k (by simp at h; omega)
    rw [List.set_cons_succ, List.flatMap_cons, List.flatMap_cons, ← ih]
    have hl : (PV.cells y).length = 9 := rfl
    have e : ∀ (l : List Value) (j : Nat) (x : Value), (PV.cells y ++ l).set ((k + 1) * 9 + j) x = PV.cells y ++ l.set (k * 9 + j) x := fun l j x => by
      rw [List.set_append_right _ _ (by omega), hl, show (k + 1) * 9 + j - 9 = k * 9 + j by omega]
    have e0 : ∀ (l : List Value) (x : Value), (PV.cells y ++ l).set ((k + 1) * 9) x = PV.cells y ++ l.set (k * 9) x := fun l x => e l 0 x
    rw [e0, e, e, e, e, e, e, e, e]
end Go.Proofs.Ytjbkgmbakjnlhaa
