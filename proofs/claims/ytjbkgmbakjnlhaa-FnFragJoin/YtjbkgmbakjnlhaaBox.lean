/- A packet in a box in memory; what a call leaves of it. -/
import Derived.Test.YtjbkgmbakjnlhaaPack
namespace Go.Proofs.Ytjbkgmbakjnlhaa
open Go.RowKit

/-- a packet lies in a box -/
structure Boxed (w : World) (b : Nat) (p : Pk) (v : Value) : Prop where
  lt : b < w.heap.size
  c0 : w.cell? ⟨b, 0, none⟩ = some (.int .i64 p.src)
  c1 : w.cell? ⟨b, 1, none⟩ = some (.int .i64 p.dst)
  c2 : w.cell? ⟨b, 2, none⟩ = some (.int .i64 p.kind)
  c3 : w.cell? ⟨b, 3, none⟩ = some (.int .i64 p.id)
  c4 : w.cell? ⟨b, 4, none⟩ = some (.int .i64 p.hops)
  c5 : w.cell? ⟨b, 5, none⟩ = some (.bool p.whole)
  c6 : w.cell? ⟨b, 6, none⟩ = some (.int .i64 p.off)
  c7 : w.cell? ⟨b, 7, none⟩ = some (.bool p.more)
  c8 : w.cell? ⟨b, 8, none⟩ = some v
theorem Boxed.below {w w' : World} {b : Nat} {p : Pk} {v : Value} (h : Boxed w b p v) (hb : Below w.heap.size w w') : Boxed w' b p v :=
  have e : ∀ o, w'.cell? ⟨b, o, none⟩ = w.cell? ⟨b, o, none⟩ := fun o => hb.cell (p := ⟨b, o, none⟩) h.lt
  ⟨Nat.lt_of_lt_of_le h.lt hb.size, (e 0).trans h.c0, (e 1).trans h.c1, (e 2).trans h.c2, (e 3).trans h.c3, (e 4).trans h.c4, (e 5).trans h.c5, (e 6).trans h.c6, (e 7).trans h.c7, (e 8).trans h.c8⟩
/-- a packet's cells -/
def pcells (p : Pk) (v : Value) : Array Value := #[.int .i64 p.src, .int .i64 p.dst, .int .i64 p.kind, .int .i64 p.id, .int .i64 p.hops, .bool p.whole, .int .i64 p.off, .bool p.more, v]
theorem Boxed.new (w : World) (p : Pk) (v : Value) (t : TypeId) : Boxed (w.alloc (.cells (pcells p v) t)) w.heap.size p v := by
  have e : ∀ o, (w.alloc (.cells (pcells p v) t)).cell? ⟨w.heap.size, o, none⟩ = (pcells p v)[o]? := fun o => World.cell?_alloc_at _ _ _ _ rfl
  exact ⟨by simp, e 0, e 1, e 2, e 3, e 4, e 5, e 6, e 7, e 8⟩
theorem Boxed.newAt (w : World) (n : Nat) (p : Pk) (v : Value) (t : TypeId) (h : n = w.heap.size) : Boxed (w.alloc (.cells (pcells p v) t)) n p v := by
  subst h; exact Boxed.new w p v t
theorem Boxed.upto {w w' : World} {B b : Nat} {p : Pk} {v : Value} (h : Boxed w b p v) (hb : Below B w w') (hB : b < B) : Boxed w' b p v :=
  have e : ∀ o, w'.cell? ⟨b, o, none⟩ = w.cell? ⟨b, o, none⟩ := fun o => hb.cell (p := ⟨b, o, none⟩) hB
  ⟨Nat.lt_of_lt_of_le h.lt hb.size, (e 0).trans h.c0, (e 1).trans h.c1, (e 2).trans h.c2, (e 3).trans h.c3, (e 4).trans h.c4, (e 5).trans h.c5, (e 6).trans h.c6, (e 7).trans h.c7, (e 8).trans h.c8⟩
theorem draw1 (w : World) : Below w.heap.size w w.drew := (Below.refl _ _).drew

/-- the packet of zeros -/
def zeroPk : Pk := ⟨0, 0, 0, 0, 0, false, 0, false⟩
theorem bcell {B : Nat} {W w1 : World} (hb : Below B W w1) : (∀ b o, b < B → w1.cell? ⟨b, o, none⟩ = W.cell? ⟨b, o, none⟩) ∧ (∀ b o, b < B → w1.frozen? ⟨b, o, none⟩ = W.frozen? ⟨b, o, none⟩) :=
  ⟨fun b o h => hb.cell (p := ⟨b, o, none⟩) h, fun b o h => hb.frozen (p := ⟨b, o, none⟩) h⟩
theorem own9 {w : World} {base : Nat} {e : TypeId} {size n : Nat} {v : Value} {xs : List Value} {b : Nat} (h : w.ownsRow base e size v n xs) (hb : b < base) (x0 x1 x2 x3 x4 x5 x6 x7 x8 : Value) :
    (((((((((w.setCell ⟨b, 0, none⟩ x0).setCell ⟨b, 1, none⟩ x1).setCell ⟨b, 2, none⟩ x2).setCell ⟨b, 3, none⟩ x3).setCell ⟨b, 4, none⟩ x4).setCell ⟨b, 5, none⟩ x5).setCell ⟨b, 6, none⟩ x6).setCell ⟨b, 7, none⟩ x7).setCell ⟨b, 8, none⟩ x8).ownsRow base e size v n xs :=
  (ownsRow_setCell_below (ownsRow_setCell_below (ownsRow_setCell_below (ownsRow_setCell_below (ownsRow_setCell_below (ownsRow_setCell_below (ownsRow_setCell_below (ownsRow_setCell_below (ownsRow_setCell_below h hb _) hb _) hb _) hb _) hb _) hb _) hb _) hb _) hb _)
theorem below9 {B : Nat} {a w : World} {b : Nat} (h : Below B a w) (hb : B ≤ b) (x0 x1 x2 x3 x4 x5 x6 x7 x8 : Value) :
    Below B a (((((((((w.setCell ⟨b, 0, none⟩ x0).setCell ⟨b, 1, none⟩ x1).setCell ⟨b, 2, none⟩ x2).setCell ⟨b, 3, none⟩ x3).setCell ⟨b, 4, none⟩ x4).setCell ⟨b, 5, none⟩ x5).setCell ⟨b, 6, none⟩ x6).setCell ⟨b, 7, none⟩ x7).setCell ⟨b, 8, none⟩ x8) :=
  (Below.setCell (Below.setCell (Below.setCell (Below.setCell (Below.setCell (Below.setCell (Below.setCell (Below.setCell (Below.setCell h hb _) hb _) hb _) hb _) hb _) hb _) hb _) hb _) hb _)
theorem Boxed.of_block {w : World} {b : Nat} {p : Pk} {v : Value} {t : TypeId} {fr : Nat × Nat} (h : w.heap[b]? = some (.cells (pcells p v) t fr)) : Boxed w b p v := by
  have e : ∀ o, w.cell? ⟨b, o, none⟩ = (pcells p v)[o]? := fun o => Joins.cell_of_block h o
  refine ⟨?_, e 0, e 1, e 2, e 3, e 4, e 5, e 6, e 7, e 8⟩
  rcases Nat.lt_or_ge b w.heap.size with h' | h'
  · exact h'
  · rw [Array.getElem?_eq_none h'] at h; cases h
theorem heap9 (w : World) (b k : Nat) (h : k ≠ b) (x0 x1 x2 x3 x4 x5 x6 x7 x8 : Value) : (((((((((w.setCell ⟨b, 0, none⟩ x0).setCell ⟨b, 1, none⟩ x1).setCell ⟨b, 2, none⟩ x2).setCell ⟨b, 3, none⟩ x3).setCell ⟨b, 4, none⟩ x4).setCell ⟨b, 5, none⟩ x5).setCell ⟨b, 6, none⟩ x6).setCell ⟨b, 7, none⟩ x7).setCell ⟨b, 8, none⟩ x8).heap[k]? = w.heap[k]? :=
  ((Below.heap_setCell _ _ _ _ h).trans ((Below.heap_setCell _ _ _ _ h).trans ((Below.heap_setCell _ _ _ _ h).trans ((Below.heap_setCell _ _ _ _ h).trans ((Below.heap_setCell _ _ _ _ h).trans ((Below.heap_setCell _ _ _ _ h).trans ((Below.heap_setCell _ _ _ _ h).trans ((Below.heap_setCell _ _ _ _ h).trans (Below.heap_setCell _ _ _ _ h)))))))))
end Go.Proofs.Ytjbkgmbakjnlhaa
