/- What is kept in memory where one block alone is written. -/
import Derived.Test.YtjbkgmbakjnlhaaMark
namespace Go.Proofs.Ytjbkgmbakjnlhaa
open Go.RowKit

theorem Boxed.kept {w w' : World} {b : Nat} {p : Pk} {v : Value} (h : Boxed w b p v) (hs : w.heap.size ≤ w'.heap.size) (hk : w'.heap[b]? = w.heap[b]?) : Boxed w' b p v :=
  have e : ∀ o, w'.cell? ⟨b, o, none⟩ = w.cell? ⟨b, o, none⟩ := fun _ => World.cell?_of_block (w := w) hk
  ⟨Nat.lt_of_lt_of_le h.lt hs, (e 0).trans h.c0, (e 1).trans h.c1, (e 2).trans h.c2, (e 3).trans h.c3, (e 4).trans h.c4, (e 5).trans h.c5, (e 6).trans h.c6, (e 7).trans h.c7, (e 8).trans h.c8⟩

theorem own_kept {w w' : World} {base : Nat} {e : TypeId} {size n : Nat} {v : Value} {xs : List Value} (h : w.ownsRow base e size v n xs) (hk : ∀ k, v.ownBlock = some k → w'.heap[k]? = w.heap[k]?) : w'.ownsRow base e size v n xs := by
  refine ⟨h.1, h.2.imp id ?_⟩
  rintro ⟨g, cap, cur, hv, hg, hh, r⟩
  exact ⟨g, cap, cur, hv, hg, (hk g (by rw [hv]; rfl)).trans hh, r⟩
theorem own_lt {w : World} {base : Nat} {e : TypeId} {size n : Nat} {v : Value} {xs : List Value} (h : w.ownsRow base e size v n xs) : ∀ k, v.ownBlock = some k → base ≤ k ∧ k < w.heap.size := by
  intro k hk
  rcases h.2 with ⟨hv, _⟩ | ⟨g, cap, cur, hv, hg, hh, _⟩
  · rw [hv] at hk; cases hk
  · rw [hv] at hk
    cases hk
    refine ⟨hg, ?_⟩
    rcases Nat.lt_or_ge g w.heap.size with h' | h'
    · exact h'
    · rw [Array.getElem?_eq_none h'] at hh; cases hh
theorem own_below {w w' : World} {base : Nat} {e : TypeId} {size n : Nat} {v : Value} {xs : List Value} (h : w.ownsRow base e size v n xs) (hb : Below w.heap.size w w') : w'.ownsRow base e size v n xs :=
  own_kept h fun k hk => hb.block k (own_lt h k hk).2
/-- what is owned reads as bytes -/
theorem RdB.of_own {w : World} {base len cap : Nat} {ao : Option Addr} {zs : List Int} (hz : zs.length = len) (h : w.ownsRow base 5 1 (.slice ao len cap) len (zs.map (.int .u8))) : RdB w ao len zs := by
  refine ⟨hz, ?_⟩
  rcases h.2 with ⟨_, hn⟩ | ⟨g, c, cur, hv, hg, hh, _⟩
  · exact Or.inl hn
  · simp at hv
    obtain ⟨rfl, rfl⟩ := hv
    refine Or.inr ⟨g, 0, rfl, (own_lt h g rfl).2, fun k hk => ?_⟩
    rw [Nat.zero_add, h.cellAt k (by omega)]
    simp [List.getD, List.getElem?_eq_getElem (show k < zs.length by omega)]
/-- a new row of bytes is owned -/
theorem own_of_block {w : World} {g base : Nat} {zs : List Int} (hb : base ≤ g) (hz : zs.length ≤ maxLen) (h : w.heap[g]? = some (.cells (cellsOf zs) 5 (0, 0))) : w.ownsRow base 5 1 (.slice (some ⟨g, 0, none⟩) zs.length zs.length) zs.length (zs.map (.int .u8)) :=
  ⟨by simp, Or.inr ⟨g, zs.length, cellsOf zs, rfl, hb, h, Nat.le_refl _, hz, by simp [cellsOf], by simp only [cellsOf, Nat.mul_one]; exact List.take_of_length_le (by simp)⟩⟩
end Go.Proofs.Ytjbkgmbakjnlhaa
