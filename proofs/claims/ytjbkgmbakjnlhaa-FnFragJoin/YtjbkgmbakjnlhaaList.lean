/- Lists of packets in memory. -/
import Derived.Test.YtjbkgmbakjnlhaaWhole
namespace Go.Proofs.Ytjbkgmbakjnlhaa
open Go.RowKit

/-- a packet in a list: its fields, where its bytes lie, its bytes -/
structure PV where
  p : Pk
  g : Nat
  c : Nat
  zs : List Int
def PV.data (x : PV) : Value := .slice (some ⟨x.g, 0, none⟩) x.zs.length x.c
def PV.cells (x : PV) : List Value := (pcells x.p x.data).toList
def PV.key (x : PV) : Pk × List Int := (x.p, x.zs)
def PV.own (w : World) (lo : Nat) (x : PV) : Prop := w.ownsRow lo 5 1 x.data x.zs.length (x.zs.map (.int .u8))
/-- a list of packets that the call itself made -/
structure PL (w : World) (lo : Nat) (v : Value) (ps : List PV) : Prop where
  row : w.ownsRow lo 24 9 v ps.length (ps.flatMap PV.cells)
  each : ∀ x ∈ ps, x.own w lo

theorem PV.cells_len (x : PV) : x.cells.length = 9 := rfl
theorem flat_len (ps : List PV) : (ps.flatMap PV.cells).length = ps.length * 9 := by
  induction ps with
  | nil => rfl
  | cons x r ih => simp only [List.flatMap_cons, List.length_append, ih, PV.cells_len, List.length_cons]; omega
theorem flat_at (ps : List PV) (i j : Nat) (hi : i < ps.length) (hj : j < 9) : (ps.flatMap PV.cells)[9 * i + j]? = (ps[i].cells)[j]? := by
  induction ps generalizing i with
  | nil => simp at hi
  | cons x r ih =>
    rw [List.flatMap_cons]
    match i with
    | 0 => rw [List.getElem?_append_left (by rw [PV.cells_len]; omega)]; simp
    | i + 1 =>
      rw [List.getElem?_append_right (by rw [PV.cells_len]; omega), PV.cells_len, show 9 * (i + 1) + j - 9 = 9 * i + j by omega]
      exact ih i (by simpa using hi)
theorem own_ne {w : World} {lo lo' n n' s s' : Nat} {v v' : Value} {xs xs' : List Value} (h : w.ownsRow lo 24 s v n xs) (h' : w.ownsRow lo' 5 s' v' n' xs') : ∀ k, v'.ownBlock = some k → some k ≠ v.ownBlock := by
  intro k hk hv
  rcases h.2 with ⟨e, _⟩ | ⟨g, cap, cur, e, _, hh, _⟩
  · rw [e] at hv; cases hv
  · rcases h'.2 with ⟨e', _⟩ | ⟨g', cap', cur', e', _, hh', _⟩
    · rw [e'] at hk; cases hk
    · rw [e] at hv
      rw [e'] at hk
      cases hk
      cases hv
      rw [hh] at hh'
      cases hh'
theorem PL.kept {w w' : World} {lo : Nat} {v : Value} {ps : List PV} (h : PL w lo v ps) (hk : ∀ k, lo ≤ k → k < w.heap.size → w'.heap[k]? = w.heap[k]?) : PL w' lo v ps :=
  ⟨own_kept h.row fun k e => hk k (own_lt h.row k e).1 (own_lt h.row k e).2, fun x hx => own_kept (h.each x hx) fun k e => hk k (own_lt (h.each x hx) k e).1 (own_lt (h.each x hx) k e).2⟩
theorem PL.below {w w' : World} {lo : Nat} {v : Value} {ps : List PV} (h : PL w lo v ps) (hb : Below w.heap.size w w') : PL w' lo v ps := h.kept fun k _ hk => hb.block k hk
theorem PL.grown {w w' : World} {lo rb : Nat} {v : Value} {ps : List PV} (h : PL w lo v ps) (hg : w.grownBy w' (some rb)) (hr : rb < lo) : PL w' lo v ps :=
  h.kept fun k h1 h2 => hg.block k h2 (fun e => by have := Option.some.inj e; omega)
theorem PL.le {w : World} {lo lo' : Nat} {v : Value} {ps : List PV} (h : PL w lo v ps) (hl : lo' ≤ lo) : PL w lo' v ps :=
  ⟨Joins.ownsRow_le h.row hl, fun x hx => Joins.ownsRow_le (h.each x hx) hl⟩
theorem PL.nil (w : World) (n base : Nat) (h : n = w.heap.size) (hb : base ≤ n) : PL (w.alloc (.cells #[] 24)) base (.slice (some ⟨n, 0, none⟩) 0 0) [] :=
  ⟨⟨rfl, Or.inr ⟨n, 0, #[], rfl, hb, heap_new _ _ _ h, Nat.le_refl _, by unfold maxLen; omega, rfl, rfl⟩⟩, fun x hx => by cases hx⟩
/-- one packet alone -/
theorem PL.one (w : World) (n base : Nat) (x : PV) (h : n = w.heap.size) (hb : base ≤ n) (hx : x.own w base) : PL (w.alloc (.cells (pcells x.p x.data) 24)) base (.slice (some ⟨n, 0, none⟩) 1 1) [x] :=
  ⟨⟨rfl, Or.inr ⟨n, 1, pcells x.p x.data, rfl, hb, heap_new _ _ _ h, Nat.le_refl _, by unfold maxLen; omega, rfl, by simp [PV.cells]; rfl⟩⟩, fun y hy => by
    obtain rfl := List.mem_singleton.1 hy
    exact own_below hx (Joins.below_alloc1 _ _)⟩
/-- behind an append: the new row, and the packets of both -/
theorem PL.append {w w' : World} {lo : Nat} {v v' : Value} {ps qs : List PV} (h : PL w lo v ps) (hq : ∀ x ∈ qs, x.own w lo) (ho : w'.ownsRow lo 24 9 v' (ps.length + qs.length) (ps.flatMap PV.cells ++ qs.flatMap PV.cells)) (hg : w.grownBy w' v.ownBlock) : PL w' lo v' (ps ++ qs) := by
  refine ⟨by rw [List.length_append, List.flatMap_append]; exact ho, fun x hx => ?_⟩
  have hx' : x.own w lo := by
    rcases List.mem_append.1 hx with h1 | h1
    · exact h.each x h1
    · exact hq x h1
  exact own_kept hx' fun k e => hg.block k (own_lt hx' k e).2 (own_ne h.row hx' k e)
/-- the cells of the packet at a place -/
theorem PL.at {w : World} {lo g c : Nat} {ps : List PV} (h : PL w lo (.slice (some ⟨g, 0, none⟩) ps.length c) ps) (i j : Nat) (hi : i < ps.length) (hj : j < 9) : w.cell? ⟨g, 9 * i + j, none⟩ = (ps[i].cells)[j]? := by
  rw [h.row.cellAt _ (by omega), flat_at ps i j hi hj]
theorem nine_one (p : Pk) (a : Option Addr) (n c : Nat) : ∀ u ∈ (pcells p (.slice a n c)).toList, u.oneCell' = true := by
  intro u hu
  simp [pcells] at hu
  rcases hu with rfl | rfl | rfl | rfl | rfl | rfl | rfl | rfl | rfl <;> rfl
theorem flat_one (ps : List PV) : ∀ u ∈ ps.flatMap PV.cells, u.oneCell' = true := by
  intro u hu
  obtain ⟨x, _, hx⟩ := List.mem_flatMap.1 hu
  exact nine_one _ _ _ _ u hx
end Go.Proofs.Ytjbkgmbakjnlhaa
