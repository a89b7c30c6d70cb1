/- An open bench in memory. -/
import Derived.Test.YtjbkgmbakjnlhabGreatDoorPartAh
namespace Go.Proofs.YtjbkgmbakjnlhabGreatDoor
set_option maxRecDepth 100000
open Go.RowKit

/-- what an open bench has of one packet: its key, where its slot lies, the slot -/
structure Ent where
  k : K4
  b : Nat
  s : SV
def k4cells (k : K4) : List Value := [.int .i64 k.1, .int .i64 k.2.1, .int .i64 k.2.2.1, .int .i64 k.2.2.2]
theorem k4cells_len (k : K4) : (k4cells k).length = 4 := rfl
def SV.box (s : SV) : Obj := .cells (scells (.slice s.a s.xs.length s.c) s.since s.bad) 71 (0, 0)
structure OpenB (w : World) (lo ob mb : Nat) (ov : Value) (now : Int) (es : List Ent) : Prop where
  box : w.heap[ob]? = some (.cells #[.int .i64 now, ov, .map (some mb)] 90 (0, 0))
  order : w.ownsRow lo 93 4 ov es.length (es.flatMap fun e => k4cells e.k)
  map_ : MapIs w mb (es.map fun e => (e.k, e.b))
  keys : (es.map Ent.k).Nodup
  slot : ∀ e ∈ es, w.heap[e.b]? = some e.s.box
  sbs : (es.map Ent.b).Nodup
  forest : Forest w lo (es.map Ent.s)
  lob : lo ≤ ob
  lmb : lo ≤ mb
  lsb : ∀ e ∈ es, lo ≤ e.b
theorem flatK_len (es : List Ent) : (es.flatMap fun e => k4cells e.k).length = es.length * 4 := by
  induction es with
  | nil => rfl
  | cons x r ih => simp only [List.flatMap_cons, List.length_append, ih, k4cells_len, List.length_cons]; omega
theorem flatK_at : ∀ (ps : List Ent) (i j : Nat) (y : Ent), ps[i]? = some y → j < 4 → (ps.flatMap fun e => k4cells e.k)[i * 4 + j]? = (k4cells y.k)[j]?
  | [], i, j, y, hi, _ => by simp at hi
  | x :: r, 0, j, y, hi, hj => by
    simp at hi
    subst hi
    rw [List.flatMap_cons, Nat.zero_mul, Nat.zero_add, List.getElem?_append_left (by rw [k4cells_len]; exact hj)]
  | x :: r, i + 1, j, y, hi, hj => by
    rw [List.flatMap_cons, List.getElem?_append_right (by rw [k4cells_len]; omega), k4cells_len, show (i + 1) * 4 + j - 4 = i * 4 + j by omega]
    exact flatK_at r i j y (by simpa using hi) hj
theorem k_one (k : K4) : ∀ u ∈ k4cells k, u.oneCell' = true := by
  intro u hu
  simp [k4cells] at hu
  rcases hu with rfl | rfl | rfl | rfl <;> rfl
/-- blocks of an open bench that are no keys -/
theorem OpenB.kept {w w' : World} {lo ob mb : Nat} {ov : Value} {now : Int} {es : List Ent} (h : OpenB w lo ob mb ov now es)
    (h1 : w'.heap[ob]? = w.heap[ob]?) (h2 : w'.heap[mb]? = w.heap[mb]?) (h3 : ∀ k, ov.ownBlock = some k → w'.heap[k]? = w.heap[k]?) (h4 : ∀ e ∈ es, w'.heap[e.b]? = w.heap[e.b]?) (h5 : ∀ b ∈ (es.map Ent.s).flatMap SV.blks, w'.heap[b]? = w.heap[b]?) : OpenB w' lo ob mb ov now es :=
  ⟨h1.trans h.box, own_kept h.order h3, h.map_.kept h2, h.keys, fun e he => (h4 e he).trans (h.slot e he), h.sbs, h.forest.kept h5, h.lob, h.lmb, h.lsb⟩
theorem OpenB.below {w w' : World} {lo ob mb : Nat} {ov : Value} {now : Int} {es : List Ent} (h : OpenB w lo ob mb ov now es) (hb : Below w.heap.size w w') : OpenB w' lo ob mb ov now es :=
  h.kept (hb.block _ (lt_of_block h.box)) (hb.block _ h.map_.lt) (fun k hk => hb.block _ (own_lt h.order k hk).2) (fun e he => hb.block _ (lt_of_block (h.slot e he))) (fun b hb' => hb.block _ (h.forest.blk b hb').2.1)
/-- the row of keys -/
theorem OpenB.order_at {w : World} {lo ob mb : Nat} {ov : Value} {now : Int} {es : List Ent} (h : OpenB w lo ob mb ov now es) : ∀ k, ov.ownBlock = some k → ∃ cur, w.heap[k]? = some (.cells cur 93 (0, 0)) := by
  intro k hk
  rcases h.order.2 with ⟨e, _⟩ | ⟨g, cap, cur, e, _, hh, _⟩
  · rw [e] at hk; cases hk
  · rw [e] at hk
    cases hk
    exact ⟨cur, hh⟩
/-- where only a block of another kind is written -/
theorem OpenB.other {w w' : World} {lo ob mb r : Nat} {ov : Value} {now : Int} {es : List Ent} {cur : Array Value} {t : TypeId} (h : OpenB w lo ob mb ov now es) (hg : w.grownBy w' (some r)) (hr : w.heap[r]? = some (.cells cur t (0, 0)))
    (ht : t ≠ 90 ∧ t ≠ 93 ∧ t ≠ 71 ∧ t ≠ 5 ∧ t ≠ 33) : OpenB w' lo ob mb ov now es := by
  have ne : ∀ {b : Nat} {cu : Array Value} {t' : TypeId}, w.heap[b]? = some (.cells cu t' (0, 0)) → t ≠ t' → w'.heap[b]? = w.heap[b]? := fun {b cu t'} hb hn => hg.block b (lt_of_block hb) (fun e => by
    cases e
    rw [hr] at hb
    cases hb
    exact hn rfl)
  refine h.kept (ne h.box ht.1) ?_ (fun k hk => ?_) (fun e he => ne (h.slot e he) ht.2.2.1) (fun b hb => ?_)
  · obtain ⟨es', c, h1, _⟩ := h.map_
    exact hg.block _ (lt_of_block h1) (fun e => by
      cases e
      rw [hr] at h1
      cases h1)
  · obtain ⟨cu, hc⟩ := h.order_at k hk
    exact ne hc ht.2.1
  · obtain ⟨_, _, cu, t', hc, ht'⟩ := h.forest.blk b hb
    rcases ht' with rfl | rfl
    · exact ne hc ht.2.2.2.1
    · exact ne hc ht.2.2.2.2
end Go.Proofs.YtjbkgmbakjnlhabGreatDoor
