/- A bench that came in as an argument, opened. -/
import Derived.Test.YtjbkgmbakjnlhabLArg
namespace Go.Proofs.Ytjbkgmbakjnlhab
open Go.ChangeShapes Go.WideShapes Go.ChangeAt Go.RowKit

/-- a slot: where its pieces lie, its pieces, and the rest -/
structure SV where
  a : Option Addr
  c : Nat
  xs : List RV
  since : Int
  bad : Bool
/-- a slot's cells at its place in a list that begins anywhere in a block -/
structure SElemO (w : World) (g off k : Nat) (y : SV) : Prop where
  e0 : w.cell? ⟨g, off + k * 3, none⟩ = some (.slice y.a y.xs.length y.c)
  e1 : w.cell? ⟨g, off + k * 3 + 1, none⟩ = some (.int .i64 y.since)
  e2 : w.cell? ⟨g, off + k * 3 + 2, none⟩ = some (.bool y.bad)
theorem SElemO.upto {w w' : World} {B g off k : Nat} {y : SV} (h : SElemO w g off k y) (hb : Below B w w') (hB : g < B) : SElemO w' g off k y :=
  have e : ∀ o, w'.cell? ⟨g, o, none⟩ = w.cell? ⟨g, o, none⟩ := fun o => hb.cell (p := ⟨g, o, none⟩) hB
  ⟨(e _).trans h.e0, (e _).trans h.e1, (e _).trans h.e2⟩
/-- a slot of an argument -/
structure SArg (w : World) (x : SV) : Prop where
  rl : RLo w x.a x.xs
  len : x.xs.length ≤ 9223372036854775807
theorem SArg.below {w w' : World} {x : SV} (h : SArg w x) (hb : Below w.heap.size w w') : SArg w' x := ⟨h.rl.below hb, h.len⟩
/-- a list of slots of an argument -/
structure SLo (w : World) (a : Option Addr) (xs : List SV) : Prop where
  at_ : xs = [] ∨ ∃ g off, a = some ⟨g, off, none⟩ ∧ g < w.heap.size ∧ ∀ k x, xs[k]? = some x → SElemO w g off k x
  each : ∀ x ∈ xs, SArg w x
theorem SLo.below {w w' : World} {a : Option Addr} {xs : List SV} (h : SLo w a xs) (hb : Below w.heap.size w w') : SLo w' a xs := by
  refine ⟨h.at_.imp id ?_, fun x hx => (h.each x hx).below hb⟩
  rintro ⟨g, off, ha, hg, he⟩
  exact ⟨g, off, ha, Nat.lt_of_lt_of_le hg hb.size, fun k x hx => (he k x hx).upto hb hg⟩
theorem list3 {α : Type} {l : List α} (h : l.length = 3) : ∃ a b c, l = [a, b, c] := by
  match l, h with
  | [a, b, c], _ => exact ⟨a, b, c, rfl⟩
theorem list2 {α : Type} {l : List α} (h : l.length = 2) : ∃ a b, l = [a, b] := by
  match l, h with
  | [a, b], _ => exact ⟨a, b, rfl⟩
theorem Try.cellsList : Try.prog.cellsOf 30 = 1 := by kernel_rfl
theorem Try.cellsSlots : Try.prog.cellsOf 40 = 1 := by kernel_rfl
theorem Try.cellsSlot : Try.prog.cellsOf 94 = 3 := by kernel_rfl

theorem open_slot {H : Type} {enc : TypeId × Value → H} {W : World} {fuel : Nat} {cs : List Value} {x : DataW H × List MemPlace} (hl3 : cs.length = 3)
    (hf : DataW.trod enc Try.prog W 0 (fun _ => true) true fuel 94 cs = some x) :
    ∃ (y : SV), cs = [.slice y.a y.xs.length y.c, .int .i64 y.since, .bool y.bad] ∧ SArg W y := by
  obtain ⟨c0, c1, c2, rfl⟩ := list3 hl3
  obtain ⟨xs, n, _, _, _, hlen, hx⟩ := DataW.trod_struct Try.underlying94 hf
  obtain ⟨y0, y1, y2, rfl⟩ := list3 hlen
  have f0 : DataW.trod enc Try.prog W 0 (fun _ => true) true n 30 [c0] = some y0 := by simpa [Try.cellsList] using hx 0 _ rfl
  have f1 : DataW.trod enc Try.prog W 0 (fun _ => true) true n 3 [c1] = some y1 := by simpa [Try.cellsList, Try.cells3] using hx 1 _ rfl
  have f2 : DataW.trod enc Try.prog W 0 (fun _ => true) true n 4 [c2] = some y2 := by simpa [Try.cellsList, Try.cells3, Try.cells4] using hx 2 _ rfl
  obtain ⟨a, cap, ps, e0, hr, hl⟩ := open_list f0
  obtain ⟨s, e1, _, _⟩ := DataW.trod_int Try.underlying3 f1
  obtain ⟨b, e2, _⟩ := DataW.trod_bool Try.underlying4 f2
  simp at e1 e2
  subst e0 e1 e2
  exact ⟨⟨a, cap, ps, s, b⟩, rfl, hr, hl⟩

theorem open_slots {H : Type} {enc : TypeId × Value → H} {W : World} {fuel : Nat} {c : Value} {x : DataW H × List MemPlace} (h : DataW.trod enc Try.prog W 0 (fun _ => true) true fuel 40 [c] = some x) :
    ∃ a cap xs, c = .slice a xs.length cap ∧ SLo W a xs ∧ xs.length ≤ 9223372036854775807 := by
  rcases Deep.open_slice Try.underlying40 h with ⟨hcs, _⟩ | ⟨a, len, cap, m, n, D, Pl, hcs, _, hl, hm, hmm, _, hx⟩
  · simp at hcs
    exact ⟨none, 0, [], hcs, ⟨Or.inl rfl, fun x hx => by cases hx⟩, by simp⟩
  · simp at hcs
    unfold maxLen at hm
    have hlm : len ≤ m := by rw [hmm]; split <;> omega
    rw [Try.cellsSlot] at hx
    obtain ⟨xs, hxl, hxs⟩ := list_of len (fun i (y : SV) => SArg W y ∧ ∀ j, j < 3 → W.cell? ((a.add (i * 3)).add j) = [Value.slice y.a y.xs.length y.c, .int .i64 y.since, .bool y.bad][j]?) (fun i hi => by
      obtain ⟨cs', h1, h2⟩ := hx i (by omega)
      obtain ⟨_, hlen, hcell⟩ := World.cells?_some h1
      obtain ⟨y, hy, hr⟩ := open_slot hlen h2
      refine ⟨y, hr, fun j hj => ?_⟩
      rw [hcell j hj, hy])
    refine ⟨some a, cap, xs, by rw [hxl]; exact hcs, ⟨?_, fun y hy => ?_⟩, by omega⟩
    · by_cases h0 : len = 0
      · exact Or.inl (List.length_eq_zero_iff.1 (by omega))
      · right
        obtain ⟨y, hy⟩ := get_of_lt (show 0 < xs.length by omega)
        obtain ⟨b, off, spot⟩ := a
        have h00 := (hxs 0 y hy).2 0 (by omega)
        have h01 : W.cell? ((Addr.mk b off spot).add 0) = some (.slice y.a y.xs.length y.c) := by
          have h := h00
          rw [Deep.add_add] at h
          exact h
        have hspot : spot = none := by simpa [Addr.add] using World.cell?_spot h01
        subst hspot
        have ad : ∀ i j, ((Addr.mk b off none).add (i * 3)).add j = ⟨b, off + i * 3 + j, none⟩ := fun i j => by
          rw [Deep.add_add, Go.WideShapes.add_plain, Nat.add_assoc]
        refine ⟨b, off, rfl, ?_, fun k z hz => ?_⟩
        · have := World.block_lt_of_cell? W _ (show W.cell? (((Addr.mk b off none).add (0 * 3)).add 0) = some (.slice y.a y.xs.length y.c) by rw [h00]; rfl)
          rw [ad] at this
          exact this
        · have e := (hxs k z hz).2
          have e' : ∀ j, j < 3 → W.cell? ⟨b, off + k * 3 + j, none⟩ = [Value.slice z.a z.xs.length z.c, .int .i64 z.since, .bool z.bad][j]? := fun j hj => by rw [← ad]; exact e j hj
          exact ⟨e' 0 (by omega), e' 1 (by omega), e' 2 (by omega)⟩
    · obtain ⟨i, hi⟩ := List.getElem?_of_mem hy
      exact (hxs i y hi).1

theorem open_bench {H : Type} {enc : TypeId × Value → H} {W : World} {fuel : Nat} {cs : List Value} {x : DataW H × List MemPlace} (hl2 : cs.length = 2)
    (hf : DataW.trod enc Try.prog W 0 (fun _ => true) true fuel 42 cs = some x) :
    ∃ (now : Int) (a : Option Addr) (cap : Nat) (ss : List SV), cs = [.int .i64 now, .slice a ss.length cap] ∧ SLo W a ss ∧ ss.length ≤ 9223372036854775807 := by
  obtain ⟨c0, c1, rfl⟩ := list2 hl2
  obtain ⟨xs, n, _, _, _, hlen, hx⟩ := DataW.trod_struct Try.underlying42 hf
  obtain ⟨y0, y1, rfl⟩ := list2 hlen
  have f0 : DataW.trod enc Try.prog W 0 (fun _ => true) true n 3 [c0] = some y0 := by simpa [Try.cells3] using hx 0 _ rfl
  have f1 : DataW.trod enc Try.prog W 0 (fun _ => true) true n 40 [c1] = some y1 := by simpa [Try.cellsSlots, Try.cells3] using hx 1 _ rfl
  obtain ⟨s, e0, _, _⟩ := DataW.trod_int Try.underlying3 f0
  obtain ⟨a, cap, ss, e1, hr, hl⟩ := open_slots f1
  simp at e0
  subst e0 e1
  exact ⟨s, a, cap, ss, rfl, hr, hl⟩
end Go.Proofs.Ytjbkgmbakjnlhab
