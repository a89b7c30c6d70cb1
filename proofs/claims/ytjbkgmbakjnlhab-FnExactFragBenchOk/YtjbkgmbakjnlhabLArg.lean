/- A list of packets that came in as an argument, opened. -/
import Derived.Test.YtjbkgmbakjnlhabArg
import Derived.Test.YtjbkgmbakjnlhabRList
import Derived.Deep.Slices
namespace Go.Proofs.Ytjbkgmbakjnlhab
open Go.ChangeShapes Go.WideShapes Go.ChangeAt Go.RowKit

/-- a packet's cells at its place in a list that begins anywhere in a block -/
structure RElemO (w : World) (g off k : Nat) (y : RV) : Prop where
  e0 : w.cell? ⟨g, off + k * 9, none⟩ = some (.int .i64 y.p.src)
  e1 : w.cell? ⟨g, off + k * 9 + 1, none⟩ = some (.int .i64 y.p.dst)
  e2 : w.cell? ⟨g, off + k * 9 + 2, none⟩ = some (.int .i64 y.p.kind)
  e3 : w.cell? ⟨g, off + k * 9 + 3, none⟩ = some (.int .i64 y.p.id)
  e4 : w.cell? ⟨g, off + k * 9 + 4, none⟩ = some (.int .i64 y.p.hops)
  e5 : w.cell? ⟨g, off + k * 9 + 5, none⟩ = some (.bool y.p.whole)
  e6 : w.cell? ⟨g, off + k * 9 + 6, none⟩ = some (.int .i64 y.p.off)
  e7 : w.cell? ⟨g, off + k * 9 + 7, none⟩ = some (.bool y.p.more)
  e8 : w.cell? ⟨g, off + k * 9 + 8, none⟩ = some (.slice y.a y.zs.length y.c)
theorem RElemO.upto {w w' : World} {B g off k : Nat} {y : RV} (h : RElemO w g off k y) (hb : Below B w w') (hB : g < B) : RElemO w' g off k y :=
  have e : ∀ o, w'.cell? ⟨g, o, none⟩ = w.cell? ⟨g, o, none⟩ := fun o => hb.cell (p := ⟨g, o, none⟩) hB
  ⟨(e _).trans h.e0, (e _).trans h.e1, (e _).trans h.e2, (e _).trans h.e3, (e _).trans h.e4, (e _).trans h.e5, (e _).trans h.e6, (e _).trans h.e7, (e _).trans h.e8⟩
/-- a packet of an argument -/
structure RArg (w : World) (x : RV) : Prop where
  rd : RdB w x.a x.zs.length x.zs
  len : x.zs.length ≤ 9223372036854775807
  byte : ∀ z ∈ x.zs, 0 ≤ z ∧ z ≤ 255
theorem RArg.below {w w' : World} {x : RV} (h : RArg w x) (hb : Below w.heap.size w w') : RArg w' x := ⟨h.rd.below hb, h.len, h.byte⟩
/-- a list of packets of an argument -/
structure RLo (w : World) (a : Option Addr) (xs : List RV) : Prop where
  at_ : xs = [] ∨ ∃ g off, a = some ⟨g, off, none⟩ ∧ g < w.heap.size ∧ ∀ k x, xs[k]? = some x → RElemO w g off k x
  each : ∀ x ∈ xs, RArg w x
theorem RLo.below {w w' : World} {a : Option Addr} {xs : List RV} (h : RLo w a xs) (hb : Below w.heap.size w w') : RLo w' a xs := by
  refine ⟨h.at_.imp id ?_, fun x hx => (h.each x hx).below hb⟩
  rintro ⟨g, off, ha, hg, he⟩
  exact ⟨g, off, ha, Nat.lt_of_lt_of_le hg hb.size, fun k x hx => (he k x hx).upto hb hg⟩

theorem open_cells {H : Type} {enc : TypeId × Value → H} {W : World} {fuel : Nat} {cs : List Value} {x : DataW H × List MemPlace} (hl9 : cs.length = 9)
    (hf : DataW.trod enc Try.prog W 0 (fun _ => true) true fuel 24 cs = some x) :
    ∃ (y : RV), cs = (pcells y.p (.slice y.a y.zs.length y.c)).toList ∧ RArg W y := by
  obtain ⟨c0, c1, c2, c3, c4, c5, c6, c7, c8, rfl⟩ := list9 hl9
  obtain ⟨xs, n, _, _, _, hlen, hx⟩ := DataW.trod_struct Try.underlying24 hf
  obtain ⟨y0, y1, y2, y3, y4, y5, y6, y7, y8, rfl⟩ := list9 hlen
  have f0 : DataW.trod enc Try.prog W 0 (fun _ => true) true n 3 [c0] = some y0 := by simpa [Try.cells3] using hx 0 _ rfl
  have f1 : DataW.trod enc Try.prog W 0 (fun _ => true) true n 3 [c1] = some y1 := by simpa [Try.cells3] using hx 1 _ rfl
  have f2 : DataW.trod enc Try.prog W 0 (fun _ => true) true n 3 [c2] = some y2 := by simpa [Try.cells3] using hx 2 _ rfl
  have f3 : DataW.trod enc Try.prog W 0 (fun _ => true) true n 3 [c3] = some y3 := by simpa [Try.cells3] using hx 3 _ rfl
  have f4 : DataW.trod enc Try.prog W 0 (fun _ => true) true n 3 [c4] = some y4 := by simpa [Try.cells3] using hx 4 _ rfl
  have f5 : DataW.trod enc Try.prog W 0 (fun _ => true) true n 4 [c5] = some y5 := by simpa [Try.cells4] using hx 5 _ rfl
  have f6 : DataW.trod enc Try.prog W 0 (fun _ => true) true n 3 [c6] = some y6 := by simpa [Try.cells3] using hx 6 _ rfl
  have f7 : DataW.trod enc Try.prog W 0 (fun _ => true) true n 4 [c7] = some y7 := by simpa [Try.cells4] using hx 7 _ rfl
  have f8 : DataW.trod enc Try.prog W 0 (fun _ => true) true n 22 [c8] = some y8 := by simpa [Try.cells22] using hx 8 _ rfl
  obtain ⟨s, e0, _, w0⟩ := DataW.trod_int Try.underlying3 f0
  obtain ⟨t, e1, _, w1⟩ := DataW.trod_int Try.underlying3 f1
  obtain ⟨k, e2, _, w2⟩ := DataW.trod_int Try.underlying3 f2
  obtain ⟨i, e3, _, w3⟩ := DataW.trod_int Try.underlying3 f3
  obtain ⟨o, e4, _, w4⟩ := DataW.trod_int Try.underlying3 f4
  obtain ⟨b, e5, _⟩ := DataW.trod_bool Try.underlying4 f5
  obtain ⟨f, e6, _, w6⟩ := DataW.trod_int Try.underlying3 f6
  obtain ⟨m, e7, _⟩ := DataW.trod_bool Try.underlying4 f7
  obtain ⟨a, len, cap, zs, e8, hr, hl, hz⟩ := open_bytes f8
  simp at e0 e1 e2 e3 e4 e5 e6 e7
  obtain rfl := hr.1
  subst e0 e1 e2 e3 e4 e5 e6 e7 e8
  exact ⟨⟨⟨s, t, k, i, o, b, f, m⟩, a, cap, zs⟩, rfl, hr, hl, hz⟩

theorem list_of {α : Type} (n : Nat) (q : Nat → α → Prop) (h : ∀ i, i < n → ∃ x, q i x) : ∃ xs : List α, xs.length = n ∧ ∀ i x, xs[i]? = some x → q i x := by
  induction n with
  | zero => exact ⟨[], rfl, fun i x hx => by simp at hx⟩
  | succ n ih =>
    obtain ⟨xs, hl, hx⟩ := ih fun i hi => h i (by omega)
    obtain ⟨y, hy⟩ := h n (by omega)
    refine ⟨xs ++ [y], by simp [hl], fun i x hi => ?_⟩
    rcases Nat.lt_or_ge i n with h' | h'
    · rw [List.getElem?_append_left (by omega)] at hi
      exact hx i x hi
    · rw [List.getElem?_append_right (by omega), hl] at hi
      have e : i - n = 0 := by
        rcases Nat.eq_zero_or_pos (i - n) with h0 | h0
        · exact h0
        · rw [List.getElem?_eq_none (by simp; omega)] at hi; cases hi
      rw [e] at hi
      simp at hi
      obtain rfl : i = n := by omega
      subst hi
      exact hy
theorem Try.cells9 : Try.prog.cellsOf 24 = 9 := by kernel_rfl

theorem open_list {H : Type} {enc : TypeId × Value → H} {W : World} {fuel : Nat} {c : Value} {x : DataW H × List MemPlace} (h : DataW.trod enc Try.prog W 0 (fun _ => true) true fuel 30 [c] = some x) :
    ∃ a cap xs, c = .slice a xs.length cap ∧ RLo W a xs ∧ xs.length ≤ 9223372036854775807 := by
  rcases Deep.open_slice Try.underlying30 h with ⟨hcs, _⟩ | ⟨a, len, cap, m, n, D, Pl, hcs, _, hl, hm, hmm, _, hx⟩
  · simp at hcs
    exact ⟨none, 0, [], hcs, ⟨Or.inl rfl, fun x hx => by cases hx⟩, by simp⟩
  · simp at hcs
    unfold maxLen at hm
    have hlm : len ≤ m := by rw [hmm]; split <;> omega
    rw [Try.cells9] at hx
    obtain ⟨xs, hxl, hxs⟩ := list_of len (fun i (y : RV) => RArg W y ∧ ∀ j, j < 9 → W.cell? ((a.add (i * 9)).add j) = (pcells y.p (.slice y.a y.zs.length y.c))[j]?) (fun i hi => by
      obtain ⟨cs', h1, h2⟩ := hx i (by omega)
      obtain ⟨_, hlen, hcell⟩ := World.cells?_some h1
      obtain ⟨y, hy, hr⟩ := open_cells hlen h2
      refine ⟨y, hr, fun j hj => ?_⟩
      rw [hcell j hj, hy]
      simp)
    refine ⟨some a, cap, xs, by rw [hxl]; exact hcs, ⟨?_, fun y hy => ?_⟩, by omega⟩
    · by_cases h0 : len = 0
      · exact Or.inl (List.length_eq_zero_iff.1 (by omega))
      · right
        obtain ⟨y, hy⟩ := get_of_lt (show 0 < xs.length by omega)
        obtain ⟨b, off, spot⟩ := a
        have h00 := (hxs 0 y hy).2 0 (by omega)
        have h01 : W.cell? ((Addr.mk b off spot).add 0) = some (.int .i64 y.p.src) := by
          have h := h00
          rw [Deep.add_add] at h
          exact h
        have hspot : spot = none := by simpa [Addr.add] using World.cell?_spot h01
        subst hspot
        have ad : ∀ i j, ((Addr.mk b off none).add (i * 9)).add j = ⟨b, off + i * 9 + j, none⟩ := fun i j => by
          rw [Deep.add_add, Go.WideShapes.add_plain, Nat.add_assoc]
        refine ⟨b, off, rfl, ?_, fun k z hz => ?_⟩
        · have := World.block_lt_of_cell? W _ (show W.cell? (((Addr.mk b off none).add (0 * 9)).add 0) = some (.int .i64 y.p.src) by rw [h00]; rfl)
          rw [ad] at this
          exact this
        · have e := (hxs k z hz).2
          have e' : ∀ j, j < 9 → W.cell? ⟨b, off + k * 9 + j, none⟩ = (pcells z.p (.slice z.a z.zs.length z.c))[j]? := fun j hj => by rw [← ad]; exact e j hj
          exact ⟨e' 0 (by omega), e' 1 (by omega), e' 2 (by omega), e' 3 (by omega), e' 4 (by omega), e' 5 (by omega), e' 6 (by omega), e' 7 (by omega), e' 8 (by omega)⟩
    · obtain ⟨i, hi⟩ := List.getElem?_of_mem hy
      exact (hxs i y hi).1
end Go.Proofs.Ytjbkgmbakjnlhab
