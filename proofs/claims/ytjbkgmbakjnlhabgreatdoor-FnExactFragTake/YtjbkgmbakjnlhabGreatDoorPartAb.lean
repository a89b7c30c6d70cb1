/- Lists of packets that are read alone. -/
import Derived.Test.YtjbkgmbakjnlhabGreatDoorPartAa
import Derived.Deep.Slices
namespace Go.Proofs.YtjbkgmbakjnlhabGreatDoor
set_option maxRecDepth 100000
open Go.RowKit

/-- a packet in a list that is read: its fields, where its bytes lie, its bytes -/
structure RV where
  p : Pk
  a : Option Addr
  c : Nat
  zs : List Int
def RV.key (x : RV) : PB := (x.p, x.zs)
/-- a packet's cells at its place in a list -/
structure RElem (w : World) (g k : Nat) (y : RV) : Prop where
  e0 : w.cell? ⟨g, k * 9, none⟩ = some (.int .i64 y.p.src)
  e1 : w.cell? ⟨g, k * 9 + 1, none⟩ = some (.int .i64 y.p.dst)
  e2 : w.cell? ⟨g, k * 9 + 2, none⟩ = some (.int .i64 y.p.kind)
  e3 : w.cell? ⟨g, k * 9 + 3, none⟩ = some (.int .i64 y.p.id)
  e4 : w.cell? ⟨g, k * 9 + 4, none⟩ = some (.int .i64 y.p.hops)
  e5 : w.cell? ⟨g, k * 9 + 5, none⟩ = some (.bool y.p.whole)
  e6 : w.cell? ⟨g, k * 9 + 6, none⟩ = some (.int .i64 y.p.off)
  e7 : w.cell? ⟨g, k * 9 + 7, none⟩ = some (.bool y.p.more)
  e8 : w.cell? ⟨g, k * 9 + 8, none⟩ = some (.slice y.a y.zs.length y.c)
theorem RElem.upto {w w' : World} {B g k : Nat} {y : RV} (h : RElem w g k y) (hb : Below B w w') (hB : g < B) : RElem w' g k y :=
  have e : ∀ o, w'.cell? ⟨g, o, none⟩ = w.cell? ⟨g, o, none⟩ := fun o => hb.cell (p := ⟨g, o, none⟩) hB
  ⟨(e _).trans h.e0, (e _).trans h.e1, (e _).trans h.e2, (e _).trans h.e3, (e _).trans h.e4, (e _).trans h.e5, (e _).trans h.e6, (e _).trans h.e7, (e _).trans h.e8⟩
/-- the first packet's cells -/
structure RHead (w : World) (g : Nat) (y : RV) : Prop where
  e0 : w.cell? ⟨g, 0, none⟩ = some (.int .i64 y.p.src)
  e1 : w.cell? ⟨g, 1, none⟩ = some (.int .i64 y.p.dst)
  e2 : w.cell? ⟨g, 2, none⟩ = some (.int .i64 y.p.kind)
  e3 : w.cell? ⟨g, 3, none⟩ = some (.int .i64 y.p.id)
  e4 : w.cell? ⟨g, 4, none⟩ = some (.int .i64 y.p.hops)
  e5 : w.cell? ⟨g, 5, none⟩ = some (.bool y.p.whole)
  e6 : w.cell? ⟨g, 6, none⟩ = some (.int .i64 y.p.off)
  e7 : w.cell? ⟨g, 7, none⟩ = some (.bool y.p.more)
  e8 : w.cell? ⟨g, 8, none⟩ = some (.slice y.a y.zs.length y.c)
theorem RElem.head {w : World} {g : Nat} {y : RV} (h : RElem w g 0 y) : RHead w g y := by
  obtain ⟨a, b, c, d, e, f, i, j, k⟩ := h
  simp only [Nat.zero_mul, Nat.zero_add] at a b c d e f i j k
  exact ⟨a, b, c, d, e, f, i, j, k⟩
/-- a packet's bytes can be read -/
structure ROk (w : World) (x : RV) : Prop where
  rd : RdB w x.a x.zs.length x.zs
  len : x.zs.length ≤ 1048576
  cap : x.zs.length ≤ x.c
  capM : x.c ≤ 9223372036854775807
  byte : ∀ z ∈ x.zs, 0 ≤ z ∧ z ≤ 255
theorem ROk.below {w w' : World} {x : RV} (h : ROk w x) (hb : Below w.heap.size w w') : ROk w' x := ⟨h.rd.below hb, h.len, h.cap, h.capM, h.byte⟩
/-- a list of packets can be read -/
structure RL (w : World) (g : Nat) (xs : List RV) : Prop where
  lt : g < w.heap.size
  elem : ∀ k x, xs[k]? = some x → RElem w g k x
  each : ∀ x ∈ xs, ROk w x
theorem RL.below {w w' : World} {g : Nat} {xs : List RV} (h : RL w g xs) (hb : Below w.heap.size w w') : RL w' g xs :=
  ⟨Nat.lt_of_lt_of_le h.lt hb.size, fun k x hx => (h.elem k x hx).upto hb h.lt, fun x hx => (h.each x hx).below hb⟩
theorem get_of_lt {α : Type} {xs : List α} {k : Nat} (h : k < xs.length) : ∃ x, xs[k]? = some x := ⟨_, List.getElem?_eq_getElem h⟩
theorem map_get {xs : List RV} {k : Nat} {x : RV} (h : xs[k]? = some x) : (xs.map RV.key)[k]? = some x.key := by
  rw [List.getElem?_map, h]; rfl
end Go.Proofs.YtjbkgmbakjnlhabGreatDoor

/- A list of packets that came in as an argument, opened. -/
namespace Go.Proofs.YtjbkgmbakjnlhabGreatDoor
set_option maxRecDepth 100000
open Go.ChangeShapes Go.WideShapes Go.ChangeAt Go.RowKit

/-- a packet's cells at its place in a list that begins anywhere in a block -/
structure RElemO (w : World) (g off k : Nat) (y : RV) : Prop where
  e0 : w.cell? ⟨g, off + k * 9, none⟩ = some (.int .i64 y.p.src)
  e1 : w.cell? ⟨g, off + k * 9 + 1, none⟩ = some (.int .i64 y.p.dst)
  e2 : w.cell? ⟨g, off + k * 9 + 2, none⟩ = some (.int .i64 y.p.kind)
  e3 : w.cell? ⟨g, off + k * 9 + 3, none⟩ = some (.int .i64 y.p.id)
  e4 : w.cell? ⟨g, off + k * 9 + 4, none⟩ = some (.int .i64 y.p.hops)
  e5 : w.cell? ⟨g, off + k * 9 + 5, none⟩ = some (.bool y.p.whole)
  e6 : w.cell? ⟨g, off + k * 9 + 6, none⟩ = some (.int .i64 y.p.off)
  e7 : w.cell? ⟨g, off + k * 9 + 7, none⟩ = some (.bool y.p.more)
  e8 : w.cell? ⟨g, off + k * 9 + 8, none⟩ = some (.slice y.a y.zs.length y.c)
theorem RElemO.upto {w w' : World} {B g off k : Nat} {y : RV} (h : RElemO w g off k y) (hb : Below B w w') (hB : g < B) : RElemO w' g off k y :=
  have e : ∀ o, w'.cell? ⟨g, o, none⟩ = w.cell? ⟨g, o, none⟩ := fun o => hb.cell (p := ⟨g, o, none⟩) hB
  ⟨(e _).trans h.e0, (e _).trans h.e1, (e _).trans h.e2, (e _).trans h.e3, (e _).trans h.e4, (e _).trans h.e5, (e _).trans h.e6, (e _).trans h.e7, (e _).trans h.e8⟩
/-- a packet of an argument -/
structure RArg (w : World) (x : RV) : Prop where
  rd : RdB w x.a x.zs.length x.zs
  len : x.zs.length ≤ 9223372036854775807
  byte : ∀ z ∈ x.zs, 0 ≤ z ∧ z ≤ 255
theorem RArg.below {w w' : World} {x : RV} (h : RArg w x) (hb : Below w.heap.size w w') : RArg w' x := ⟨h.rd.below hb, h.len, h.byte⟩
/-- a list of packets of an argument -/
structure RLo (w : World) (a : Option Addr) (xs : List RV) : Prop where
  at_ : xs = [] ∨ ∃ g off, a = some ⟨g, off, none⟩ ∧ g < w.heap.size ∧ ∀ k x, xs[k]? = some x → RElemO w g off k x
  each : ∀ x ∈ xs, RArg w x
theorem RLo.below {w w' : World} {a : Option Addr} {xs : List RV} (h : RLo w a xs) (hb : Below w.heap.size w w') : RLo w' a xs := by
  refine ⟨h.at_.imp id ?_, fun x hx => (h.each x hx).below hb⟩
  rintro ⟨g, off, ha, hg, he⟩
  exact ⟨g, off, ha, Nat.lt_of_lt_of_le hg hb.size, fun k x hx => (he k x hx).upto hb hg⟩

theorem open_cells {H : Type} {enc : TypeId × Value → H} {W : World} {fuel : Nat} {cs : List Value} {x : DataW H × List MemPlace} (hl9 : cs.length = 9)
    (hf : DataW.trod enc Tryz.prog W 0 (fun _ => true) true fuel 27 cs = some x) :
    ∃ (y : RV), cs = (pcells y.p (.slice y.a y.zs.length y.c)).toList ∧ RArg W y := by
  obtain ⟨c0, c1, c2, c3, c4, c5, c6, c7, c8, rfl⟩ := list9 hl9
  obtain ⟨xs, n, _, _, _, hlen, hx⟩ := DataW.trod_struct Tryz.underlying27 hf
  obtain ⟨y0, y1, y2, y3, y4, y5, y6, y7, y8, rfl⟩ := list9 hlen
  have f0 : DataW.trod enc Tryz.prog W 0 (fun _ => true) true n 3 [c0] = some y0 := by simpa [Tryz.cells3] using hx 0 _ rfl
  have f1 : DataW.trod enc Tryz.prog W 0 (fun _ => true) true n 3 [c1] = some y1 := by simpa [Tryz.cells3] using hx 1 _ rfl
  have f2 : DataW.trod enc Tryz.prog W 0 (fun _ => true) true n 3 [c2] = some y2 := by simpa [Tryz.cells3] using hx 2 _ rfl
  have f3 : DataW.trod enc Tryz.prog W 0 (fun _ => true) true n 3 [c3] = some y3 := by simpa [Tryz.cells3] using hx 3 _ rfl
  have f4 : DataW.trod enc Tryz.prog W 0 (fun _ => true) true n 3 [c4] = some y4 := by simpa [Tryz.cells3] using hx 4 _ rfl
  have f5 : DataW.trod enc Tryz.prog W 0 (fun _ => true) true n 4 [c5] = some y5 := by simpa [Tryz.cells4] using hx 5 _ rfl
  have f6 : DataW.trod enc Tryz.prog W 0 (fun _ => true) true n 3 [c6] = some y6 := by simpa [Tryz.cells3] using hx 6 _ rfl
  have f7 : DataW.trod enc Tryz.prog W 0 (fun _ => true) true n 4 [c7] = some y7 := by simpa [Tryz.cells4] using hx 7 _ rfl
  have f8 : DataW.trod enc Tryz.prog W 0 (fun _ => true) true n 25 [c8] = some y8 := by simpa [Tryz.cells25] using hx 8 _ rfl
  obtain ⟨s, e0, _, w0⟩ := DataW.trod_int Tryz.underlying3 f0
  obtain ⟨t, e1, _, w1⟩ := DataW.trod_int Tryz.underlying3 f1
  obtain ⟨k, e2, _, w2⟩ := DataW.trod_int Tryz.underlying3 f2
  obtain ⟨i, e3, _, w3⟩ := DataW.trod_int Tryz.underlying3 f3
  obtain ⟨o, e4, _, w4⟩ := DataW.trod_int Tryz.underlying3 f4
  obtain ⟨b, e5, _⟩ := DataW.trod_bool Tryz.underlying4 f5
  obtain ⟨f, e6, _, w6⟩ := DataW.trod_int Tryz.underlying3 f6
  obtain ⟨m, e7, _⟩ := DataW.trod_bool Tryz.underlying4 f7
  obtain ⟨a, len, cap, zs, e8, hr, hl, hz⟩ := open_bytes f8
  simp at e0 e1 e2 e3 e4 e5 e6 e7
  obtain rfl := hr.1
  subst e0 e1 e2 e3 e4 e5 e6 e7 e8
  exact ⟨⟨⟨s, t, k, i, o, b, f, m⟩, a, cap, zs⟩, rfl, hr, hl, hz⟩

theorem list_of {α : Type} (n : Nat) (q : Nat → α → Prop) (h : ∀ i, i < n → ∃ x, q i x) : ∃ xs : List α, xs.length = n ∧ ∀ i x, xs[i]? = some x → q i x := by
  induction n with
  | zero => exact ⟨[], rfl, fun i x hx => by simp at hx⟩
  | succ n ih =>
    obtain ⟨xs, hl, hx⟩ := ih fun i hi => h i (by omega)
    obtain ⟨y, hy⟩ := h n (by omega)
    refine ⟨xs ++ [y], by simp [hl], fun i x hi => ?_⟩
    rcases Nat.lt_or_ge i n with h' | h'
    · rw [List.getElem?_append_left (by omega)] at hi
      exact hx i x hi
    · rw [List.getElem?_append_right (by omega), hl] at hi
      have e : i - n = 0 := by
        rcases Nat.eq_zero_or_pos (i - n) with h0 | h0
        · exact h0
        · rw [List.getElem?_eq_none (by simp; omega)] at hi; cases hi
      rw [e] at hi
      simp at hi
      obtain rfl : i = n := by omega
      subst hi
      exact hy
theorem Tryz.cells9 : Tryz.prog.cellsOf 27 = 9 := by kernel_rfl

theorem open_list {H : Type} {enc : TypeId × Value → H} {W : World} {fuel : Nat} {c : Value} {x : DataW H × List MemPlace} (h : DataW.trod enc Tryz.prog W 0 (fun _ => true) true fuel 74 [c] = some x) :
    ∃ a cap xs, c = .slice a xs.length cap ∧ RLo W a xs ∧ xs.length ≤ 9223372036854775807 := by
  rcases Deep.open_slice Tryz.underlying74 h with ⟨hcs, _⟩ | ⟨a, len, cap, m, n, D, Pl, hcs, _, hl, hm, hmm, _, hx⟩
  · simp at hcs
    exact ⟨none, 0, [], hcs, ⟨Or.inl rfl, fun x hx => by cases hx⟩, by simp⟩
  · simp at hcs
    unfold maxLen at hm
    have hlm : len ≤ m := by rw [hmm]; split <;> omega
    rw [Tryz.cells9] at hx
    obtain ⟨xs, hxl, hxs⟩ := list_of len (fun i (y : RV) => RArg W y ∧ ∀ j, j < 9 → W.cell? ((a.add (i * 9)).add j) = (pcells y.p (.slice y.a y.zs.length y.c))[j]?) (fun i hi => by
      obtain ⟨cs', h1, h2⟩ := hx i (by omega)
      obtain ⟨_, hlen, hcell⟩ := World.cells?_some h1
      obtain ⟨y, hy, hr⟩ := open_cells hlen h2
      refine ⟨y, hr, fun j hj => ?_⟩
      rw [hcell j hj, hy]
      simp)
    refine ⟨some a, cap, xs, by rw [hxl]; exact hcs, ⟨?_, fun y hy => ?_⟩, by omega⟩
    · by_cases h0 : len = 0
      · exact Or.inl (List.length_eq_zero_iff.1 (by omega))
      · right
        obtain ⟨y, hy⟩ := get_of_lt (show 0 < xs.length by omega)
        obtain ⟨b, off, spot⟩ := a
        have h00 := (hxs 0 y hy).2 0 (by omega)
        have h01 : W.cell? ((Addr.mk b off spot).add 0) = some (.int .i64 y.p.src) := by
          have h := h00
          rw [Deep.add_add] at h
          exact h
        have hspot : spot = none := by simpa [Addr.add] using World.cell?_spot h01
        subst hspot
        have ad : ∀ i j, ((Addr.mk b off none).add (i * 9)).add j = ⟨b, off + i * 9 + j, none⟩ := fun i j => by
          rw [Deep.add_add, Go.WideShapes.add_plain, Nat.add_assoc]
        refine ⟨b, off, rfl, ?_, fun k z hz => ?_⟩
        · have := World.block_lt_of_cell? W _ (show W.cell? (((Addr.mk b off none).add (0 * 9)).add 0) = some (.int .i64 y.p.src) by rw [h00]; rfl)
          rw [ad] at this
          exact this
        · have e := (hxs k z hz).2
          have e' : ∀ j, j < 9 → W.cell? ⟨b, off + k * 9 + j, none⟩ = (pcells z.p (.slice z.a z.zs.length z.c))[j]? := fun j hj => by rw [← ad]; exact e j hj
          exact ⟨e' 0 (by omega), e' 1 (by omega), e' 2 (by omega), e' 3 (by omega), e' 4 (by omega), e' 5 (by omega), e' 6 (by omega), e' 7 (by omega), e' 8 (by omega)⟩
    · obtain ⟨i, hi⟩ := List.getElem?_of_mem hy
      exact (hxs i y hi).1
end Go.Proofs.YtjbkgmbakjnlhabGreatDoor

/- A bench that came in as an argument, opened. -/
namespace Go.Proofs.YtjbkgmbakjnlhabGreatDoor
set_option maxRecDepth 100000
open Go.ChangeShapes Go.WideShapes Go.ChangeAt Go.RowKit

/-- a slot: where its pieces lie, its pieces, and the rest -/
structure SV where
  a : Option Addr
  c : Nat
  xs : List RV
  since : Int
  bad : Bool
/-- a slot's cells at its place in a list that begins anywhere in a block -/
structure SElemO (w : World) (g off k : Nat) (y : SV) : Prop where
  e0 : w.cell? ⟨g, off + k * 3, none⟩ = some (.slice y.a y.xs.length y.c)
  e1 : w.cell? ⟨g, off + k * 3 + 1, none⟩ = some (.int .i64 y.since)
  e2 : w.cell? ⟨g, off + k * 3 + 2, none⟩ = some (.bool y.bad)
theorem SElemO.upto {w w' : World} {B g off k : Nat} {y : SV} (h : SElemO w g off k y) (hb : Below B w w') (hB : g < B) : SElemO w' g off k y :=
  have e : ∀ o, w'.cell? ⟨g, o, none⟩ = w.cell? ⟨g, o, none⟩ := fun o => hb.cell (p := ⟨g, o, none⟩) hB
  ⟨(e _).trans h.e0, (e _).trans h.e1, (e _).trans h.e2⟩
/-- a slot of an argument -/
structure SArg (w : World) (x : SV) : Prop where
  rl : RLo w x.a x.xs
  len : x.xs.length ≤ 9223372036854775807
theorem SArg.below {w w' : World} {x : SV} (h : SArg w x) (hb : Below w.heap.size w w') : SArg w' x := ⟨h.rl.below hb, h.len⟩
/-- a list of slots of an argument -/
structure SLo (w : World) (a : Option Addr) (xs : List SV) : Prop where
  at_ : xs = [] ∨ ∃ g off, a = some ⟨g, off, none⟩ ∧ g < w.heap.size ∧ ∀ k x, xs[k]? = some x → SElemO w g off k x
  each : ∀ x ∈ xs, SArg w x
theorem SLo.below {w w' : World} {a : Option Addr} {xs : List SV} (h : SLo w a xs) (hb : Below w.heap.size w w') : SLo w' a xs := by
  refine ⟨h.at_.imp id ?_, fun x hx => (h.each x hx).below hb⟩
  rintro ⟨g, off, ha, hg, he⟩
  exact ⟨g, off, ha, Nat.lt_of_lt_of_le hg hb.size, fun k x hx => (he k x hx).upto hb hg⟩
theorem list3 {α : Type} {l : List α} (h : l.length = 3) : ∃ a b c, l = [a, b, c] := by
  match l, h with
  | [a, b, c], _ => exact ⟨a, b, c, rfl⟩
theorem list2 {α : Type} {l : List α} (h : l.length = 2) : ∃ a b, l = [a, b] := by
  match l, h with
  | [a, b], _ => exact ⟨a, b, rfl⟩
theorem Tryz.cellsList : Tryz.prog.cellsOf 74 = 1 := by kernel_rfl
theorem Tryz.cellsSlots : Tryz.prog.cellsOf 22 = 1 := by kernel_rfl
theorem Tryz.cellsSlot : Tryz.prog.cellsOf 76 = 3 := by kernel_rfl

theorem open_slot {H : Type} {enc : TypeId × Value → H} {W : World} {fuel : Nat} {cs : List Value} {x : DataW H × List MemPlace} (hl3 : cs.length = 3)
    (hf : DataW.trod enc Tryz.prog W 0 (fun _ => true) true fuel 76 cs = some x) :
    ∃ (y : SV), cs = [.slice y.a y.xs.length y.c, .int .i64 y.since, .bool y.bad] ∧ SArg W y := by
  obtain ⟨c0, c1, c2, rfl⟩ := list3 hl3
  obtain ⟨xs, n, _, _, _, hlen, hx⟩ := DataW.trod_struct Tryz.underlying76 hf
  obtain ⟨y0, y1, y2, rfl⟩ := list3 hlen
  have f0 : DataW.trod enc Tryz.prog W 0 (fun _ => true) true n 74 [c0] = some y0 := by simpa [Tryz.cellsList] using hx 0 _ rfl
  have f1 : DataW.trod enc Tryz.prog W 0 (fun _ => true) true n 3 [c1] = some y1 := by simpa [Tryz.cellsList, Tryz.cells3] using hx 1 _ rfl
  have f2 : DataW.trod enc Tryz.prog W 0 (fun _ => true) true n 4 [c2] = some y2 := by simpa [Tryz.cellsList, Tryz.cells3, Tryz.cells4] using hx 2 _ rfl
  obtain ⟨a, cap, ps, e0, hr, hl⟩ := open_list f0
  obtain ⟨s, e1, _, _⟩ := DataW.trod_int Tryz.underlying3 f1
  obtain ⟨b, e2, _⟩ := DataW.trod_bool Tryz.underlying4 f2
  simp at e1 e2
  subst e0 e1 e2
  exact ⟨⟨a, cap, ps, s, b⟩, rfl, hr, hl⟩

theorem open_slots {H : Type} {enc : TypeId × Value → H} {W : World} {fuel : Nat} {c : Value} {x : DataW H × List MemPlace} (h : DataW.trod enc Tryz.prog W 0 (fun _ => true) true fuel 22 [c] = some x) :
    ∃ a cap xs, c = .slice a xs.length cap ∧ SLo W a xs ∧ xs.length ≤ 9223372036854775807 := by
  rcases Deep.open_slice Tryz.underlying22 h with ⟨hcs, _⟩ | ⟨a, len, cap, m, n, D, Pl, hcs, _, hl, hm, hmm, _, hx⟩
  · simp at hcs
    exact ⟨none, 0, [], hcs, ⟨Or.inl rfl, fun x hx => by cases hx⟩, by simp⟩
  · simp at hcs
    unfold maxLen at hm
    have hlm : len ≤ m := by rw [hmm]; split <;> omega
    rw [Tryz.cellsSlot] at hx
    obtain ⟨xs, hxl, hxs⟩ := list_of len (fun i (y : SV) => SArg W y ∧ ∀ j, j < 3 → W.cell? ((a.add (i * 3)).add j) = [Value.slice y.a y.xs.length y.c, .int .i64 y.since, .bool y.bad][j]?) (fun i hi => by
      obtain ⟨cs', h1, h2⟩ := hx i (by omega)
      obtain ⟨_, hlen, hcell⟩ := World.cells?_some h1
      obtain ⟨y, hy, hr⟩ := open_slot hlen h2
      refine ⟨y, hr, fun j hj => ?_⟩
      rw [hcell j hj, hy])
    refine ⟨some a, cap, xs, by rw [hxl]; exact hcs, ⟨?_, fun y hy => ?_⟩, by omega⟩
    · by_cases h0 : len = 0
      · exact Or.inl (List.length_eq_zero_iff.1 (by omega))
      · right
        obtain ⟨y, hy⟩ := get_of_lt (show 0 < xs.length by omega)
        obtain ⟨b, off, spot⟩ := a
        have h00 := (hxs 0 y hy).2 0 (by omega)
        have h01 : W.cell? ((Addr.mk b off spot).add 0) = some (.slice y.a y.xs.length y.c) := by
          have h := h00
          rw [Deep.add_add] at h
          exact h
        have hspot : spot = none := by simpa [Addr.add] using World.cell?_spot h01
        subst hspot
        have ad : ∀ i j, ((Addr.mk b off none).add (i * 3)).add j = ⟨b, off + i * 3 + j, none⟩ := fun i j => by
          rw [Deep.add_add, Go.WideShapes.add_plain, Nat.add_assoc]
        refine ⟨b, off, rfl, ?_, fun k z hz => ?_⟩
        · have := World.block_lt_of_cell? W _ (show W.cell? (((Addr.mk b off none).add (0 * 3)).add 0) = some (.slice y.a y.xs.length y.c) by rw [h00]; rfl)
          rw [ad] at this
          exact this
        · have e := (hxs k z hz).2
          have e' : ∀ j, j < 3 → W.cell? ⟨b, off + k * 3 + j, none⟩ = [Value.slice z.a z.xs.length z.c, .int .i64 z.since, .bool z.bad][j]? := fun j hj => by rw [← ad]; exact e j hj
          exact ⟨e' 0 (by omega), e' 1 (by omega), e' 2 (by omega)⟩
    · obtain ⟨i, hi⟩ := List.getElem?_of_mem hy
      exact (hxs i y hi).1

theorem open_bench {H : Type} {enc : TypeId × Value → H} {W : World} {fuel : Nat} {cs : List Value} {x : DataW H × List MemPlace} (hl2 : cs.length = 2)
    (hf : DataW.trod enc Tryz.prog W 0 (fun _ => true) true fuel 24 cs = some x) :
    ∃ (now : Int) (a : Option Addr) (cap : Nat) (ss : List SV), cs = [.int .i64 now, .slice a ss.length cap] ∧ SLo W a ss ∧ ss.length ≤ 9223372036854775807 := by
  obtain ⟨c0, c1, rfl⟩ := list2 hl2
  obtain ⟨xs, n, _, _, _, hlen, hx⟩ := DataW.trod_struct Tryz.underlying24 hf
  obtain ⟨y0, y1, rfl⟩ := list2 hlen
  have f0 : DataW.trod enc Tryz.prog W 0 (fun _ => true) true n 3 [c0] = some y0 := by simpa [Tryz.cells3] using hx 0 _ rfl
  have f1 : DataW.trod enc Tryz.prog W 0 (fun _ => true) true n 22 [c1] = some y1 := by simpa [Tryz.cellsSlots, Tryz.cells3] using hx 1 _ rfl
  obtain ⟨s, e0, _, _⟩ := DataW.trod_int Tryz.underlying3 f0
  obtain ⟨a, cap, ss, e1, hr, hl⟩ := open_slots f1
  simp at e0
  subst e0 e1
  exact ⟨s, a, cap, ss, rfl, hr, hl⟩
end Go.Proofs.YtjbkgmbakjnlhabGreatDoor

/- Contracts of markByteS, heldByteS, markFragPacket, heldFragPacket over bytes of the call's own. -/
namespace Go.Proofs.YtjbkgmbakjnlhabGreatDoor
set_option maxRecDepth 100000
open Go.RowKit

/-- so many marks from a number on -/
def marks (k : Int) (n : Nat) : List Int := (List.range n).map (fun i : Nat => (k + (i : Int)) % 256)
theorem marks_length (k : Int) (n : Nat) : (marks k n).length = n := by simp [marks]
theorem marks_getD (k : Int) (n i : Nat) (h : i < n) : (marks k n).getD i 0 = (k + (i : Int)) % 256 := by
  simp [marks, List.getD, h]
theorem marks_get (k : Int) (n i : Nat) (h : i < n) : ((marks k n).map (Value.int .u8))[i]? = some (.int .u8 ((k + (i : Int)) % 256)) := by
  simp [marks, h]
/-- what the cells hold behind i marks -/
def marked (k : Int) (zs : List Int) (i : Nat) : List Value := (marks k i).map (Value.int .u8) ++ (zs.drop i).map (Value.int .u8)
theorem marked_zero (k : Int) (zs : List Int) : marked k zs 0 = zs.map (Value.int .u8) := by simp [marked, marks]
theorem marked_all (k : Int) (zs : List Int) : marked k zs zs.length = (marks k zs.length).map (Value.int .u8) := by simp [marked]
theorem marked_at (k : Int) (zs : List Int) (i : Nat) (h : i < zs.length) : (marked k zs i)[i]? = some (.int .u8 (zs.getD i 0)) := by
  have hl : ((marks k i).map (Value.int .u8)).length = i := by simp [marks_length]
  rw [marked, List.getElem?_append_right (by omega), hl]
  simp [List.getD, List.getElem?_eq_getElem h]
theorem marked_succ (k : Int) (zs : List Int) (i : Nat) (h : i < zs.length) : (marked k zs i).set i (.int .u8 ((k + (i : Int)) % 256)) = marked k zs (i + 1) := by
  have hl : ((marks k i).map (Value.int .u8)).length = i := by simp [marks_length]
  rw [marked, List.set_append_right _ _ (by omega), hl, Nat.sub_self, marked]
  have e1 : (zs.drop i).map (Value.int .u8) = .int .u8 zs[i] :: (zs.drop (i + 1)).map (Value.int .u8) := by
    rw [List.drop_eq_getElem_cons h]; rfl
  have e2 : marks k (i + 1) = marks k i ++ [(k + (i : Int)) % 256] := by simp [marks, List.range_succ]
  rw [e1, e2]
  simp

theorem grown_trans {a b c : World} {r : Option Nat} (h : a.grownBy b r) (k : b.grownBy c r) : a.grownBy c r :=
  ⟨k.os.trans h.os, k.tape.trans h.tape, k.output.trans h.output, Nat.le_trans h.size k.size, fun i hi hr => (k.block i (Nat.lt_of_lt_of_le hi h.size) hr).trans (h.block i hi hr)⟩
theorem grown_alloc (a : World) (o : Obj) (r : Option Nat) : a.grownBy (a.alloc o) r := ⟨rfl, rfl, rfl, by simp, fun k hk _ => Below.heap_alloc _ _ _ hk⟩
theorem grown_refl (a : World) (r : Option Nat) : a.grownBy a r := ⟨rfl, rfl, rfl, Nat.le_refl _, fun _ _ _ => rfl⟩

set_option maxHeartbeats 800000 in
theorem markByteS_any (ao : Option Addr) (len cap base : Nat) (k : Int) (zs : List Int) (w : World) (hz : zs.length = len) (ho : w.ownsRow base 5 1 (.slice ao len cap) len (zs.map (.int .u8))) (h0 : 0 ≤ k) (h1 : k ≤ 1099511627776) (hl : len ≤ 1048576) :
    Calls Tryz.prog 37 #[.slice ao len cap, .int .i64 k] w fun e w' => e = .returned (.int .i64 (k + len)) ∧ w'.ownsRow base 5 1 (.slice ao len cap) len ((marks k len).map (.int .u8)) ∧ w.grownBy w' (Value.slice ao len cap).ownBlock := by
  subst hz
  rcases Joins.ownsRow_forms ho with ⟨hv, hn⟩ | ⟨g, c, hv⟩
  · have hnil : zs = [] := List.length_eq_zero_iff.1 hn
    subst hnil
    simp at hv
    obtain ⟨rfl, rfl⟩ := hv
    have HO : Hid (w.ownsRow base 5 1 (.slice none 0 0) 0 ((marks k 0).map (.int .u8))) := World.ownsRow_nil _ _ _ _
    clear ho
    go_enter Tryz.func37, Tryz.ntmps37
    go_wp2
    refine wp_loop_rounds 1 ?_
    rw [rounds_succ]
    go_wp2
    go_ret
    exact ⟨ret_int (by simp), HO.out, grown_refl _ _⟩
  · simp at hv
    obtain ⟨rfl, rfl⟩ := hv
    have HO : Hid (w.ownsRow base 5 1 (.slice (some ⟨g, 0, none⟩) zs.length cap) zs.length (zs.map (.int .u8))) := ho
    clear ho
    go_enter Tryz.func37, Tryz.ntmps37
    go_wp2
    go_loopw [1, 5] (fun t i wr => ∃ j : Nat, j ≤ zs.length ∧ i = .int .i64 j ∧ t = .int .i64 (k + j) ∧ Hid (wr.ownsRow base 5 1 (.slice (some ⟨g, 0, none⟩) zs.length cap) zs.length (marked k zs j)) ∧ Hid (w.grownBy wr (some g))) (fun _ i _ => zs.length - (intOf i).toNat)
    case atStart => exact ⟨0, Nat.zero_le _, rfl, by simp, by rw [marked_zero]; exact HO.out, grown_refl _ _⟩
    case round =>
      obtain ⟨j, hj, rfl, rfl, HJ, HG⟩ := hrel
      by_cases hlt : j < zs.length
      · have hcell : wr.cell? ⟨g, j, none⟩ = some (.int .u8 (zs.getD j 0)) := by rw [HJ.out.cellAt j (by omega)]; exact marked_at k zs j hlt
        have hfr := HJ.out.frozenAt j
        go_wp2
        go_roundw
        case rel =>
          refine ⟨j + 1, by omega, by go_num, by go_num, ?_, grown_trans HG.out (HJ.out.stored j _).2⟩
          have h := (HJ.out.stored j (.int .u8 ((k + (j : Int)) % 256))).1
          rw [marked_succ k zs j hlt] at h
          exact h
        case measure => simp [intOf]; omega
      · go_wp2
        go_ret
        have e : j = zs.length := by omega
        subst e
        refine ⟨rfl, ?_, HG.out⟩
        rw [← marked_all]; exact HJ.out

set_option maxHeartbeats 800000 in
theorem heldByteS_any (ao : Option Addr) (len cap base : Nat) (k : Int) (w : World) (ho : w.ownsRow base 5 1 (.slice ao len cap) len ((marks k len).map (.int .u8))) (h0 : 0 ≤ k) (h1 : k ≤ 1099511627776) (hl : len ≤ 1048576) :
    Calls Tryz.prog 39 #[.slice ao len cap, .int .i64 k] w fun e w' => e = .returned (.int .i64 (k + len)) ∧ w' = w := by
  rcases Joins.ownsRow_forms ho with ⟨hv, hn⟩ | ⟨g, c, hv⟩
  · subst hn
    simp at hv
    obtain ⟨rfl, rfl⟩ := hv
    clear ho
    go_enter Tryz.func39, Tryz.ntmps39
    go_wp2
    refine wp_loop_rounds 1 ?_
    rw [rounds_succ]
    go_wp2
    go_ret
    exact ⟨ret_int (by simp), rfl⟩
  · simp at hv
    obtain ⟨rfl, rfl⟩ := hv
    have hc : ∀ j, j < len → w.cell? ⟨g, j, none⟩ = some (.int .u8 ((k + (j : Int)) % 256)) := fun j hj => by
      rw [ho.cellAt j (by omega)]; exact marks_get k len j hj
    have hne : ∀ x : Int, (x != x) = false := fun x => by simp
    clear ho
    go_enter Tryz.func39, Tryz.ntmps39
    go_wp2
    go_loop [1, 5] (fun t i => ∃ j : Nat, j ≤ len ∧ i = .int .i64 j ∧ t = .int .i64 (k + j)) (fun _ i => len - (intOf i).toNat)
    case atStart => exact ⟨0, Nat.zero_le _, rfl, by simp⟩
    case round =>
      obtain ⟨j, hj, rfl, rfl⟩ := hrel
      by_cases hlt : j < len
      · have hcell := hc j hlt
        clear hc
        go_wp2
        go_round
        case rel => exact ⟨j + 1, by omega, by go_num, by go_num⟩
        case measure => simp [intOf]; omega
      · go_wp2
        go_ret
        have e : j = len := by omega
        subst e
        exact ⟨rfl, rfl⟩

/-- 'grownBy' from below: what is below a block stays as it was -/
theorem below_grown {w w' : World} {r : Option Nat} {B : Nat} (h : w.grownBy w' r) (hB : B ≤ w.heap.size) (hr : ∀ k, r = some k → B ≤ k) : Below B w w' :=
  (Below.refl _ _).grown h hB hr

set_option maxHeartbeats 800000 in
theorem markFragPacket_any (p : Pk) (ao : Option Addr) (len cap base : Nat) (k : Int) (zs : List Int) (w : World) (hz : zs.length = len) (ho : w.ownsRow base 5 1 (.slice ao len cap) len (zs.map (.int .u8))) (h0 : 0 ≤ k) (h1 : k ≤ 1099511627776) (hl : len ≤ 1048576) :
    Calls Tryz.prog 14 #[p.val (.slice ao len cap), .int .i64 k] w fun e w' => e = .returned (.int .i64 (k + len)) ∧ w'.ownsRow base 5 1 (.slice ao len cap) len ((marks k len).map (.int .u8)) ∧ w.grownBy w' (Value.slice ao len cap).ownBlock := by
  unfold Pk.val
  go_enter Tryz.func14, Tryz.ntmps14
  go_wp2_with fail
  refine (markByteS_any ao len cap base k zs _ hz (ho.alloc _) h0 h1 hl).mono ?_
  rintro e w1 ⟨rfl, ho1, hg1⟩
  have HO : Hid (w1.ownsRow base 5 1 (.slice ao len cap) len ((marks k len).map (.int .u8))) := ho1
  have HG : Hid (w.grownBy w1 (Value.slice ao len cap).ownBlock) := grown_trans (grown_alloc _ _ _) hg1
  clear ho1 hg1
  go_wp2
  go_ret
  exact ⟨rfl, HO.out, HG.out⟩

set_option maxHeartbeats 800000 in
theorem heldFragPacket_any (p : Pk) (ao : Option Addr) (len cap base : Nat) (k : Int) (w : World) (ho : w.ownsRow base 5 1 (.slice ao len cap) len ((marks k len).map (.int .u8))) (h0 : 0 ≤ k) (h1 : k ≤ 1099511627776) (hl : len ≤ 1048576) :
    Calls Tryz.prog 16 #[p.val (.slice ao len cap), .int .i64 k] w fun e w' => e = .returned (.int .i64 (k + len)) ∧ Below w.heap.size w w' := by
  unfold Pk.val
  go_enter Tryz.func16, Tryz.ntmps16
  go_wp2_with fail
  refine (heldByteS_any ao len cap base k _ (ho.alloc _) h0 h1 hl).mono ?_
  rintro e w1 ⟨rfl, rfl⟩
  go_wp2
  go_ret
  exact ⟨rfl, Joins.below_alloc1 _ _⟩
end Go.Proofs.YtjbkgmbakjnlhabGreatDoor
