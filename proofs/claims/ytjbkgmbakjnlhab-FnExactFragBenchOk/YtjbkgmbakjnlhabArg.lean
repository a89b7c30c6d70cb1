/- A packet that came in as an argument, opened. -/
import Derived.Test.YtjbkgmbakjnlhabPack
import Derived.ProofKit
import Derived.OpenShut
namespace Go.Proofs.Ytjbkgmbakjnlhab
open Go.ChangeShapes Go.WideShapes Go.ChangeAt Go.RowKit

theorem array9 {α : Type} {cs : Array α} (h : cs.size = 9) : ∃ c0 c1 c2 c3 c4 c5 c6 c7 c8, cs = #[c0, c1, c2, c3, c4, c5, c6, c7, c8] := by
  obtain ⟨l⟩ := cs
  match l, h with
  | [c0, c1, c2, c3, c4, c5, c6, c7, c8], _ => exact ⟨c0, c1, c2, c3, c4, c5, c6, c7, c8, rfl⟩
theorem list9 {α : Type} {l : List α} (h : l.length = 9) : ∃ c0 c1 c2 c3 c4 c5 c6 c7 c8, l = [c0, c1, c2, c3, c4, c5, c6, c7, c8] := by
  match l, h with
  | [c0, c1, c2, c3, c4, c5, c6, c7, c8], _ => exact ⟨c0, c1, c2, c3, c4, c5, c6, c7, c8, rfl⟩

theorem Try.cells24 : Try.prog.cellsOf 24 = 9 := by kernel_rfl
theorem Try.cells3 : Try.prog.cellsOf 3 = 1 := by kernel_rfl
theorem Try.cells4 : Try.prog.cellsOf 4 = 1 := by kernel_rfl
theorem Try.cells5 : Try.prog.cellsOf 5 = 1 := by kernel_rfl
theorem Try.cells22 : Try.prog.cellsOf 22 = 1 := by kernel_rfl

/-- a whole number of 64 bits -/
def I64 (x : Int) : Prop := -9223372036854775808 ≤ x ∧ x ≤ 9223372036854775807
/-- a packet's numbers are of 64 bits -/
structure PkOk (p : Pk) : Prop where
  src : I64 p.src
  dst : I64 p.dst
  kind : I64 p.kind
  id : I64 p.id
  hops : I64 p.hops
  off : I64 p.off

theorem open_bytes {H : Type} {enc : TypeId × Value → H} {W : World} {fuel : Nat} {c : Value} {x : DataW H × List MemPlace} (h : DataW.trod enc Try.prog W 0 (fun _ => true) true fuel 22 [c] = some x) :
    ∃ a len cap zs, c = .slice a len cap ∧ RdB W a len zs ∧ len ≤ 9223372036854775807 ∧ ∀ z ∈ zs, 0 ≤ z ∧ z ≤ 255 := by
  rcases open_ints Try.underlying22 Try.underlying5 Try.cells5 h with ⟨hcs, _⟩ | ⟨x, l, cp, zs, hcs, _, hl, hm, hz, _, hcell, hwz⟩
  · simp at hcs
    exact ⟨none, 0, 0, [], hcs, ⟨rfl, Or.inl rfl⟩, by omega, by simp⟩
  · simp at hcs
    unfold maxLen at hm
    have hz' : zs.length = cp := by simpa using hz
    refine ⟨some x, l, cp, zs.take l, hcs, ⟨by simp; omega, ?_⟩, by omega, fun z hz1 => ?_⟩
    · by_cases h0 : l = 0
      · exact Or.inl h0
      · right
        obtain ⟨b, off, rfl, hc⟩ := ints_at hcell (show 0 < zs.length by omega)
        have hk : ∀ k, k < l → W.cell? ⟨b, off + k, none⟩ = some (.int .u8 ((zs.take l).getD k 0)) := fun k hk => by
          rw [Joins.getD_take_lt _ _ _ _ hk]
          exact hc k (by omega)
        exact ⟨b, off, rfl, World.block_lt_of_cell? W _ (hk 0 (by omega)), hk⟩
    · have := hwz z (List.mem_of_mem_take hz1)
      simpa [Lit.wf, IntKind.min, IntKind.max, IntKind.signed, IntKind.bits] using this

theorem open_packet {H : Type} {enc : TypeId × Value → H} {W : World} {r : Reach} {b0 : Nat} {v : Value} {d : DataW H} {ps : List MemPlace}
    (hv : Value.okWide Try.prog W r b0 24 v) (h : DataW.Trod enc Try.prog W 0 (fun _ => true) true 24 v d ps) :
    ∃ (p : Pk) (a : Option Addr) (len cap : Nat) (zs : List Int), v = p.val (.slice a len cap) ∧ RdB W a len zs ∧ len ≤ 9223372036854775807 ∧ (∀ z ∈ zs, 0 ≤ z ∧ z ≤ 255) ∧ PkOk p := by
  obtain ⟨cs, rfl, hsz⟩ := okWide_struct Try.underlying24 hv
  obtain ⟨c0, c1, c2, c3, c4, c5, c6, c7, c8, rfl⟩ := array9 (hsz.trans Try.cells24)
  obtain ⟨fuel, hf⟩ := h
  obtain ⟨xs, n, _, _, _, hlen, hx⟩ := DataW.trod_struct Try.underlying24 hf
  obtain ⟨y0, y1, y2, y3, y4, y5, y6, y7, y8, rfl⟩ := list9 hlen
  have f0 : DataW.trod enc Try.prog W 0 (fun _ => true) true n 3 [c0] = some y0 := by simpa [Value.cells, Try.cells3] using hx 0 _ rfl
  have f1 : DataW.trod enc Try.prog W 0 (fun _ => true) true n 3 [c1] = some y1 := by simpa [Value.cells, Try.cells3] using hx 1 _ rfl
  have f2 : DataW.trod enc Try.prog W 0 (fun _ => true) true n 3 [c2] = some y2 := by simpa [Value.cells, Try.cells3] using hx 2 _ rfl
  have f3 : DataW.trod enc Try.prog W 0 (fun _ => true) true n 3 [c3] = some y3 := by simpa [Value.cells, Try.cells3] using hx 3 _ rfl
  have f4 : DataW.trod enc Try.prog W 0 (fun _ => true) true n 3 [c4] = some y4 := by simpa [Value.cells, Try.cells3] using hx 4 _ rfl
  have f5 : DataW.trod enc Try.prog W 0 (fun _ => true) true n 4 [c5] = some y5 := by simpa [Value.cells, Try.cells4] using hx 5 _ rfl
  have f6 : DataW.trod enc Try.prog W 0 (fun _ => true) true n 3 [c6] = some y6 := by simpa [Value.cells, Try.cells3] using hx 6 _ rfl
  have f7 : DataW.trod enc Try.prog W 0 (fun _ => true) true n 4 [c7] = some y7 := by simpa [Value.cells, Try.cells4] using hx 7 _ rfl
  have f8 : DataW.trod enc Try.prog W 0 (fun _ => true) true n 22 [c8] = some y8 := by simpa [Value.cells, Try.cells22] using hx 8 _ rfl
  obtain ⟨s, e0, _, w0⟩ := DataW.trod_int Try.underlying3 f0
  obtain ⟨t, e1, _, w1⟩ := DataW.trod_int Try.underlying3 f1
  obtain ⟨k, e2, _, w2⟩ := DataW.trod_int Try.underlying3 f2
  obtain ⟨i, e3, _, w3⟩ := DataW.trod_int Try.underlying3 f3
  obtain ⟨o, e4, _, w4⟩ := DataW.trod_int Try.underlying3 f4
  obtain ⟨b, e5, _⟩ := DataW.trod_bool Try.underlying4 f5
  obtain ⟨f, e6, _, w6⟩ := DataW.trod_int Try.underlying3 f6
  obtain ⟨m, e7, _⟩ := DataW.trod_bool Try.underlying4 f7
  obtain ⟨a, len, cap, zs, e8, hr, hl, hz⟩ := open_bytes f8
  simp at e0 e1 e2 e3 e4 e5 e6 e7
  subst e0 e1 e2 e3 e4 e5 e6 e7 e8
  exact ⟨⟨s, t, k, i, o, b, f, m⟩, a, len, cap, zs, rfl, hr, hl, hz, ⟨Joins.in64_of_wf w0, Joins.in64_of_wf w1, Joins.in64_of_wf w2, Joins.in64_of_wf w3, Joins.in64_of_wf w4, Joins.in64_of_wf w6⟩⟩
end Go.Proofs.Ytjbkgmbakjnlhab
