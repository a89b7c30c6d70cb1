/-
  Promises 3 and 4: whatever pieces are drawn out of a code, what they join to, or why they do not, hangs neither on their order nor on one of them being there twice, and where they disagree no further piece (drawn out of a second code) makes them agree; the program's FragJoin answers as the specification's: the law FnFragJoin returns true at every two arguments, and these read behind the call as before it. No condition besides.
-/
import Derived.Test.YtjbkgmbakjnlhaaRows
import Derived.Test.YtjbkgmbakjnlhaaDrawJ
import Derived.Test.YtjbkgmbakjnlhaaPartAp
import Derived.WalkKit
import Derived.ProofKit
import Derived.OpenShut
import Derived.ShutString
import Derived.ChangeOld
import Derived.Below
namespace Go.Proofs.Ytjbkgmbakjnlhaa.fnFragJoin
open Go.ChangeShapes Go.WideShapes Go.ChangeAt Go.RowKit

theorem own : ownKnob Try.prog.godebug = none := by kernel_rfl
theorem laidOut : laidOutB Try.prog = true := by kernel_rfl
theorem cells5 : Try.prog.cellsOf 5 = 1 := by kernel_rfl

theorem open_code {H : Type} {enc : TypeId × Value → H} {W : World} {fuel : Nat} {c : Value} {x : DataW H × List MemPlace} (h : DataW.trod enc Try.prog W 0 (fun _ => true) true fuel 22 [c] = some x) :
    ∃ a len cap zs, c = .slice a len cap ∧ RdB W a len zs ∧ len ≤ cap ∧ len ≤ 9223372036854775807 ∧ ∀ z ∈ zs, 0 ≤ z ∧ z ≤ 255 := by
  rcases open_ints Try.underlying22 Try.underlying5 cells5 h with ⟨hcs, _⟩ | ⟨x, l, cp, zs, hcs, _, hl, hm, hz, _, hcell, hwz⟩
  · simp at hcs
    exact ⟨none, 0, 0, [], hcs, ⟨rfl, Or.inl rfl⟩, by omega, by omega, by simp⟩
  · simp at hcs
    unfold maxLen at hm
    have hz' : zs.length = cp := by simpa using hz
    refine ⟨some x, l, cp, zs.take l, hcs, ⟨by simp; omega, ?_⟩, hl, by omega, fun z hz1 => ?_⟩
    · by_cases h0 : l = 0
      · exact Or.inl h0
      · right
        obtain ⟨b, off, rfl, hc⟩ := ints_at hcell (show 0 < zs.length by omega)
        have hk : ∀ k, k < l → W.cell? ⟨b, off + k, none⟩ = some (.int .u8 ((zs.take l).getD k 0)) := fun k hk => by
          rw [Joins.getD_take_lt _ _ _ _ hk]
          exact hc k (by omega)
        exact ⟨b, off, rfl, World.block_lt_of_cell? W _ (hk 0 (by omega)), hk⟩
    · have := hwz z (List.mem_of_mem_take hz1)
      simpa [Lit.wf, IntKind.min, IntKind.max, IntKind.signed, IntKind.bits] using this

set_option maxRecDepth 100000 in
set_option maxHeartbeats 800000 in
theorem walk (a : Option Addr) (len cap : Nat) (zs : List Int) (a' : Option Addr) (len' cap' : Nat) (zs' : List Int) (w : World) (hr : RdB w a len zs) (hz : ∀ z ∈ zs, 0 ≤ z ∧ z ≤ 255) (hc : len ≤ cap) (hm : len ≤ 9223372036854775807) (hr' : RdB w a' len' zs') (hz' : ∀ z ∈ zs', 0 ≤ z ∧ z ≤ 255) (hc' : len' ≤ cap') (hm' : len' ≤ 9223372036854775807) :
    Calls Try.prog 4 #[.slice a len cap, .slice a' len' cap'] w fun e w' => e = .returned (.bool true) ∧ Below w.heap.size w w' := by
  by_cases hl : 1048576 < (len : Int)
  · clear hr hz hr' hz'
    go_enter Try.func4, Try.ntmps4
    go_wp2
    go_ret
    exact ⟨rfl, Below.refl _ _⟩
  by_cases hl' : 1048576 < (len' : Int)
  · clear hr hz hr' hz'
    go_enter Try.func4, Try.ntmps4
    go_wp2
    go_ret
    exact ⟨rfl, Below.refl _ _⟩
  exact joinLaw_any a len cap a' len' cap' w (by omega) (by omega) (drawJoin_any a len cap zs w hr hz hc (by omega)) (fun w' hb => drawHop_any a' len' cap' zs' w' (hr'.below hb) hz' hc' (by omega))

set_option maxRecDepth 100000 in
theorem lifted (os : Os) (started : os.Started) (H : Type) (enc : TypeId × Value → H) :
    ReturnsInHanded {} Try.checked os 4 .any (Rows.fnFragJoinSpec.pre6 enc Try.prog Try.f4 Rows.fnFragJoinRow.domain false) (Rows.fnFragJoinSpec.post enc Try.prog Try.f4 false true false false) := by
  refine returnsInHanded_of_change (C := Try.checked) own started (by kernel_rfl) Try.func4
    (ChangeSpec.witness6 (enc := enc) (C := Try.checked) false ⟨#[], #[.slice none 0 0, .slice none 0 0], []⟩ 8 (by kernel_rfl) (by kernel_rfl) (by kernel_rfl) (by kernel_rfl)) ?_
  intro W base args ds gs before hval0 hW _ _
  have hval : ∀ (j : Nat) t v, Try.f4.params[j]? = some t → args[j]? = some v → Value.okWide Try.prog W .any base t v := hval0
  have hW' := hW
  obtain ⟨p, q, hA0, hV, rfl, hfz, hnd⟩ := hW
  have hA : DataW.TrodAll enc Try.prog W 0 (fun _ => true) true Try.f4.params.toList args.toList ds p := hA0
  rw [Try.params4] at hA hval
  obtain ⟨v0, vs0, d0, ds0, p0, q0, hargs, rfl, rfl, h0, r0⟩ := trodAll_cons hA
  obtain ⟨v1, vs1, d1, ds1, p1, q1, hargs1, rfl, rfl, h1, r1⟩ := trodAll_cons r0
  obtain ⟨rfl, rfl, rfl⟩ := trodAll_nil r1
  subst hargs1
  obtain rfl : args = #[v0, v1] := by cases args; simp_all
  obtain ⟨rfl, rfl⟩ := trodVars_none hV
  obtain ⟨a0, len0, cap0, rfl⟩ := okWide_slice Try.underlying22 (hval 0 22 v0 rfl rfl)
  obtain ⟨a1, len1, cap1, rfl⟩ := okWide_slice Try.underlying22 (hval 1 22 v1 rfl rfl)
  have k0 := h0
  have lt0 : ∀ x ∈ p0, x.block < W.heap.size := by obtain ⟨m, hm⟩ := k0; exact DataW.trod_lt m _ _ _ hm
  have k1 := h1
  have lt1 : ∀ x ∈ p1, x.block < W.heap.size := by obtain ⟨m, hm⟩ := k1; exact DataW.trod_lt m _ _ _ hm
  obtain ⟨fuel, hf⟩ := h0
  obtain ⟨fuel', hf'⟩ := h1
  obtain ⟨a, len, cap, zs, hv, hr, hc, hm, hz⟩ := open_code (c := .slice a0 len0 cap0) (by simpa [Value.cells] using hf)
  simp only [Value.slice.injEq] at hv
  obtain ⟨rfl, rfl, rfl⟩ := hv
  obtain ⟨a', len', cap', zs', hv', hr', hc', hm', hz'⟩ := open_code (c := .slice a1 len1 cap1) (by simpa [Value.cells] using hf')
  simp only [Value.slice.injEq] at hv'
  obtain ⟨rfl, rfl, rfl⟩ := hv'
  clear hA0 hval0
  refine (walk a0 len0 cap0 zs a1 len1 cap1 zs' W hr hz hc hm hr' hz' hc' hm').mono fun e W' ⟨he, bel⟩ => ?_
  subst he
  exact ⟨_, rfl, _, _, _, [], _, [], hW', trodAll_mk1 (shut_bool Try.underlying4 _), (trodAll_cons_mk (Below.trod laidOut (by kernel_rfl) (of_decide_eq_true (by kernel_rfl)) k0 bel lt0) (trodAll_cons_mk (Below.trod laidOut (by kernel_rfl) (of_decide_eq_true (by kernel_rfl)) k1 bel lt1) trodAll_mk0)), rfl, bel.frame _, fun h => by cases h⟩

theorem over : Rows.fnFragJoinRow.holds Try.pinned (OpenSpec.ofChange Rows.fnFragJoinSpec) :=
  OpenClaim.holds_of_wide 4 Try.f4 rfl rfl rfl rfl rfl rfl rfl ⟨rfl, rfl, rfl, rfl, rfl⟩ rfl rfl rfl rfl rfl (by kernel_rfl) Try.func4 (by kernel_rfl)
    (of_decide_eq_true (by kernel_rfl)) (by unfold Func.isWrapper; first | (rw [if_pos (by decide +kernel)]; kernel_rfl) | (rw [if_neg (by decide +kernel)]; exact ⟨rfl, rfl⟩))
    (fun os started H enc _ => lifted os started H enc)
end Go.Proofs.Ytjbkgmbakjnlhaa.fnFragJoin

namespace Go.Proofs.Ytjbkgmbakjnlhaa
theorem fnFragJoin_holds : Rows.FnFragJoinSaid := fnFragJoin.over
#print axioms fnFragJoin_holds
end Go.Proofs.Ytjbkgmbakjnlhaa
