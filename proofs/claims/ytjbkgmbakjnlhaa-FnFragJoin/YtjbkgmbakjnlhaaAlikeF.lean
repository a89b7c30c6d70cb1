/- The contracts of the two FragAlike. -/
import Derived.Test.YtjbkgmbakjnlhaaRList
import Derived.Test.YtjbkgmbakjnlhaaOk
namespace Go.Proofs.Ytjbkgmbakjnlhaa
open Go.RowKit

set_option maxHeartbeats 1600000 in
theorem specAlike_any (p q : Pk) (a b : Option Addr) (zs ys : List Int) (c d : Nat) (w : World) (hp : zs.length ≤ 1048576) (hq : ys.length ≤ 1048576) :
    Calls Try.prog 72 #[p.val (.slice a zs.length c), q.val (.slice b ys.length d)] w fun e w' => e = .returned (.bool (alikeB (p, zs) (q, ys))) ∧ Below w.heap.size w w' := by
  unfold Pk.val
  cases hv : okB p zs.length
  · have HA : Hid (alikeB (p, zs) (q, ys) = false) := by simp [Hid, alikeB, hv]
    go_enter Try.func72, Try.ntmps72
    go_wp2_with fail
    refine (specOk_any p a zs.length c _ hp).mono ?_
    rintro e w1 ⟨rfl, b1⟩
    have B1 : Hid (Below w.heap.size w w1) := (Joins.below_alloc2 _ _ _).trans (b1.mono (by simp; omega))
    clear b1
    go_wp2
    go_ret
    exact ⟨ret_bool HA.out.symm, B1.out⟩
  go_enter Try.func72, Try.ntmps72
  go_wp2_with fail
  refine (specOk_any p a zs.length c _ hp).mono ?_
  rintro e w1 ⟨rfl, b1⟩
  have B1 : Below w.heap.size w w1 := (Joins.below_alloc2 _ _ _).trans (b1.mono (by simp; omega))
  have X1 : Boxed w1 w.heap.size p (.slice a zs.length c) := ((Boxed.new w p (.slice a zs.length c) 24).below (Joins.below_alloc1 _ _)).below b1
  have Y1 : Boxed w1 (w.heap.size + 1) q (.slice b ys.length d) := (Boxed.newAt (w.alloc _) (w.heap.size + 1) q (.slice b ys.length d) 24 (by simp)).below b1
  clear b1
  obtain ⟨l1, k0, k1, k2, k3, k4, k5, k6, k7, k8⟩ := id Y1
  cases hu : okB q ys.length
  · have HA : Hid (alikeB (p, zs) (q, ys) = false) := by simp [Hid, alikeB, hu]
    go_wp2_with fail
    refine (specOk_any q b ys.length d _ hq).mono ?_
    rintro e w2 ⟨rfl, b2⟩
    have B2 : Hid (Below w.heap.size w w2) := B1.trans (b2.mono (by omega))
    clear b2 B1
    go_wp2
    go_ret
    exact ⟨ret_bool HA.out.symm, B2.out⟩
  · go_wp2_with fail
    refine (specOk_any q b ys.length d _ hq).mono ?_
    rintro e w2 ⟨rfl, b2⟩
    have B2 : Hid (Below w.heap.size w w2) := B1.trans (b2.mono (by omega))
    have X2 := X1.below b2
    have Y2 := Y1.below b2
    clear b2 B1 X1 Y1 k0 k1 k2 k3 k4 k5 k6 k7 k8 l1
    obtain ⟨l0, c0, c1, c2, c3, c4, c5, c6, c7, c8⟩ := id X2
    obtain ⟨l1, k0, k1, k2, k3, k4, k5, k6, k7, k8⟩ := id Y2
    have HV : Hid (okB p zs.length = true ∧ okB q ys.length = true) := ⟨hv, hu⟩
    clear hv hu
    go_wp2
    all_goals
      go_ret
      refine ⟨ret_bool ?_, B2.out⟩
      have h1 := HV.out.1
      have h2 := HV.out.2
      simp_all [alikeB]
end Go.Proofs.Ytjbkgmbakjnlhaa
