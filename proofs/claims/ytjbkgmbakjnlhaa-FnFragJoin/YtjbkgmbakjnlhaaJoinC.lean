/- The closure that asks two pieces; the loops over the list. -/
import Derived.Test.YtjbkgmbakjnlhaaJoinB
import Derived.Test.YtjbkgmbakjnlhaaJoinN
namespace Go.Proofs.Ytjbkgmbakjnlhaa
open Go.RowKit

/-- what an ok packet's numbers are -/
theorem ok_bounds {p : Pk} {len : Nat} (h : okB p len = true) : 0 ≤ p.off ∧ p.off ≤ 128 ∧ p.off + len ≤ 128 := by
  simp only [okB, offB, inB, Bool.and_eq_true, decide_eq_true_eq] at h
  omega

set_option maxRecDepth 100000 in
set_option maxHeartbeats 3200000 in
theorem closure_any (lb g n cl i j : Nat) (xs : List RV) (x y : RV) (w : World) (hn : n = xs.length) (hL : RL w g xs) (hx : xs[i]? = some x) (hy : xs[j]? = some y) (hlb : w.cell? ⟨lb, 0, none⟩ = some (.slice (some ⟨g, 0, none⟩) n cl)) (hlt : lb < w.heap.size)
    (ox : okB x.p x.zs.length = true) (oy : okB y.p y.zs.length = true) (hi : i < n) (hj : j < n) (_hm : n ≤ 40) :
    Calls Try.prog 68 #[.int .i64 i, .int .i64 j, .pointer (some ⟨lb, 0, none⟩)] w fun e w' => e = .returned (.bool (disB x.key y.key)) ∧ Below w.heap.size w w' := by
  have X := hL.elem i x hx
  have Y := hL.elem j y hy
  have hX := hL.each x (List.mem_of_getElem? hx)
  have hY := hL.each y (List.mem_of_getElem? hy)
  have hg := hL.lt
  have bx := ok_bounds ox
  have by_ := ok_bounds oy
  have hi' : (i : Int) < (n : Int) := by omega
  have hj' : (j : Int) < (n : Int) := by omega
  clear hL hx hy hn
  obtain ⟨c0, c1, c2, c3, c4, c5, c6, c7, c8⟩ := id X
  obtain ⟨k0, k1, k2, k3, k4, k5, k6, k7, k8⟩ := id Y
  have HX : Hid (ROk w x) := hX
  have HY : Hid (ROk w y) := hY
  clear hX hY
  have hlx := HX.out.len
  have hly := HY.out.len
  go_enter Try.func68, Try.ntmps68
  go_upto_region 1 with fail
  go_cut [6, 7] (fun u v wx => ∃ b6 b7 : Nat, u = .pointer (some ⟨b6, 0, none⟩) ∧ v = .pointer (some ⟨b7, 0, none⟩) ∧ Hid (Boxed wx b6 x.p (.slice x.a x.zs.length x.c)) ∧ Hid (Boxed wx b7 y.p (.slice y.a y.zs.length y.c)) ∧ Hid (Below w.heap.size w wx))
  case first =>
    go_region
    all_goals
      go_wp2
      go_meet
      case rel =>
        first
          | exact ⟨w.heap.size, w.heap.size + 1, rfl, rfl, ((Boxed.new w x.p _ 24).below (Joins.below_alloc1 _ _)).below (draw1 _), (Boxed.newAt (w.alloc _) (w.heap.size + 1) y.p _ 24 (by simp)).below (draw1 _), (Joins.below_alloc2 _ _ _).drew⟩
          | exact ⟨w.heap.size + 1, w.heap.size, rfl, rfl, (Boxed.newAt (w.alloc _) (w.heap.size + 1) x.p _ 24 (by simp)).below (draw1 _), ((Boxed.new w y.p _ 24).below (Joins.below_alloc1 _ _)).below (draw1 _), (Joins.below_alloc2 _ _ _).drew⟩
  case rest =>
    obtain ⟨b6, b7, rfl, rfl, X6, Y7, HB⟩ := hcut
    clear c0 c1 c2 c3 c4 c5 c6 c7 c8 k0 k1 k2 k3 k4 k5 k6 k7 k8 X Y hlb
    have hs := HB.out.size
    obtain ⟨l0, c0, c1, c2, c3, c4, c5, c6, c7, c8⟩ := id X6.out
    obtain ⟨l1, k0, k1, k2, k3, k4, k5, k6, k7, k8⟩ := id Y7.out
    have HD : Hid (disB x.key y.key = (differB x.key y.key || behindB x.key y.key || behindB y.key x.key)) := rfl
    go_wp2_with fail
    refine (differ_any x.p y.p x.a y.a x.zs y.zs x.c y.c _ bx.1 bx.2.1 by_.1 by_.2.1 (HX.out.below HB.out) (HY.out.below HB.out)).mono ?_
    rintro e w1 ⟨rfl, b1⟩
    have B1 : Hid (Below w.heap.size w w1) := HB.out.trans (b1.mono hs)
    have X1 := X6.out.below b1
    have Y1 := Y7.out.below b1
    have hs1 := B1.out.size
    clear c0 c1 c2 c3 c4 c5 c6 c7 c8 k0 k1 k2 k3 k4 k5 k6 k7 k8 X6 Y7 HB b1 l0 l1 hs
    cases hd : differB (x.p, x.zs) (y.p, y.zs)
    · obtain ⟨l0, c0, c1, c2, c3, c4, c5, c6, c7, c8⟩ := id X1
      obtain ⟨l1, k0, k1, k2, k3, k4, k5, k6, k7, k8⟩ := id Y1
      go_wp2_with fail
      refine (endsBehind_any x.p y.p x.a y.a x.zs y.zs x.c y.c _ bx.1 bx.2.1 by_.1 by_.2.1 hlx hly).mono ?_
      rintro e w2 ⟨rfl, b2⟩
      have B2 : Hid (Below w.heap.size w w2) := B1.out.trans (b2.mono hs1)
      have X2 := X1.below b2
      have Y2 := Y1.below b2
      have hs2 := B2.out.size
      clear c0 c1 c2 c3 c4 c5 c6 c7 c8 k0 k1 k2 k3 k4 k5 k6 k7 k8 X1 Y1 b2 l0 l1
      cases hb : behindB (x.p, x.zs) (y.p, y.zs)
      · obtain ⟨l0, c0, c1, c2, c3, c4, c5, c6, c7, c8⟩ := id X2
        obtain ⟨l1, k0, k1, k2, k3, k4, k5, k6, k7, k8⟩ := id Y2
        have HE : Hid (disB x.key y.key = behindB (y.p, y.zs) (x.p, x.zs)) := by
          show disB x.key y.key = _
          rw [HD.out]
          show (differB (x.p, x.zs) (y.p, y.zs) || behindB (x.p, x.zs) (y.p, y.zs) || _) = _
          rw [hd, hb]
          rfl
        clear hd hb
        go_wp2_with fail
        refine (endsBehind_any y.p x.p y.a x.a y.zs x.zs y.c x.c _ by_.1 by_.2.1 bx.1 bx.2.1 hly hlx).mono ?_
        rintro e w3 ⟨rfl, b3⟩
        go_wp2
        go_ret
        exact ⟨ret_bool HE.out.symm, B2.out.trans (b3.mono hs2)⟩
      · have HE : Hid (disB x.key y.key = true) := by
          show disB x.key y.key = _
          rw [HD.out]
          show (differB (x.p, x.zs) (y.p, y.zs) || behindB (x.p, x.zs) (y.p, y.zs) || _) = _
          rw [hd, hb]
          rfl
        clear X2 Y2 hd
        go_wp2
        go_ret
        exact ⟨ret_bool HE.out.symm, B2.out⟩
    · have HE : Hid (disB x.key y.key = true) := by
        show disB x.key y.key = _
        rw [HD.out]
        show (differB (x.p, x.zs) (y.p, y.zs) || _ || _) = _
        rw [hd]
        rfl
      clear X1 Y1
      go_wp2
      go_ret
      exact ⟨ret_bool HE.out.symm, B1.out⟩
end Go.Proofs.Ytjbkgmbakjnlhaa
