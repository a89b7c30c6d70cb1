import Derived.Test.YtjbkgmbakjnlhaaGreatDoorPartAi
import Derived.Test.YtjbkgmbakjnlhaaGreatDoorPartAg
import Derived.Test.YtjbkgmbakjnlhaaGreatDoorPartAa
namespace Go.Proofs.YtjbkgmbakjnlhaaGreatDoor
set_option maxRecDepth 100000
open Go.RowKit
def headSp (x0 : RV) (L : List PB) (k : Nat) : Pk := ⟨x0.p.src, x0.p.dst, x0.p.kind, x0.p.id, (L.take k).foldl leastH x0.p.hops, (L.take k).any (fun y => y.1.whole), 0, false⟩
theorem headSp_succ {x0 : RV} {L : List PB} {k : Nat} {x : PB} (hx : L[k]? = some x) : headSp x0 L (k + 1) = { headSp x0 L k with hops := leastH (headSp x0 L k).hops x, whole := (headSp x0 L k).whole || x.1.whole } := by
 unfold headSp
 rw [List.take_add_one, hx]
 simp [List.foldl_append, List.any_append]
theorem headSp_all {x0 : RV} {L : List PB} (h0 : L[0]? = some x0.key) : headSp x0 L L.length = headL L := by
 match L, h0 with
 | x :: r, h0 =>
  simp at h0
  subst h0
  unfold headSp headL
  rw [List.take_length]
  rfl
theorem HW.draws {w wr : World} {rb bb : Nat} {p : Pk} {v : Value} (h : HW w wr rb bb p v) (n : Nat) : HW w (wr.drewN n) rb bb p v :=
 ⟨((Joins.below_draws wr.heap.size wr n).block _ (lt_of_block h.res)).trans h.res, ((Joins.below_draws wr.heap.size wr n).block _ (lt_of_block h.box)).trans h.box, h.bel.trans (Joins.below_draws _ _ _)⟩
theorem three_heap (w : World) (a b c : Obj) : (((w.alloc a).alloc b).alloc c).heap[w.heap.size]? = some a ∧ (((w.alloc a).alloc b).alloc c).heap[w.heap.size + 1]? = some b ∧ (((w.alloc a).alloc b).alloc c).heap[w.heap.size + 1 + 1]? = some c :=
 ⟨(zHa (by simp; omega)).trans ((zHa (by simp)).trans (heap_new _ _ _ rfl)), (zHa (by simp)).trans (heap_new _ _ _ (by simp)), heap_new _ _ _ (by simp)⟩
theorem keep5 {w W : World} {g : Nat} {x0 : RV} (h : RHead w g x0) (hg : g < w.heap.size) (hb : Below w.heap.size w W) : W.cell? ⟨g, 0, none⟩ = some (.int .i64 x0.p.src) ∧ W.cell? ⟨g, 1, none⟩ = some (.int .i64 x0.p.dst) ∧ W.cell? ⟨g, 2, none⟩ = some (.int .i64 x0.p.kind) ∧ W.cell? ⟨g, 3, none⟩ = some (.int .i64 x0.p.id) ∧ W.cell? ⟨g, 4, none⟩ = some (.int .i64 x0.p.hops) :=
 have e : ∀ o, W.cell? ⟨g, o, none⟩ = w.cell? ⟨g, o, none⟩ := fun o => hb.cell (p := ⟨g, o, none⟩) hg
 ⟨(e _).trans h.e0, (e _).trans h.e1, (e _).trans h.e2, (e _).trans h.e3, (e _).trans h.e4⟩
set_option maxHeartbeats 3200000 in
theorem l3Head_any (g cl : Nat) (xs : List RV) (x0 : RV) (w : World) (hL : RL w g xs) (hm : xs.length ≤ 40) (h0 : xs[0]? = some x0) :
  Calls Tryz.prog 83 #[.slice (some ⟨g, 0, none⟩) xs.length cl] w fun e w' => ∃ gd, e = .returned ((headL (xs.map RV.key)).val (.slice (some ⟨gd, 0, none⟩) 0 0)) ∧ w.heap.size ≤ gd ∧ w'.heap[gd]? = some (.cells #[] 5 (0, 0)) ∧ Below w.heap.size w w' := by
 have hposn : 0 < xs.length := lt_of_get h0
 have hpos : (0 : Int) < (xs.length : Int) := by omega
 have hne : xs ≠ [] := fun e => by rw [e] at hposn; simp at hposn
 have HL : Hid (RL w g xs) := hL
 have H0 : Hid (xs[0]? = some x0) := h0
 have hg := hL.lt
 obtain ⟨c0, c1, c2, c3, c4, c5, c6, c7, c8⟩ := (hL.elem 0 x0 h0).head
 have HH : Hid (RHead w g x0) := (hL.elem 0 x0 h0).head
 clear hL h0
 go_enter Tryz.func83, Tryz.ntmps83
 go_upto_region 1 with fail
 go_cut [3] (fun u wx => ∃ bb gd : Nat, u = .pointer (some ⟨bb, 0, none⟩) ∧ w.heap.size < bb ∧ w.heap.size < gd ∧ bb ≠ gd ∧ Hid (HW w wx w.heap.size bb ⟨x0.p.src, x0.p.dst, x0.p.kind, x0.p.id, x0.p.hops, false, 0, false⟩ (.slice (some ⟨gd, 0, none⟩) 0 0)) ∧ Hid (wx.heap[gd]? = some (.cells #[] 5 (0, 0))))
 case first =>
  go_region_held3 (fun w' => w'.cell? ⟨g, 0, none⟩ = some (.int .i64 x0.p.src) ∧ w'.cell? ⟨g, 1, none⟩ = some (.int .i64 x0.p.dst) ∧ w'.cell? ⟨g, 2, none⟩ = some (.int .i64 x0.p.kind) ∧ w'.cell? ⟨g, 3, none⟩ = some (.int .i64 x0.p.id) ∧ w'.cell? ⟨g, 4, none⟩ = some (.int .i64 x0.p.hops)) (first | (with_reducible exact keep5 HH.out hg ((zBa _ _).drew)) | (with_reducible exact keep5 HH.out hg ((Joins.below_alloc2 _ _ _).drew)) | (with_reducible exact keep5 HH.out hg ((Joins.below_alloc3 _ _ _ _).drew))) (fail)
  all_goals
   go_wp2
   go_meet
   case rel =>
    first
     | exact ⟨w.heap.size + 1 + 1, w.heap.size + 1, rfl, by omega, by omega, by omega, ⟨(three_heap w _ _ _).1, (three_heap w _ _ _).2.2, (Joins.below_alloc3 _ _ _ _).drew⟩, (three_heap w _ _ _).2.1⟩
     | exact ⟨w.heap.size + 1, w.heap.size + 1 + 1, rfl, by omega, by omega, by omega, ⟨(three_heap w _ _ _).1, (three_heap w _ _ _).2.1, (Joins.below_alloc3 _ _ _ _).drew⟩, (three_heap w _ _ _).2.2⟩
 case rest =>
  obtain ⟨bb, gd, rfl, hbb, hgd, hbg, HW0, HD0⟩ := hcut
  clear c0 c1 c2 c3 c4 c5 c6 c7 c8 HH
  go_wp2
  go_loopw [4] (fun i wr => ∃ (k : Nat) (p : Pk), k ≤ xs.length ∧ i = .int .i64 k ∧ Hid (p = headSp x0 (xs.map RV.key) k) ∧ Hid (HW w wr w.heap.size bb p (.slice (some ⟨gd, 0, none⟩) 0 0)) ∧ Hid (wr.heap[gd]? = some (.cells #[] 5 (0, 0)))) (fun i _ => xs.length - (intOf i).toNat)
  case atStart => exact ⟨0, headSp x0 (xs.map RV.key) 0, by omega, rfl, rfl, HW0.out, HD0.out⟩
  case round =>
   obtain ⟨k, p, hk, rfl, HP, HW1, HD1⟩ := hrel
   have B0 := HW1.out.bel
   have hs0 := B0.size
   have hrl := lt_of_block HW1.out.res
   have hbl := lt_of_block HW1.out.box
   have fx : ∀ o, wr.frozen? ⟨bb, o, none⟩ = false := fun o => zUf HW1.out.box o
   have fz : ∀ o, wr.frozen? ⟨w.heap.size, o, none⟩ = false := fun o => zUf HW1.out.res o
   obtain ⟨_, k0, k1, k2, k3, k4, k5, k6, k7, k8⟩ := Boxed.of_block HW1.out.box
   by_cases hlt : k < xs.length
   ·obtain ⟨x, hx⟩ := get_of_lt hlt
    have Lr := HL.out.below B0
    have hgr := Lr.lt
    obtain ⟨c0, c1, c2, c3, c4, c5, c6, c7, c8⟩ := Lr.elem k x hx
    have HN : Hid (headSp x0 (xs.map RV.key) (k + 1) = ⟨p.src, p.dst, p.kind, p.id, leastH p.hops x.key, p.whole || x.p.whole, p.off, p.more⟩) := by
     show headSp x0 (xs.map RV.key) (k + 1) = _
     rw [headSp_succ (map_get hx), ← HP.out]
     rfl
    have hi : (k : Int) < (xs.length : Int) := by omega
    have hgb : g ≠ bb := by omega
    have hgb' : bb ≠ g := by omega
    clear hx Lr
    obtain ⟨s2, d2, n2, i2, h2, w2, o2, m2⟩ := p
    by_cases hlh : x.p.hops < h2
    ·have el : leastH h2 x.key = x.p.hops := if_pos hlh
     have HN' : Hid (headSp x0 (xs.map RV.key) (k + 1) = ⟨s2, d2, n2, i2, x.p.hops, w2 || x.p.whole, o2, m2⟩) := by rw [← el]; exact HN.out
     clear el HN
     cases w2
     all_goals
      go_wp2
      go_quiet (fail)
      go_wp2
      go_roundw
      case rel => exact ⟨k + 1, _, by omega, by go_num, HN'.out.symm, ((HW1.out.draws _).set4 (by omega) (by omega) _).set5 (by omega) (by omega) _, (zHs (Ne.symm hbg)).trans ((zHs (Ne.symm hbg)).trans (((Joins.below_draws wr.heap.size wr _).block _ (lt_of_block HD1.out)).trans HD1.out))⟩
      case measure => simp [intOf]; omega
    ·have el : leastH h2 x.key = h2 := if_neg hlh
     have HN' : Hid (headSp x0 (xs.map RV.key) (k + 1) = ⟨s2, d2, n2, i2, h2, w2 || x.p.whole, o2, m2⟩) := (show _ = _ by rw [HN.out, el])
     clear el HN
     cases w2
     all_goals
      go_wp2
      go_quiet (fail)
      go_wp2
      go_roundw
      case rel => exact ⟨k + 1, _, by omega, by go_num, HN'.out.symm, (HW1.out.draws _).set5 (by omega) (by omega) _, (zHs (Ne.symm hbg)).trans (((Joins.below_draws wr.heap.size wr _).block _ (lt_of_block HD1.out)).trans HD1.out)⟩
      case measure => simp [intOf]; omega
   ·obtain rfl : k = xs.length := by omega
    have HE : Hid (p = headL (xs.map RV.key)) := by
     have h := headSp_all (x0 := x0) (L := xs.map RV.key) (map_get H0.out)
     rw [List.length_map] at h
     show p = _
     rw [HP.out, h]
    obtain ⟨_, z0, z1, z2, z3, z4, z5, z6, z7, z8⟩ := Boxed.of_block HW1.out.res
    have BH : Hid (Below w.heap.size w wr) := B0
    clear B0
    go_wp2
    refine bodyPost_ret (v := .agg #[.int .i64 p.src, .int .i64 p.dst, .int .i64 p.kind, .int .i64 p.id, .int .i64 p.hops, .bool p.whole, .int .i64 p.off, .bool p.more, .slice (some ⟨gd, 0, none⟩) 0 0]) (by simp [results, Tryz.results83, go_sem, z0, z1, z2, z3, z4, z5, z6, z7, z8]) rfl ⟨gd, ?_, by omega, ?_, ?_⟩
    ·rw [← HE.out]
     rfl
    ·exact (heap9 _ _ _ (by omega) _ _ _ _ _ _ _ _ _).trans HD1.out
    ·exact below9 BH.out (Nat.le_refl _) _ _ _ _ _ _ _ _ _
end Go.Proofs.YtjbkgmbakjnlhaaGreatDoor
