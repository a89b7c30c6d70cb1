import Derived.Test.YtjbkgmbakjnlhaaGreatDoorPartBe
import Derived.Test.YtjbkgmbakjnlhaaGreatDoorPartAk
import Derived.Test.YtjbkgmbakjnlhaaGreatDoorPartAo
import Derived.Test.YtjbkgmbakjnlhaaGreatDoorPartAa
namespace Go.Proofs.YtjbkgmbakjnlhaaGreatDoor
set_option maxRecDepth 100000
open Go.RowKit
set_option maxHeartbeats 6400000 in
theorem wfBench_row (now : Int) (g g' cl cl' : Nat) (xs ys : List SV) (w : World) (hL : SL w g xs) (hL' : SL w g' ys) (hk : ys.map SV.key = xs.map SV.key) (hm : xs.length ≤ 1048576) :
  Calls Tryz.prog 9 #[.agg #[.int .i64 now, .slice (some ⟨g, 0, none⟩) xs.length cl], .agg #[.int .i64 now, .slice (some ⟨g', 0, none⟩) xs.length cl']] w fun e w' => e = .returned (.bool true) ∧ Below w.heap.size w w' := by
 have HL : Hid (SL w g xs) := hL
 have HL' : Hid (SL w g' ys) := hL'
 have HK : Hid (ys.map SV.key = xs.map SV.key) := hk
 have hne : ∀ z : Int, (z != z) = false := fun z => by simp
 have hnb : ∀ z : Bool, (z != z) = false := fun z => by simp
 clear hL hL' hk
 go_enter Tryz.func9, Tryz.ntmps9
 go_wp2
 go_loopw [5] (fun i wr => ∃ k : Nat, k ≤ xs.length ∧ i = .int .i64 k ∧ Hid (Below (w.heap.size + 2) ((w.alloc (.cells #[.int .i64 now, .slice (some ⟨g, 0, none⟩) xs.length cl] 27)).alloc (.cells #[.int .i64 now, .slice (some ⟨g', 0, none⟩) xs.length cl'] 27)) wr)) (fun i _ => xs.length - (intOf i).toNat)
 case atStart => exact ⟨0, by omega, rfl, Below.refl _ _⟩
 case round =>
  obtain ⟨k, hk, rfl, HB⟩ := hrel
  have HW : Hid (Below w.heap.size w wr) := (Joins.below_alloc2 _ _ _).trans (HB.out.mono (by omega))
  have hs2 : w.heap.size + 2 ≤ wr.heap.size := by have := HB.out.size; simp at this; omega
  have b0 : wr.heap[w.heap.size]? = some (.cells #[.int .i64 now, .slice (some ⟨g, 0, none⟩) xs.length cl] 27 (0, 0)) := (HB.out.block _ (by omega)).trans ((zHa (by simp)).trans (heap_new _ _ _ rfl))
  have b1 : wr.heap[w.heap.size + 1]? = some (.cells #[.int .i64 now, .slice (some ⟨g', 0, none⟩) xs.length cl'] 27 (0, 0)) := (HB.out.block _ (by omega)).trans (heap_new _ _ _ (by simp))
  have y1 : wr.cell? ⟨w.heap.size, 1, none⟩ = some (.slice (some ⟨g, 0, none⟩) xs.length cl) := zCr b0
  have z1 : wr.cell? ⟨w.heap.size + 1, 1, none⟩ = some (.slice (some ⟨g', 0, none⟩) xs.length cl') := zCr b1
  have hyl : ys.length = xs.length := map_len HK.out
  by_cases hlt : k < xs.length
  ·obtain ⟨x, hx⟩ := get_of_lt hlt
   obtain ⟨y, hy⟩ := get_of_lt (show k < ys.length by omega)
   have hkey : y.key = x.key := by
    have h := congrArg (fun l => l[k]?) HK.out
    simp only [List.getElem?_map, hx, hy, Option.map_some] at h
    exact Option.some.inj h
   have hps : y.xs.map RV.key = x.xs.map RV.key := congrArg Prod.fst hkey
   have hsi : y.since = x.since := congrArg (fun k => k.2.1) hkey
   have hba : y.bad = x.bad := congrArg (fun k => k.2.2) hkey
   have hln : y.xs.length = x.xs.length := map_len hps
   have Lr := HL.out.below HW.out
   have Lr' := HL'.out.below HW.out
   have hi : (k : Int) < (xs.length : Int) := by omega
   obtain ⟨c0, c1, c2⟩ := Lr.elem k x hx
   obtain ⟨d0, d1, d2⟩ := Lr'.elem k y hy
   obtain ⟨gx, hxa, RX⟩ := (Lr.each x (List.mem_of_getElem? hx)).at_
   obtain ⟨gy, hya, RY⟩ := (Lr'.each y (List.mem_of_getElem? hy)).at_
   have hxl := (Lr.each x (List.mem_of_getElem? hx)).len
   rw [hxa] at c0
   rw [hya, hln] at d0
   rw [hsi] at d1
   rw [hba] at d2
   have hgr := Lr.lt
   have hgr' := Lr'.lt
   have KE : Hid (∀ W : World, Below wr.heap.size wr W → Calls Tryz.prog 31 #[.slice (some ⟨gx, 0, none⟩) x.xs.length x.c, .slice (some ⟨gy, 0, none⟩) x.xs.length y.c] W fun e w' => e = .returned (.bool true) ∧ Below W.heap.size W w') := fun W hW => wfList_same gx gy x.c y.c x.xs y.xs W (RX.below hW) (RY.below hW) hps hxl
   obtain ⟨nx, hnx⟩ : ∃ nx, x.xs.length = nx := ⟨_, rfl⟩
   rw [hnx] at c0 d0 KE
   clear hx hy Lr Lr' hkey hps hsi hba hln hnx RX RY hxl hxa hya b0 b1
   go_upto_region 6 with fail
   have SK : Hid (∀ u : World, Below wr.heap.size wr u → (fun u => u.cell? ⟨w.heap.size, 1, none⟩ = some (.slice (some ⟨g, 0, none⟩) xs.length cl) ∧ u.cell? ⟨w.heap.size + 1, 1, none⟩ = some (.slice (some ⟨g', 0, none⟩) xs.length cl') ∧ u.cell? ⟨g, k * 3, none⟩ = some (.slice (some ⟨gx, 0, none⟩) nx x.c) ∧ u.cell? ⟨g, k * 3 + 1, none⟩ = some (.int .i64 x.since) ∧ u.cell? ⟨g, k * 3 + 2, none⟩ = some (.bool x.bad) ∧ u.cell? ⟨g', k * 3, none⟩ = some (.slice (some ⟨gy, 0, none⟩) nx y.c) ∧ u.cell? ⟨g', k * 3 + 1, none⟩ = some (.int .i64 x.since) ∧ u.cell? ⟨g', k * 3 + 2, none⟩ = some (.bool x.bad)) u) := fun u hu => by
    have e : ∀ b o, b < wr.heap.size → u.cell? ⟨b, o, none⟩ = wr.cell? ⟨b, o, none⟩ := fun b o hb => hu.cell (p := ⟨b, o, none⟩) hb
    exact ⟨(e _ _ (by omega)).trans y1, (e _ _ (by omega)).trans z1, (e _ _ hgr).trans c0, (e _ _ hgr).trans c1, (e _ _ hgr).trans c2, (e _ _ hgr').trans d0, (e _ _ hgr').trans d1, (e _ _ hgr').trans d2⟩
   refine wp_region_held_drew (S := fun u => u.cell? ⟨w.heap.size, 1, none⟩ = some (.slice (some ⟨g, 0, none⟩) xs.length cl) ∧ u.cell? ⟨w.heap.size + 1, 1, none⟩ = some (.slice (some ⟨g', 0, none⟩) xs.length cl') ∧ u.cell? ⟨g, k * 3, none⟩ = some (.slice (some ⟨gx, 0, none⟩) nx x.c) ∧ u.cell? ⟨g, k * 3 + 1, none⟩ = some (.int .i64 x.since) ∧ u.cell? ⟨g, k * 3 + 2, none⟩ = some (.bool x.bad) ∧ u.cell? ⟨g', k * 3, none⟩ = some (.slice (some ⟨gy, 0, none⟩) nx y.c) ∧ u.cell? ⟨g', k * 3 + 1, none⟩ = some (.int .i64 x.since) ∧ u.cell? ⟨g', k * 3 + 2, none⟩ = some (.bool x.bad)) (by kernel_rfl) (SK.out _ ((Below.refl _ wr).drew)) (fun hH => ?_)
   refine zTk 0 27 (.pointer (some ⟨w.heap.size, 1, none⟩)) rfl (fun w hS => by go_simp) hH ?_; simp only [Act.put, zA, zB, zC]
   refine zTk 1 28 (.slice (some ⟨g, 0, none⟩) xs.length cl) rfl (fun w hS => by obtain ⟨s0, s1, s2, s3, s4, s5, s6, s7⟩ := hS; go_simp) hH ?_; simp only [Act.put, zA, zB, zC]
   refine zTk 2 29 (.int .i64 k) rfl (fun w hS => by go_simp) hH ?_; simp only [Act.put, zA, zB, zC]
   refine zTk 3 30 (.pointer (some ⟨g, k * 3, none⟩)) rfl (fun w hS => by go_simp) hH ?_; simp only [Act.put, zA, zB, zC]
   refine zTk 4 31 (.pointer (some ⟨g, k * 3 + 1, none⟩)) rfl (fun w hS => by go_simp) hH ?_; simp only [Act.put, zA, zB, zC]
   refine zTk 5 32 (.int .i64 x.since) rfl (fun w hS => by obtain ⟨s0, s1, s2, s3, s4, s5, s6, s7⟩ := hS; go_simp) hH ?_; simp only [Act.put, zA, zB, zC]
   refine zTk 6 33 (.pointer (some ⟨w.heap.size + 1, 1, none⟩)) rfl (fun w hS => by go_simp) hH ?_; simp only [Act.put, zA, zB, zC]
   refine zTk 7 34 (.slice (some ⟨g', 0, none⟩) xs.length cl') rfl (fun w hS => by obtain ⟨s0, s1, s2, s3, s4, s5, s6, s7⟩ := hS; go_simp) hH ?_; simp only [Act.put, zA, zB, zC]
   refine zTk 8 35 (.int .i64 k) rfl (fun w hS => by go_simp) hH ?_; simp only [Act.put, zA, zB, zC]
   refine zTk 9 36 (.pointer (some ⟨g', k * 3, none⟩)) rfl (fun w hS => by go_simp) hH ?_; simp only [Act.put, zA, zB, zC]
   refine zTk 10 37 (.pointer (some ⟨g', k * 3 + 1, none⟩)) rfl (fun w hS => by go_simp) hH ?_; simp only [Act.put, zA, zB, zC]
   refine zTk 11 38 (.int .i64 x.since) rfl (fun w hS => by obtain ⟨s0, s1, s2, s3, s4, s5, s6, s7⟩ := hS; go_simp) hH ?_; simp only [Act.put, zA, zB, zC]
   refine zTk 12 39 (.bool false) rfl (fun w hS => by go_simp) hH ?_; simp only [Act.put, zA, zB, zC]
   refine zTk 13 40 (.bool false) rfl (fun w hS => by go_simp) hH ?_; simp only [Act.put, zA, zB, zC]
   refine zTk 14 41 (.pointer (some ⟨w.heap.size, 1, none⟩)) rfl (fun w hS => by go_simp) hH ?_; simp only [Act.put, zA, zB, zC]
   refine zTk 15 42 (.slice (some ⟨g, 0, none⟩) xs.length cl) rfl (fun w hS => by obtain ⟨s0, s1, s2, s3, s4, s5, s6, s7⟩ := hS; go_simp) hH ?_; simp only [Act.put, zA, zB, zC]
   refine zTk 16 43 (.int .i64 k) rfl (fun w hS => by go_simp) hH ?_; simp only [Act.put, zA, zB, zC]
   refine zTk 17 44 (.pointer (some ⟨g, k * 3, none⟩)) rfl (fun w hS => by go_simp) hH ?_; simp only [Act.put, zA, zB, zC]
   refine zTk 18 45 (.pointer (some ⟨g, k * 3 + 2, none⟩)) rfl (fun w hS => by go_simp) hH ?_; simp only [Act.put, zA, zB, zC]
   refine zTk 19 46 (.bool x.bad) rfl (fun w hS => by obtain ⟨s0, s1, s2, s3, s4, s5, s6, s7⟩ := hS; go_simp) hH ?_; simp only [Act.put, zA, zB, zC]
   refine zTk 20 47 (.pointer (some ⟨w.heap.size + 1, 1, none⟩)) rfl (fun w hS => by go_simp) hH ?_; simp only [Act.put, zA, zB, zC]
   refine zTk 21 48 (.slice (some ⟨g', 0, none⟩) xs.length cl') rfl (fun w hS => by obtain ⟨s0, s1, s2, s3, s4, s5, s6, s7⟩ := hS; go_simp) hH ?_; simp only [Act.put, zA, zB, zC]
   refine zTk 22 49 (.int .i64 k) rfl (fun w hS => by go_simp) hH ?_; simp only [Act.put, zA, zB, zC]
   refine zTk 23 50 (.pointer (some ⟨g', k * 3, none⟩)) rfl (fun w hS => by go_simp) hH ?_; simp only [Act.put, zA, zB, zC]
   refine zTk 24 51 (.pointer (some ⟨g', k * 3 + 2, none⟩)) rfl (fun w hS => by go_simp) hH ?_; simp only [Act.put, zA, zB, zC]
   refine zTk 25 52 (.bool x.bad) rfl (fun w hS => by obtain ⟨s0, s1, s2, s3, s4, s5, s6, s7⟩ := hS; go_simp) hH ?_; simp only [Act.put, zA, zB, zC]
   refine zTk 26 53 (.bool false) rfl (fun w hS => by go_simp) hH ?_; simp only [Act.put, zA, zB, zC]
   refine zTk 27 54 (.bool false) rfl (fun w hS => by go_simp) hH ?_; simp only [Act.put, zA, zB, zC]
   refine zTk 28 55 (.bool false) rfl (fun w hS => by go_simp) hH ?_; simp only [Act.put, zA, zB, zC]
   refine zTk 29 56 (.pointer (some ⟨w.heap.size, 1, none⟩)) rfl (fun w hS => by go_simp) hH ?_; simp only [Act.put, zA, zB, zC]
   refine zTk 30 57 (.slice (some ⟨g, 0, none⟩) xs.length cl) rfl (fun w hS => by obtain ⟨s0, s1, s2, s3, s4, s5, s6, s7⟩ := hS; go_simp) hH ?_; simp only [Act.put, zA, zB, zC]
   refine zTk 31 58 (.int .i64 k) rfl (fun w hS => by go_simp) hH ?_; simp only [Act.put, zA, zB, zC]
   refine zTk 32 59 (.pointer (some ⟨g, k * 3, none⟩)) rfl (fun w hS => by go_simp) hH ?_; simp only [Act.put, zA, zB, zC]
   refine zTk 33 60 (.pointer (some ⟨g, k * 3, none⟩)) rfl (fun w hS => by go_simp) hH ?_; simp only [Act.put, zA, zB, zC]
   refine zTk 34 61 (.slice (some ⟨gx, 0, none⟩) nx x.c) rfl (fun w hS => by obtain ⟨s0, s1, s2, s3, s4, s5, s6, s7⟩ := hS; go_simp) hH ?_; simp only [Act.put, zA, zB, zC]
   refine zTk 35 62 (.pointer (some ⟨w.heap.size + 1, 1, none⟩)) rfl (fun w hS => by go_simp) hH ?_; simp only [Act.put, zA, zB, zC]
   refine zTk 36 63 (.slice (some ⟨g', 0, none⟩) xs.length cl') rfl (fun w hS => by obtain ⟨s0, s1, s2, s3, s4, s5, s6, s7⟩ := hS; go_simp) hH ?_; simp only [Act.put, zA, zB, zC]
   refine zTk 37 64 (.int .i64 k) rfl (fun w hS => by go_simp) hH ?_; simp only [Act.put, zA, zB, zC]
   refine zTk 38 65 (.pointer (some ⟨g', k * 3, none⟩)) rfl (fun w hS => by go_simp) hH ?_; simp only [Act.put, zA, zB, zC]
   refine zTk 39 66 (.pointer (some ⟨g', k * 3, none⟩)) rfl (fun w hS => by go_simp) hH ?_; simp only [Act.put, zA, zB, zC]
   refine zTk 40 67 (.slice (some ⟨gy, 0, none⟩) nx y.c) rfl (fun w hS => by obtain ⟨s0, s1, s2, s3, s4, s5, s6, s7⟩ := hS; go_simp) hH ?_; simp only [Act.put, zA, zB, zC]
   refine zRd 41 (by kernel_rfl) rfl (fun K hK => ?_)
   go_simp
   (with_reducible refine (KE.out _ ((Below.refl _ wr).drew)).mono ?_)
   rintro e w1 ⟨rfl, b1'⟩
   have b1 : Below wr.heap.size wr w1 := ((Below.refl _ wr).drew).trans b1'
   go_simp
   refine hK.out _ _ (SK.out _ b1) (fun hH => ?_)
   clear hK K b1'
   (first | (simp only [Act.put, zA, zB, zC]) | skip)
   refine zTk 42 69 (.bool false) rfl (fun w hS => by go_simp) hH ?_; simp only [Act.put, zA, zB, zC]
   refine zTk 43 70 (.bool false) rfl (fun w hS => by go_simp) hH ?_; simp only [Act.put, zA, zB, zC]
   refine wpAnyH_done (by kernel_rfl) ?_ _
   clear hH SK y1 z1 c0 c1 c2 d0 d1 d2 KE
   go_wp2
   go_roundw
   case rel => exact ⟨k + 1, by omega, by go_num, HB.out.trans (b1.mono (by omega))⟩
   case measure => simp [intOf]; omega
  ·go_wp2
   go_ret
   exact ⟨rfl, HW.out⟩
set_option maxHeartbeats 3200000 in
theorem wfBench_nil (now : Int) (oa oa' : Option Addr) (cl cl' : Nat) (w : World) :
  Calls Tryz.prog 9 #[.agg #[.int .i64 now, .slice oa 0 cl], .agg #[.int .i64 now, .slice oa' 0 cl']] w fun e w' => e = .returned (.bool true) ∧ Below w.heap.size w w' := by
 have hne : ∀ z : Int, (z != z) = false := fun z => by simp
 go_enter Tryz.func9, Tryz.ntmps9
 go_wp2
 go_loopw [5] (fun i wr => i = .int .i64 0 ∧ Hid (Below (w.heap.size + 2) ((w.alloc (.cells #[.int .i64 now, .slice oa 0 cl] 27)).alloc (.cells #[.int .i64 now, .slice oa' 0 cl'] 27)) wr)) (fun _ _ => 0)
 case atStart => exact ⟨rfl, Below.refl _ _⟩
 case round =>
  obtain ⟨rfl, HB⟩ := hrel
  have HW : Hid (Below w.heap.size w wr) := (Joins.below_alloc2 _ _ _).trans (HB.out.mono (by omega))
  have hs2 : w.heap.size + 2 ≤ wr.heap.size := by have := HB.out.size; simp at this; omega
  have b0 : wr.heap[w.heap.size]? = some (.cells #[.int .i64 now, .slice oa 0 cl] 27 (0, 0)) := (HB.out.block _ (by omega)).trans ((zHa (by simp)).trans (heap_new _ _ _ rfl))
  have y1 : wr.cell? ⟨w.heap.size, 1, none⟩ = some (.slice oa 0 cl) := zCr b0
  go_wp2
  go_ret
  exact ⟨rfl, HW.out⟩
theorem wfBench_q (now : Int) (oa oa' : Option Addr) (cl cl' : Nat) (xs ys : List SV) (w : World) (hL : SLq w oa xs) (hL' : SLq w oa' ys) (hk : ys.map SV.key = xs.map SV.key) (hm : xs.length ≤ 1048576) :
  Calls Tryz.prog 9 #[.agg #[.int .i64 now, .slice oa xs.length cl], .agg #[.int .i64 now, .slice oa' ys.length cl']] w fun e w' => e = .returned (.bool true) ∧ Below w.heap.size w w' := by
 have hl : ys.length = xs.length := map_len hk
 rw [hl]
 rcases hL with rfl | ⟨g, rfl, h1⟩
 ·exact wfBench_nil now oa oa' cl cl' w
 ·rcases hL' with rfl | ⟨g', rfl, h2⟩
  ·have e : xs = [] := List.length_eq_zero_iff.1 hl.symm
   subst e
   exact wfBench_nil now _ oa' cl cl' w
  ·exact wfBench_row now g g' cl cl' xs ys w h1 h2 hk hm
theorem forget_step {now0 now now' c : Int} {ss ts : List SV} {ks : List SK} (h : TickP now ss now' ks c) (hb : benchOk now ss) (hk : ts.map SV.key = ks) (hs : ∀ s ∈ ss, s.since ≤ now0) : benchOk now' ts ∧ (∀ t ∈ ts, t.since ≤ now0) ∧ ((now = 1000000 ∧ now' = 1000000) ∨ (now < 1000000 ∧ now' = now + 1)) := by
 have h1 := hb.1
 rcases h with ⟨hn, _⟩ | ⟨_, e, rfl, rfl, _⟩ | ⟨_, hne, rfl, rfl, _⟩
 ·exact absurd hb hn
 ·refine ⟨(benchOk_iff hk).2 hb, fun t ht => ?_, Or.inl ⟨e, e⟩⟩
  have hm : t.key ∈ ss.map SV.key := by rw [← hk]; exact List.mem_map.2 ⟨t, ht, rfl⟩
  obtain ⟨s, hs1, hs2⟩ := List.mem_map.1 hm
  have h3 : t.since = s.since := (congrArg (fun k => k.2.1) hs2).symm
  rw [h3]
  exact hs s hs1
 ·obtain ⟨h2, h3⟩ := tick_ok hb hne hk
  refine ⟨h2, fun t ht => ?_, Or.inr ⟨by omega, rfl⟩⟩
  obtain ⟨s, hs1, hs2⟩ := h3 t ht
  rw [hs2]
  exact hs s hs1
theorem take_empty {now c : Int} {x y : PB} {ks : List SK} (h : takeK now [] x = (ks, y, c)) : (c = 2 ∧ okB x.1 x.2.length = false) ∨ (c = 0 ∧ x.1.off = 0 ∧ x.1.more = false) ∨ c = 3 := by
 unfold takeK at h
 split at h
 ·split at h
  ·rename_i h2
   exact Or.inr (Or.inl ⟨(congrArg (fun t => t.2.2) h).symm, h2⟩)
  ·rw [piece_none (fun s hs => by cases hs)] at h
   exact Or.inr (Or.inr (congrArg (fun t => t.2.2) h).symm)
 ·rename_i h2
  exact Or.inl ⟨(congrArg (fun t => t.2.2) h).symm, by simpa using h2⟩
end Go.Proofs.YtjbkgmbakjnlhaaGreatDoor
