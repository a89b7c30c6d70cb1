import Derived.Test.YtjbkgmbakjnlhaaGreatDoorPartBa
import Derived.Test.YtjbkgmbakjnlhaaGreatDoorPartAb
import Derived.Deep.RegionHeld3
import Derived.Test.YtjbkgmbakjnlhaaGreatDoorPartAk
import Derived.Test.YtjbkgmbakjnlhaaGreatDoorPartAo
import Derived.Test.YtjbkgmbakjnlhaaGreatDoorPartAa
import Derived.Test.YtjbkgmbakjnlhaaGreatDoorPartBe
namespace Go.Proofs.YtjbkgmbakjnlhaaGreatDoor
set_option maxRecDepth 100000
open Go.RowKit
set_option maxHeartbeats 6400000 in
theorem wfList_same (g g' cl cl' : Nat) (xs ys : List RV) (w : World) (hL : RL w g xs) (hL' : RL w g' ys) (hk : ys.map RV.key = xs.map RV.key) (hm : xs.length ≤ 1048576) :
  Calls Tryz.prog 31 #[.slice (some ⟨g, 0, none⟩) xs.length cl, .slice (some ⟨g', 0, none⟩) xs.length cl'] w fun e w' => e = .returned (.bool true) ∧ Below w.heap.size w w' := by
 have HL : Hid (RL w g xs) := hL
 have HL' : Hid (RL w g' ys) := hL'
 have HK : Hid (ys.map RV.key = xs.map RV.key) := hk
 have hne : ((xs.length : Int) != (xs.length : Int)) = false := by simp
 clear hL hL' hk
 go_enter Tryz.func31, Tryz.ntmps31
 go_wp2
 go_loopw [5] (fun i wr => ∃ k : Nat, k ≤ xs.length ∧ i = .int .i64 k ∧ Hid (Below w.heap.size w wr)) (fun i _ => xs.length - (intOf i).toNat)
 case atStart => exact ⟨0, by omega, rfl, Below.refl _ _⟩
 case round =>
  obtain ⟨k, hk, rfl, HB⟩ := hrel
  have hsz := HB.out.size
  by_cases hlt : k < xs.length
  ·obtain ⟨x, hx⟩ := get_of_lt hlt
   have hyl : ys.length = xs.length := by have := congrArg List.length HK.out; simpa using this
   obtain ⟨y, hy⟩ := get_of_lt (show k < ys.length by omega)
   have hkey : y.key = x.key := by
    have h := congrArg (fun l => l[k]?) HK.out
    simp only [List.getElem?_map, hx, hy, Option.map_some] at h
    exact Option.some.inj h
   have hp : y.p = x.p := congrArg Prod.fst hkey
   have hz : y.zs = x.zs := congrArg Prod.snd hkey
   have Lr := HL.out.below HB.out
   have Lr' := HL'.out.below HB.out
   have hi : (k : Int) < (xs.length : Int) := by omega
   obtain ⟨c0, c1, c2, c3, c4, c5, c6, c7, c8⟩ := Lr.elem k x hx
   have Ey := Lr'.elem k y hy
   have RX : Hid (ROk wr x) := Lr.each x (List.mem_of_getElem? hx)
   have RY := (Lr'.each y (List.mem_of_getElem? hy)).rd
   rw [hz] at RY
   have RYH : Hid (RdB wr y.a x.zs.length x.zs) := RY
   obtain ⟨k0, k1, k2, k3, k4, k5, k6, k7, k8⟩ := Ey
   rw [hp] at k0 k1 k2 k3 k4 k5 k6 k7
   rw [hz] at k8
   have hgr := Lr.lt
   have hgr' := Lr'.lt
   have KE : Hid (∀ W : World, Below wr.heap.size wr W → Calls Tryz.prog 12 #[.agg #[.int .i64 x.p.src, .int .i64 x.p.dst, .int .i64 x.p.kind, .int .i64 x.p.id, .int .i64 x.p.hops, .bool x.p.whole, .int .i64 x.p.off, .bool x.p.more, .slice x.a x.zs.length x.c], .agg #[.int .i64 x.p.src, .int .i64 x.p.dst, .int .i64 x.p.kind, .int .i64 x.p.id, .int .i64 x.p.hops, .bool x.p.whole, .int .i64 x.p.off, .bool x.p.more, .slice y.a x.zs.length y.c]] W fun e w' => e = .returned (.bool true) ∧ Below W.heap.size W w') := fun W h => wfSame_same x.p x.a y.a x.zs.length x.c y.c x.zs W (RX.out.rd.below h) (RYH.out.below h) RX.out.len
   clear hx hy Lr Lr' RY hkey hp hz
   go_wp2
   go_region_held3 (fun w' => w'.cell? ⟨g, k * 9, none⟩ = some (.int .i64 x.p.src) ∧ w'.cell? ⟨g, k * 9 + 1, none⟩ = some (.int .i64 x.p.dst) ∧ w'.cell? ⟨g, k * 9 + 2, none⟩ = some (.int .i64 x.p.kind) ∧ w'.cell? ⟨g, k * 9 + 3, none⟩ = some (.int .i64 x.p.id) ∧ w'.cell? ⟨g, k * 9 + 4, none⟩ = some (.int .i64 x.p.hops) ∧ w'.cell? ⟨g, k * 9 + 5, none⟩ = some (.bool x.p.whole) ∧ w'.cell? ⟨g, k * 9 + 6, none⟩ = some (.int .i64 x.p.off) ∧ w'.cell? ⟨g, k * 9 + 7, none⟩ = some (.bool x.p.more) ∧ w'.cell? ⟨g, k * 9 + 8, none⟩ = some (.slice x.a x.zs.length x.c) ∧ w'.cell? ⟨g', k * 9, none⟩ = some (.int .i64 x.p.src) ∧ w'.cell? ⟨g', k * 9 + 1, none⟩ = some (.int .i64 x.p.dst) ∧ w'.cell? ⟨g', k * 9 + 2, none⟩ = some (.int .i64 x.p.kind) ∧ w'.cell? ⟨g', k * 9 + 3, none⟩ = some (.int .i64 x.p.id) ∧ w'.cell? ⟨g', k * 9 + 4, none⟩ = some (.int .i64 x.p.hops) ∧ w'.cell? ⟨g', k * 9 + 5, none⟩ = some (.bool x.p.whole) ∧ w'.cell? ⟨g', k * 9 + 6, none⟩ = some (.int .i64 x.p.off) ∧ w'.cell? ⟨g', k * 9 + 7, none⟩ = some (.bool x.p.more) ∧ w'.cell? ⟨g', k * 9 + 8, none⟩ = some (.slice y.a x.zs.length y.c)) (go_keep)
    (first
     | (go_at_call 12; (with_reducible refine (KE.out _ (draw1 _)).mono ?_); rintro e w1 ⟨rfl, b1⟩; have hc1 : ∀ b o, b < wr.heap.size → w1.cell? ⟨b, o, none⟩ = wr.cell? ⟨b, o, none⟩ := fun b o h => b1.cell (p := ⟨b, o, none⟩) h))
   go_wp2
   go_roundw
   case rel => exact ⟨k + 1, by omega, by go_num, HB.out.drew.trans (b1.mono hsz)⟩
   case measure => simp [intOf]; omega
  ·go_wp2
   go_ret
   exact ⟨rfl, HB.out⟩
set_option maxHeartbeats 6400000 in
theorem wfBench_row (now : Int) (g g' cl cl' : Nat) (xs ys : List SV) (w : World) (hL : SL w g xs) (hL' : SL w g' ys) (hk : ys.map SV.key = xs.map SV.key) (hm : xs.length ≤ 1048576) :
  Calls Tryz.prog 9 #[.agg #[.int .i64 now, .slice (some ⟨g, 0, none⟩) xs.length cl], .agg #[.int .i64 now, .slice (some ⟨g', 0, none⟩) xs.length cl']] w fun e w' => e = .returned (.bool true) ∧ Below w.heap.size w w' := by
 have HL : Hid (SL w g xs) := hL
 have HL' : Hid (SL w g' ys) := hL'
 have HK : Hid (ys.map SV.key = xs.map SV.key) := hk
 have hne : ∀ z : Int, (z != z) = false := fun z => by simp
 have hnb : ∀ z : Bool, (z != z) = false := fun z => by simp
 clear hL hL' hk
 go_enter Tryz.func9, Tryz.ntmps9
 go_wp2
 go_loopw [5] (fun i wr => ∃ k : Nat, k ≤ xs.length ∧ i = .int .i64 k ∧ Hid (Below (w.heap.size + 2) ((w.alloc (.cells #[.int .i64 now, .slice (some ⟨g, 0, none⟩) xs.length cl] 27)).alloc (.cells #[.int .i64 now, .slice (some ⟨g', 0, none⟩) xs.length cl'] 27)) wr)) (fun i _ => xs.length - (intOf i).toNat)
 case atStart => exact ⟨0, by omega, rfl, Below.refl _ _⟩
 case round =>
  obtain ⟨k, hk, rfl, HB⟩ := hrel
  have HW : Hid (Below w.heap.size w wr) := (Joins.below_alloc2 _ _ _).trans (HB.out.mono (by omega))
  have hs2 : w.heap.size + 2 ≤ wr.heap.size := by have := HB.out.size; simp at this; omega
  have b0 : wr.heap[w.heap.size]? = some (.cells #[.int .i64 now, .slice (some ⟨g, 0, none⟩) xs.length cl] 27 (0, 0)) := (HB.out.block _ (by omega)).trans ((zHa (by simp)).trans (heap_new _ _ _ rfl))
  have b1 : wr.heap[w.heap.size + 1]? = some (.cells #[.int .i64 now, .slice (some ⟨g', 0, none⟩) xs.length cl'] 27 (0, 0)) := (HB.out.block _ (by omega)).trans (heap_new _ _ _ (by simp))
  have y1 : wr.cell? ⟨w.heap.size, 1, none⟩ = some (.slice (some ⟨g, 0, none⟩) xs.length cl) := zCr b0
  have z1 : wr.cell? ⟨w.heap.size + 1, 1, none⟩ = some (.slice (some ⟨g', 0, none⟩) xs.length cl') := zCr b1
  have hyl : ys.length = xs.length := map_len HK.out
  by_cases hlt : k < xs.length
  ·obtain ⟨x, hx⟩ := get_of_lt hlt
   obtain ⟨y, hy⟩ := get_of_lt (show k < ys.length by omega)
   have hkey : y.key = x.key := by
    have h := congrArg (fun l => l[k]?) HK.out
    simp only [List.getElem?_map, hx, hy, Option.map_some] at h
    exact Option.some.inj h
   have hps : y.xs.map RV.key = x.xs.map RV.key := congrArg Prod.fst hkey
   have hsi : y.since = x.since := congrArg (fun k => k.2.1) hkey
   have hba : y.bad = x.bad := congrArg (fun k => k.2.2) hkey
   have hln : y.xs.length = x.xs.length := map_len hps
   have Lr := HL.out.below HW.out
   have Lr' := HL'.out.below HW.out
   have hi : (k : Int) < (xs.length : Int) := by omega
   obtain ⟨c0, c1, c2⟩ := Lr.elem k x hx
   obtain ⟨d0, d1, d2⟩ := Lr'.elem k y hy
   obtain ⟨gx, hxa, RX⟩ := (Lr.each x (List.mem_of_getElem? hx)).at_
   obtain ⟨gy, hya, RY⟩ := (Lr'.each y (List.mem_of_getElem? hy)).at_
   have hxl := (Lr.each x (List.mem_of_getElem? hx)).len
   rw [hxa] at c0
   rw [hya, hln] at d0
   rw [hsi] at d1
   rw [hba] at d2
   have hgr := Lr.lt
   have hgr' := Lr'.lt
   have KE : Hid (∀ W : World, Below wr.heap.size wr W → Calls Tryz.prog 31 #[.slice (some ⟨gx, 0, none⟩) x.xs.length x.c, .slice (some ⟨gy, 0, none⟩) x.xs.length y.c] W fun e w' => e = .returned (.bool true) ∧ Below W.heap.size W w') := fun W hW => wfList_same gx gy x.c y.c x.xs y.xs W (RX.below hW) (RY.below hW) hps hxl
   obtain ⟨nx, hnx⟩ : ∃ nx, x.xs.length = nx := ⟨_, rfl⟩
   rw [hnx] at c0 d0 KE
   clear hx hy Lr Lr' hkey hps hsi hba hln hnx RX RY hxl hxa hya b0 b1
   go_upto_region 6 with fail
   have SK : Hid (∀ u : World, Below wr.heap.size wr u → (fun u => u.cell? ⟨w.heap.size, 1, none⟩ = some (.slice (some ⟨g, 0, none⟩) xs.length cl) ∧ u.cell? ⟨w.heap.size + 1, 1, none⟩ = some (.slice (some ⟨g', 0, none⟩) xs.length cl') ∧ u.cell? ⟨g, k * 3, none⟩ = some (.slice (some ⟨gx, 0, none⟩) nx x.c) ∧ u.cell? ⟨g, k * 3 + 1, none⟩ = some (.int .i64 x.since) ∧ u.cell? ⟨g, k * 3 + 2, none⟩ = some (.bool x.bad) ∧ u.cell? ⟨g', k * 3, none⟩ = some (.slice (some ⟨gy, 0, none⟩) nx y.c) ∧ u.cell? ⟨g', k * 3 + 1, none⟩ = some (.int .i64 x.since) ∧ u.cell? ⟨g', k * 3 + 2, none⟩ = some (.bool x.bad)) u) := fun u hu => by
    have e : ∀ b o, b < wr.heap.size → u.cell? ⟨b, o, none⟩ = wr.cell? ⟨b, o, none⟩ := fun b o hb => hu.cell (p := ⟨b, o, none⟩) hb
    exact ⟨(e _ _ (by omega)).trans y1, (e _ _ (by omega)).trans z1, (e _ _ hgr).trans c0, (e _ _ hgr).trans c1, (e _ _ hgr).trans c2, (e _ _ hgr').trans d0, (e _ _ hgr').trans d1, (e _ _ hgr').trans d2⟩
   refine wp_region_held_drew (S := fun u => u.cell? ⟨w.heap.size, 1, none⟩ = some (.slice (some ⟨g, 0, none⟩) xs.length cl) ∧ u.cell? ⟨w.heap.size + 1, 1, none⟩ = some (.slice (some ⟨g', 0, none⟩) xs.length cl') ∧ u.cell? ⟨g, k * 3, none⟩ = some (.slice (some ⟨gx, 0, none⟩) nx x.c) ∧ u.cell? ⟨g, k * 3 + 1, none⟩ = some (.int .i64 x.since) ∧ u.cell? ⟨g, k * 3 + 2, none⟩ = some (.bool x.bad) ∧ u.cell? ⟨g', k * 3, none⟩ = some (.slice (some ⟨gy, 0, none⟩) nx y.c) ∧ u.cell? ⟨g', k * 3 + 1, none⟩ = some (.int .i64 x.since) ∧ u.cell? ⟨g', k * 3 + 2, none⟩ = some (.bool x.bad)) (by kernel_rfl) (SK.out _ ((Below.refl _ wr).drew)) (fun hH => ?_)
   refine zTk 0 27 (.pointer (some ⟨w.heap.size, 1, none⟩)) rfl (fun w hS => by go_simp) hH ?_; simp only [Act.put, zX, zY, zZ]
   refine zTk 1 28 (.slice (some ⟨g, 0, none⟩) xs.length cl) rfl (fun w hS => by obtain ⟨s0, s1, s2, s3, s4, s5, s6, s7⟩ := hS; go_simp) hH ?_; simp only [Act.put, zX, zY, zZ]
   refine zTk 2 29 (.int .i64 k) rfl (fun w hS => by go_simp) hH ?_; simp only [Act.put, zX, zY, zZ]
   refine zTk 3 30 (.pointer (some ⟨g, k * 3, none⟩)) rfl (fun w hS => by go_simp) hH ?_; simp only [Act.put, zX, zY, zZ]
   refine zTk 4 31 (.pointer (some ⟨g, k * 3 + 1, none⟩)) rfl (fun w hS => by go_simp) hH ?_; simp only [Act.put, zX, zY, zZ]
   refine zTk 5 32 (.int .i64 x.since) rfl (fun w hS => by obtain ⟨s0, s1, s2, s3, s4, s5, s6, s7⟩ := hS; go_simp) hH ?_; simp only [Act.put, zX, zY, zZ]
   refine zTk 6 33 (.pointer (some ⟨w.heap.size + 1, 1, none⟩)) rfl (fun w hS => by go_simp) hH ?_; simp only [Act.put, zX, zY, zZ]
   refine zTk 7 34 (.slice (some ⟨g', 0, none⟩) xs.length cl') rfl (fun w hS => by obtain ⟨s0, s1, s2, s3, s4, s5, s6, s7⟩ := hS; go_simp) hH ?_; simp only [Act.put, zX, zY, zZ]
   refine zTk 8 35 (.int .i64 k) rfl (fun w hS => by go_simp) hH ?_; simp only [Act.put, zX, zY, zZ]
   refine zTk 9 36 (.pointer (some ⟨g', k * 3, none⟩)) rfl (fun w hS => by go_simp) hH ?_; simp only [Act.put, zX, zY, zZ]
   refine zTk 10 37 (.pointer (some ⟨g', k * 3 + 1, none⟩)) rfl (fun w hS => by go_simp) hH ?_; simp only [Act.put, zX, zY, zZ]
   refine zTk 11 38 (.int .i64 x.since) rfl (fun w hS => by obtain ⟨s0, s1, s2, s3, s4, s5, s6, s7⟩ := hS; go_simp) hH ?_; simp only [Act.put, zX, zY, zZ]
   refine zTk 12 39 (.bool false) rfl (fun w hS => by go_simp) hH ?_; simp only [Act.put, zX, zY, zZ]
   refine zTk 13 40 (.bool false) rfl (fun w hS => by go_simp) hH ?_; simp only [Act.put, zX, zY, zZ]
   refine zTk 14 41 (.pointer (some ⟨w.heap.size, 1, none⟩)) rfl (fun w hS => by go_simp) hH ?_; simp only [Act.put, zX, zY, zZ]
   refine zTk 15 42 (.slice (some ⟨g, 0, none⟩) xs.length cl) rfl (fun w hS => by obtain ⟨s0, s1, s2, s3, s4, s5, s6, s7⟩ := hS; go_simp) hH ?_; simp only [Act.put, zX, zY, zZ]
   refine zTk 16 43 (.int .i64 k) rfl (fun w hS => by go_simp) hH ?_; simp only [Act.put, zX, zY, zZ]
   refine zTk 17 44 (.pointer (some ⟨g, k * 3, none⟩)) rfl (fun w hS => by go_simp) hH ?_; simp only [Act.put, zX, zY, zZ]
   refine zTk 18 45 (.pointer (some ⟨g, k * 3 + 2, none⟩)) rfl (fun w hS => by go_simp) hH ?_; simp only [Act.put, zX, zY, zZ]
   refine zTk 19 46 (.bool x.bad) rfl (fun w hS => by obtain ⟨s0, s1, s2, s3, s4, s5, s6, s7⟩ := hS; go_simp) hH ?_; simp only [Act.put, zX, zY, zZ]
   refine zTk 20 47 (.pointer (some ⟨w.heap.size + 1, 1, none⟩)) rfl (fun w hS => by go_simp) hH ?_; simp only [Act.put, zX, zY, zZ]
   refine zTk 21 48 (.slice (some ⟨g', 0, none⟩) xs.length cl') rfl (fun w hS => by obtain ⟨s0, s1, s2, s3, s4, s5, s6, s7⟩ := hS; go_simp) hH ?_; simp only [Act.put, zX, zY, zZ]
   refine zTk 22 49 (.int .i64 k) rfl (fun w hS => by go_simp) hH ?_; simp only [Act.put, zX, zY, zZ]
   refine zTk 23 50 (.pointer (some ⟨g', k * 3, none⟩)) rfl (fun w hS => by go_simp) hH ?_; simp only [Act.put, zX, zY, zZ]
   refine zTk 24 51 (.pointer (some ⟨g', k * 3 + 2, none⟩)) rfl (fun w hS => by go_simp) hH ?_; simp only [Act.put, zX, zY, zZ]
   refine zTk 25 52 (.bool x.bad) rfl (fun w hS => by obtain ⟨s0, s1, s2, s3, s4, s5, s6, s7⟩ := hS; go_simp) hH ?_; simp only [Act.put, zX, zY, zZ]
   refine zTk 26 53 (.bool false) rfl (fun w hS => by go_simp) hH ?_; simp only [Act.put, zX, zY, zZ]
   refine zTk 27 54 (.bool false) rfl (fun w hS => by go_simp) hH ?_; simp only [Act.put, zX, zY, zZ]
   refine zTk 28 55 (.bool false) rfl (fun w hS => by go_simp) hH ?_; simp only [Act.put, zX, zY, zZ]
   refine zTk 29 56 (.pointer (some ⟨w.heap.size, 1, none⟩)) rfl (fun w hS => by go_simp) hH ?_; simp only [Act.put, zX, zY, zZ]
   refine zTk 30 57 (.slice (some ⟨g, 0, none⟩) xs.length cl) rfl (fun w hS => by obtain ⟨s0, s1, s2, s3, s4, s5, s6, s7⟩ := hS; go_simp) hH ?_; simp only [Act.put, zX, zY, zZ]
   refine zTk 31 58 (.int .i64 k) rfl (fun w hS => by go_simp) hH ?_; simp only [Act.put, zX, zY, zZ]
   refine zTk 32 59 (.pointer (some ⟨g, k * 3, none⟩)) rfl (fun w hS => by go_simp) hH ?_; simp only [Act.put, zX, zY, zZ]
   refine zTk 33 60 (.pointer (some ⟨g, k * 3, none⟩)) rfl (fun w hS => by go_simp) hH ?_; simp only [Act.put, zX, zY, zZ]
   refine zTk 34 61 (.slice (some ⟨gx, 0, none⟩) nx x.c) rfl (fun w hS => by obtain ⟨s0, s1, s2, s3, s4, s5, s6, s7⟩ := hS; go_simp) hH ?_; simp only [Act.put, zX, zY, zZ]
   refine zTk 35 62 (.pointer (some ⟨w.heap.size + 1, 1, none⟩)) rfl (fun w hS => by go_simp) hH ?_; simp only [Act.put, zX, zY, zZ]
   refine zTk 36 63 (.slice (some ⟨g', 0, none⟩) xs.length cl') rfl (fun w hS => by obtain ⟨s0, s1, s2, s3, s4, s5, s6, s7⟩ := hS; go_simp) hH ?_; simp only [Act.put, zX, zY, zZ]
   refine zTk 37 64 (.int .i64 k) rfl (fun w hS => by go_simp) hH ?_; simp only [Act.put, zX, zY, zZ]
   refine zTk 38 65 (.pointer (some ⟨g', k * 3, none⟩)) rfl (fun w hS => by go_simp) hH ?_; simp only [Act.put, zX, zY, zZ]
   refine zTk 39 66 (.pointer (some ⟨g', k * 3, none⟩)) rfl (fun w hS => by go_simp) hH ?_; simp only [Act.put, zX, zY, zZ]
   refine zTk 40 67 (.slice (some ⟨gy, 0, none⟩) nx y.c) rfl (fun w hS => by obtain ⟨s0, s1, s2, s3, s4, s5, s6, s7⟩ := hS; go_simp) hH ?_; simp only [Act.put, zX, zY, zZ]
   refine zRd 41 (by kernel_rfl) rfl (fun K hK => ?_)
   go_simp
   (with_reducible refine (KE.out _ ((Below.refl _ wr).drew)).mono ?_)
   rintro e w1 ⟨rfl, b1'⟩
   have b1 : Below wr.heap.size wr w1 := ((Below.refl _ wr).drew).trans b1'
   go_simp
   refine hK.out _ _ (SK.out _ b1) (fun hH => ?_)
   clear hK K b1'
   (first | (simp only [Act.put, zX, zY, zZ]) | skip)
   refine zTk 42 69 (.bool false) rfl (fun w hS => by go_simp) hH ?_; simp only [Act.put, zX, zY, zZ]
   refine zTk 43 70 (.bool false) rfl (fun w hS => by go_simp) hH ?_; simp only [Act.put, zX, zY, zZ]
   refine wpAnyH_done (by kernel_rfl) ?_ _
   clear hH SK y1 z1 c0 c1 c2 d0 d1 d2 KE
   go_wp2
   go_roundw
   case rel => exact ⟨k + 1, by omega, by go_num, HB.out.trans (b1.mono (by omega))⟩
   case measure => simp [intOf]; omega
  ·go_wp2
   go_ret
   exact ⟨rfl, HW.out⟩
set_option maxHeartbeats 3200000 in
theorem wfBench_nil (now : Int) (oa oa' : Option Addr) (cl cl' : Nat) (w : World) :
  Calls Tryz.prog 9 #[.agg #[.int .i64 now, .slice oa 0 cl], .agg #[.int .i64 now, .slice oa' 0 cl']] w fun e w' => e = .returned (.bool true) ∧ Below w.heap.size w w' := by
 have hne : ∀ z : Int, (z != z) = false := fun z => by simp
 go_enter Tryz.func9, Tryz.ntmps9
 go_wp2
 go_loopw [5] (fun i wr => i = .int .i64 0 ∧ Hid (Below (w.heap.size + 2) ((w.alloc (.cells #[.int .i64 now, .slice oa 0 cl] 27)).alloc (.cells #[.int .i64 now, .slice oa' 0 cl'] 27)) wr)) (fun _ _ => 0)
 case atStart => exact ⟨rfl, Below.refl _ _⟩
 case round =>
  obtain ⟨rfl, HB⟩ := hrel
  have HW : Hid (Below w.heap.size w wr) := (Joins.below_alloc2 _ _ _).trans (HB.out.mono (by omega))
  have hs2 : w.heap.size + 2 ≤ wr.heap.size := by have := HB.out.size; simp at this; omega
  have b0 : wr.heap[w.heap.size]? = some (.cells #[.int .i64 now, .slice oa 0 cl] 27 (0, 0)) := (HB.out.block _ (by omega)).trans ((zHa (by simp)).trans (heap_new _ _ _ rfl))
  have y1 : wr.cell? ⟨w.heap.size, 1, none⟩ = some (.slice oa 0 cl) := zCr b0
  go_wp2
  go_ret
  exact ⟨rfl, HW.out⟩
theorem wfBench_q (now : Int) (oa oa' : Option Addr) (cl cl' : Nat) (xs ys : List SV) (w : World) (hL : SLq w oa xs) (hL' : SLq w oa' ys) (hk : ys.map SV.key = xs.map SV.key) (hm : xs.length ≤ 1048576) :
  Calls Tryz.prog 9 #[.agg #[.int .i64 now, .slice oa xs.length cl], .agg #[.int .i64 now, .slice oa' ys.length cl']] w fun e w' => e = .returned (.bool true) ∧ Below w.heap.size w w' := by
 have hl : ys.length = xs.length := map_len hk
 rw [hl]
 rcases hL with rfl | ⟨g, rfl, h1⟩
 ·exact wfBench_nil now oa oa' cl cl' w
 ·rcases hL' with rfl | ⟨g', rfl, h2⟩
  ·have e : xs = [] := List.length_eq_zero_iff.1 hl.symm
   subst e
   exact wfBench_nil now _ oa' cl cl' w
  ·exact wfBench_row now g g' cl cl' xs ys w h1 h2 hk hm
set_option maxHeartbeats 25600000 in
theorem bn16 {Q : Exit → Act → World → Prop} {w1 w6 : World} {gl n cl k l m1 m2 zA zB zC zD cl1 cl2 k2 cb : Nat} {now1 c1' : Int} {ob oa1 oa2 a2 : Option Addr} {us1 : List SV} {y1 : RV} {v0 v1 v2 v6 v7 v8 v9 v16 v17 v18 v19 v20 : Value} {f : Nat → Value} (HF6 : Hid (F6 w1 w6 zA zB zC zD l m1 cl1 m2 cl2 cb k2 now1 ob oa1 oa2 a2 y1)) (KWS : Hid (Calls Tryz.prog 12 #[.agg #[.int .i64 y1.p.src, .int .i64 y1.p.dst, .int .i64 y1.p.kind, .int .i64 y1.p.id, .int .i64 y1.p.hops, .bool y1.p.whole, .int .i64 y1.p.off, .bool y1.p.more, .slice y1.a y1.zs.length y1.c], .agg #[.int .i64 y1.p.src, .int .i64 y1.p.dst, .int .i64 y1.p.kind, .int .i64 y1.p.id, .int .i64 y1.p.hops, .bool y1.p.whole, .int .i64 y1.p.off, .bool y1.p.more, .slice a2 y1.zs.length k2]] w6 fun e w' => e = .returned (.bool true) ∧ Below w6.heap.size w6 w')) (KWB : Hid (∀ u, Below w6.heap.size w6 u → Calls Tryz.prog 9 #[.agg #[.int .i64 now1, .slice oa1 m1 cl1], .agg #[.int .i64 now1, .slice oa2 m2 cl2]] u fun e w' => e = .returned (.bool true) ∧ Below u.heap.size u w')) (KBO : Hid (∀ u, Below w6.heap.size w6 u → Calls Tryz.prog 13 #[.agg #[.int .i64 now1, .slice oa1 m1 cl1]] u (SaysB (benchOk now1 us1) u))) (HOK1 : Hid (benchOk now1 us1)) (hQ : Hid (∀ f wx, Below w6.heap.size w6 wx → Q .normal (fr v0 v1 v2 (.slice (some ⟨gl, 0, none⟩) n cl) (.pointer (some ⟨w1.heap.size, 0, none⟩)) (.int .i64 k) v6 v7 v8 v9 (.pointer (some ⟨zA, 0, none⟩)) (.pointer (some ⟨zB, 0, none⟩)) (.int .i64 c1') (.pointer (some ⟨zC, 0, none⟩)) (.pointer (some ⟨zD, 0, none⟩)) (.int .i64 c1') v16 v17 v18 v19 v20 f) wx)) : (Cd.fst (Cd.snd (Cd.snd (Cd.snd (Cd.inn (Cd.fst (Cd.snd (Cd.inn (Cd.inn (Cd.snd (Cd.fst (Cd.snd (Cd.snd (Cd.snd (Cd.snd (Option.getD Tryz.f3.body .skip)))))))))))))))).wp Tryz.prog Q (fr v0 v1 v2 (.slice (some ⟨gl, 0, none⟩) n cl) (.pointer (some ⟨w1.heap.size, 0, none⟩)) (.int .i64 k) v6 v7 v8 v9 (.pointer (some ⟨zA, 0, none⟩)) (.pointer (some ⟨zB, 0, none⟩)) (.int .i64 c1') (.pointer (some ⟨zC, 0, none⟩)) (.pointer (some ⟨zD, 0, none⟩)) (.int .i64 c1') v16 v17 v18 v19 v20 f) w6 := by
 have hne : ∀ z : Int, (z != z) = false := fun z => by simp
 refine wp_is (c' := .seq _ _) rfl ?_
 unfold fr
 obtain ⟨⟨b0, b1⟩, ⟨f0, f1⟩, ⟨g0, g1⟩, ⟨lq, q0, q1, q2, q3, q4, q5, q6, q7, q8⟩, ⟨lr, r0, r1, r2, r3, r4, r5, r6, r7, r8⟩⟩ := HF6.out w6 (Below.refl _ _)
 go_wp2_with fail
 (with_reducible refine KWS.out.mono ?_)
 rintro e v7 ⟨rfl, d7⟩
 clear b0 b1 f0 f1 g0 g1 lq q0 q1 q2 q3 q4 q5 q6 q7 q8 lr r0 r1 r2 r3 r4 r5 r6 r7 r8 KWS
 obtain ⟨-, ⟨f0, f1⟩, ⟨g0, g1⟩, -, -⟩ := HF6.out v7 d7
 go_wp2_with fail
 (with_reducible refine (KWB.out v7 d7).mono ?_)
 rintro e v8 ⟨rfl, d8⟩
 have E8 := d7.trans (d8.mono d7.size)
 clear f0 f1 g0 g1 KWB d7 d8
 obtain ⟨-, ⟨f0, f1⟩, -, -, -⟩ := HF6.out v8 E8
 go_wp2_with fail
 (with_reducible refine (KBO.out v8 E8).mono ?_)
 rintro e v9 ⟨vb, rfl, hvb, d9⟩
 obtain rfl : vb = true := hvb.2 HOK1.out
 have E9 : Hid (Below w6.heap.size w6 v9) := E8.trans (d9.mono E8.size)
 clear f0 f1 KBO E8 d9 hvb
 obtain ⟨⟨b0, b1⟩, ⟨f0, f1⟩, -, -, -⟩ := HF6.out v9 E9.out
 go_wp2
 refine fr_end (C := fun a => Q .normal a _) rfl rfl rfl (fun f => ?_)
 exact hQ.out f _ E9.out
set_option maxHeartbeats 3200000 in
theorem wfSame_off (p q : Pk) (a1 a2 : Option Addr) (len1 len2 cap1 cap2 : Nat) (w : World) (h : p.off ≠ q.off ∨ p.more ≠ q.more) :
  Calls Tryz.prog 12 #[p.val (.slice a1 len1 cap1), q.val (.slice a2 len2 cap2)] w fun e w' => e = .returned (.bool false) ∧ Below w.heap.size w w' := by
 unfold Pk.val
 go_enter Tryz.func12, Tryz.ntmps12
 by_cases e0 : p.src = q.src
 ·have f0 : (p.src != q.src) = false := by rw [e0]; simp
  have HE0 : Hid (p.src = q.src) := e0
  clear e0
  by_cases e1 : p.dst = q.dst
  ·have f1 : (p.dst != q.dst) = false := by rw [e1]; simp
   have HE1 : Hid (p.dst = q.dst) := e1
   clear e1
   by_cases e2 : p.kind = q.kind
   ·have f2 : (p.kind != q.kind) = false := by rw [e2]; simp
    have HE2 : Hid (p.kind = q.kind) := e2
    clear e2
    by_cases e3 : p.id = q.id
    ·have f3 : (p.id != q.id) = false := by rw [e3]; simp
     have HE3 : Hid (p.id = q.id) := e3
     clear e3
     by_cases e4 : p.hops = q.hops
     ·have f4 : (p.hops != q.hops) = false := by rw [e4]; simp
      have HE4 : Hid (p.hops = q.hops) := e4
      clear e4
      by_cases e5 : p.whole = q.whole
      ·have f5 : (p.whole != q.whole) = false := by rw [e5]; simp
       have HE5 : Hid (p.whole = q.whole) := e5
       clear e5
       by_cases e6 : p.off = q.off
       ·have f6 : (p.off != q.off) = false := by rw [e6]; simp
        have HE6 : Hid (p.off = q.off) := e6
        clear e6
        by_cases e7 : p.more = q.more
        ·have f7 : (p.more != q.more) = false := by rw [e7]; simp
         have HE7 : Hid (p.more = q.more) := e7
         clear e7
         exact (h.elim (fun h => h HE6.out) (fun h => h HE7.out)).elim
        ·clear h
         by_cases hp : p.more = true
         ·have hq : q.more = false := by cases hq : q.more <;> simp_all
          clear e7
          go_wp2
          go_ret
          exact ⟨rfl, Joins.below_alloc2 _ _ _⟩
         ·replace hp : p.more = false := by simpa using hp
          have hq : q.more = true := by cases hq : q.more <;> simp_all
          clear e7
          go_wp2
          go_ret
          exact ⟨rfl, Joins.below_alloc2 _ _ _⟩
       ·have f6 : (p.off != q.off) = true := bne_iff_ne.2 e6
        clear e6 h
        go_wp2
        go_ret
        exact ⟨rfl, Joins.below_alloc2 _ _ _⟩
      ·clear h
       by_cases hp : p.whole = true
       ·have hq : q.whole = false := by cases hq : q.whole <;> simp_all
        clear e5
        go_wp2
        go_ret
        exact ⟨rfl, Joins.below_alloc2 _ _ _⟩
       ·replace hp : p.whole = false := by simpa using hp
        have hq : q.whole = true := by cases hq : q.whole <;> simp_all
        clear e5
        go_wp2
        go_ret
        exact ⟨rfl, Joins.below_alloc2 _ _ _⟩
     ·have f4 : (p.hops != q.hops) = true := bne_iff_ne.2 e4
      clear e4 h
      go_wp2
      go_ret
      exact ⟨rfl, Joins.below_alloc2 _ _ _⟩
    ·have f3 : (p.id != q.id) = true := bne_iff_ne.2 e3
     clear e3 h
     go_wp2
     go_ret
     exact ⟨rfl, Joins.below_alloc2 _ _ _⟩
   ·have f2 : (p.kind != q.kind) = true := bne_iff_ne.2 e2
    clear e2 h
    go_wp2
    go_ret
    exact ⟨rfl, Joins.below_alloc2 _ _ _⟩
  ·have f1 : (p.dst != q.dst) = true := bne_iff_ne.2 e1
   clear e1 h
   go_wp2
   go_ret
   exact ⟨rfl, Joins.below_alloc2 _ _ _⟩
 ·have f0 : (p.src != q.src) = true := bne_iff_ne.2 e0
  clear e0 h
  go_wp2
  go_ret
  exact ⟨rfl, Joins.below_alloc2 _ _ _⟩
end Go.Proofs.YtjbkgmbakjnlhaaGreatDoor
