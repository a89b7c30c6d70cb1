import Derived.Test.YtjbkgmbakjnlhaaGreatDoorSNew
import Derived.Test.YtjbkgmbakjnlhaaGreatDoorPartAu
import Derived.Test.YtjbkgmbakjnlhaaGreatDoorITake
namespace Go.Proofs.YtjbkgmbakjnlhaaGreatDoor
set_option maxRecDepth 100000
open Go.RowKit
def PutPost (now : Int) (lo : Nat) (ts : List SV) (i : Nat) (s : SV) (x : PB) (w : World) (e : Ending) (w' : World) : Prop :=
 ∃ g' off' c' us y cd, e = .returned (.tuple #[.agg #[.int .i64 now, .slice (some ⟨g', off', none⟩) us.length c'], y.val0, .int .i64 cd]) ∧ SLf w' g' off' us ∧ DataB w' lo y ∧ putK (ts.map SV.key) i s.key x = (us.map SV.key, y.key, cd) ∧ us.length ≤ 4 ∧ Below lo w w'
set_option maxHeartbeats 6400000 in
theorem l4Put_bad (now : Int) (g c i lo : Nat) (ts : List SV) (s : SV) (x : RV) (w : World) (hC : CAns w lo g c ts) (hi : ts[i]? = some s) (hx : ROk w x) (hl : ts.length ≤ 4) (hs1 : 1 ≤ s.xs.length) (hbad : s.bad = true) :
  Calls Tryz.prog 36 #[.agg #[.int .i64 now, .slice (some ⟨g, 0, none⟩) ts.length c], .int .i64 i, .agg #[.int .i64 x.p.src, .int .i64 x.p.dst, .int .i64 x.p.kind, .int .i64 x.p.id, .int .i64 x.p.hops, .bool x.p.whole, .int .i64 x.p.off, .bool x.p.more, .slice x.a x.zs.length x.c]] w (PutPost now lo ts i s x.key w) := by
 have HC : Hid (CAns w lo g c ts) := hC
 have HI : Hid (ts[i]? = some s) := hi
 have HX : Hid (ROk w x) := hx
 have hlt := (List.getElem?_eq_some_iff.1 hi).1
 have hli : (i : Int) < (ts.length : Int) := by omega
 have hS := hC.ans.sl
 obtain ⟨c0, c1, c2⟩ := hS.elem i s hi
 have HSo : Hid (SOk w s) := hS.each s (List.mem_of_getElem? hi)
 obtain ⟨gL, hgL, hRL⟩ := HSo.out.at_
 have HRL : Hid (RL w gL s.xs) := hRL
 have hc1 := HSo.out.cap
 have hc2 := HSo.out.capM
 have hsl := HSo.out.len
 obtain ⟨n, hn⟩ : ∃ n, s.xs.length = n := ⟨_, rfl⟩
 obtain ⟨m, hm⟩ : ∃ m, ts.length = m := ⟨_, rfl⟩
 have HN : Hid (s.xs.length = n) := hn
 have HM : Hid (ts.length = m) := hm
 have HGL : Hid (s.a = some ⟨gL, 0, none⟩) := hgL
 rw [hgL, hn] at c0
 rw [hn] at hc1 hsl hs1
 rw [hm] at hl hlt hli ⊢
 have llo := own_lt hC.own g rfl
 have lg := llo.2
 have lw : lo ≤ w.heap.size := by omega
 have lL := hRL.lt
 have HBAD : Hid (s.bad = true) := hbad
 clear hbad
 obtain ⟨V, hV⟩ : ∃ V, (((w.alloc (.cells #[.int .i64 now, .slice (some ⟨g, 0, none⟩) m c] 27)).alloc (.cells #[.int .i64 x.p.src, .int .i64 x.p.dst, .int .i64 x.p.kind, .int .i64 x.p.id, .int .i64 x.p.hops, .bool x.p.whole, .int .i64 x.p.off, .bool x.p.more, .slice x.a x.zs.length x.c] 29)).alloc (.cells #[.int .i64 0, .slice none 0 0] 27)).alloc (.cells #[.int .i64 0, .int .i64 0, .int .i64 0, .int .i64 0, .int .i64 0, .bool false, .int .i64 0, .bool false, .slice none 0 0] 29) = V := ⟨_, rfl⟩
 have bV : Below w.heap.size w V := by rw [← hV]; exact (Joins.below_alloc3 _ _ _ _).trans ((zBa _ _).mono (by simp; omega))
 have sV : V.heap.size = w.heap.size + 4 := by rw [← hV]; simp
 obtain ⟨W, hW⟩ : ∃ W, V.alloc (.cells #[.slice (some ⟨gL, 0, none⟩) n s.c, .int .i64 s.since, .bool s.bad] 39) = W := ⟨_, rfl⟩
 have bvW : Below V.heap.size V W := by rw [← hW]; exact zBa _ _
 have bW : Below w.heap.size w W := bV.trans (bvW.mono bV.size)
 have sW : W.heap.size = w.heap.size + 5 := by rw [← hW]; simp; omega
 have x0' : V.heap[w.heap.size]? = some (.cells #[.int .i64 now, .slice (some ⟨g, 0, none⟩) m c] 27 (0, 0)) := by rw [← hV]; exact (zHa (by simp; omega)).trans ((zHa (by simp; omega)).trans ((zHa (by simp)).trans (heap_new _ _ _ rfl)))
 have x0 := (bvW.block _ (by omega)).trans x0'
 have x1 : W.heap[w.heap.size + 1]? = some (.cells #[.int .i64 x.p.src, .int .i64 x.p.dst, .int .i64 x.p.kind, .int .i64 x.p.id, .int .i64 x.p.hops, .bool x.p.whole, .int .i64 x.p.off, .bool x.p.more, .slice x.a x.zs.length x.c] 29 (0, 0)) := (bvW.block _ (by omega)).trans (by rw [← hV]; exact (zHa (by simp)).trans ((zHa (by simp)).trans (heap_new _ _ _ (by simp))))
 have x2 : W.heap[w.heap.size + 2]? = some (.cells #[.int .i64 0, .slice none 0 0] 27 (0, 0)) := (bvW.block _ (by omega)).trans (by rw [← hV]; exact (zHa (by simp)).trans (heap_new _ _ _ (by simp)))
 have x3 : W.heap[w.heap.size + 3]? = some (.cells #[.int .i64 0, .int .i64 0, .int .i64 0, .int .i64 0, .int .i64 0, .bool false, .int .i64 0, .bool false, .slice none 0 0] 29 (0, 0)) := (bvW.block _ (by omega)).trans (by rw [← hV]; exact heap_new _ _ _ (by simp))
 have x4 : W.heap[V.heap.size]? = some (.cells #[.slice (some ⟨gL, 0, none⟩) n s.c, .int .i64 s.since, .bool s.bad] 39 (0, 0)) := by rw [← hW]; exact heap_new _ _ _ rfl
 have vb : V.cell? ⟨w.heap.size, 1, none⟩ = some (.slice (some ⟨g, 0, none⟩) m c) := zCr x0'
 have v0 := (bV.cell (p := ⟨g, i * 3, none⟩) lg).trans c0
 have v1 := (bV.cell (p := ⟨g, i * 3 + 1, none⟩) lg).trans c1
 have v2 := (bV.cell (p := ⟨g, i * 3 + 2, none⟩) lg).trans c2
 have HW : Hid (Below w.heap.size w W) := bW
 have X0 : Hid (W.heap[w.heap.size]? = some (.cells #[.int .i64 now, .slice (some ⟨g, 0, none⟩) m c] 27 (0, 0))) := x0
 have X1 : Hid (W.heap[w.heap.size + 1]? = some (.cells #[.int .i64 x.p.src, .int .i64 x.p.dst, .int .i64 x.p.kind, .int .i64 x.p.id, .int .i64 x.p.hops, .bool x.p.whole, .int .i64 x.p.off, .bool x.p.more, .slice x.a x.zs.length x.c] 29 (0, 0))) := x1
 have X2 : Hid (W.heap[w.heap.size + 2]? = some (.cells #[.int .i64 0, .slice none 0 0] 27 (0, 0))) := x2
 have X3 : Hid (W.heap[w.heap.size + 3]? = some (.cells #[.int .i64 0, .int .i64 0, .int .i64 0, .int .i64 0, .int .i64 0, .bool false, .int .i64 0, .bool false, .slice none 0 0] 29 (0, 0))) := x3
 have X4 : Hid (W.heap[V.heap.size]? = some (.cells #[.slice (some ⟨gL, 0, none⟩) n s.c, .int .i64 s.since, .bool s.bad] 39 (0, 0))) := x4
 have y4 : W.cell? ⟨w.heap.size + 4, 2, none⟩ = some (.bool s.bad) := (by rw [← sV]; exact zCr x4)
 have y5 : W.cell? ⟨w.heap.size + 4, 0, none⟩ = some (.slice (some ⟨gL, 0, none⟩) n s.c) := (by rw [← sV]; exact zCr x4)
 have KTD : Hid (∀ U : World, Below w.heap.size w U → Calls Tryz.prog 71 #[.slice (some ⟨gL, 0, none⟩) n s.c, .agg #[.int .i64 x.p.src, .int .i64 x.p.dst, .int .i64 x.p.kind, .int .i64 x.p.id, .int .i64 x.p.hops, .bool x.p.whole, .int .i64 x.p.off, .bool x.p.more, .slice x.a x.zs.length x.c]] U (SaysB (isIn x s.xs) U)) := fun U hU => by
  have h := l4Told_raw gL s.c s.xs x U (HRL.out.below hU) (by rw [HN.out]; exact hsl) (HX.out.below hU)
  rw [HN.out] at h
  exact h
 unfold SaysB at KTD
 have KBD : Hid (∀ U : World, Below w.heap.size w U → Calls Tryz.prog 72 #[.agg #[.int .i64 now, .slice (some ⟨g, 0, none⟩) m c], .int .i64 i] U fun e w' => e = .returned (.agg #[.int .i64 now, .slice (some ⟨g, 0, none⟩) m c]) ∧ (∀ W', (∀ b, b < w.heap.size → W'.heap[b]? = w'.heap[b]?) → SLf W' g 0 (ts.set i (badS s))) ∧ Only (fun b => b = g) U w') := fun U hU => by
  have h := l4Bad_any now g c i lo ts s U (HC.out.below hU) HI.out (by rw [HN.out]; exact hs1) (by rw [HM.out]; omega)
  rw [HM.out] at h
  refine h.mono fun e w' ⟨h1, h2, h3⟩ => ⟨h1, fun W' hk => h2 W' fun b hb => hk b ?_, h3⟩
  rcases hb with hb | hb
  ·omega
  ·exact (HC.out.noG b hb).2
 have HSTAY : Hid (∀ W' : World, w.heap.size ≤ W'.heap.size → (∀ b, b < w.heap.size → W'.heap[b]? = w.heap[b]?) → SLf W' g 0 ts) := fun W' hs hk => by
  have h : CAns W' lo g c ts := ⟨own_kept HC.out.own fun b hb => hk b (own_lt HC.out.own b hb).2, HC.out.forest.kept fun b hb => hk b (HC.out.forest.blk b hb).2.1⟩
  exact h.ans.sl.off
 clear hC hi hx hS hRL hgL hn hm x0 x0' x1 x2 x3 x4 bW bV bvW
 go_enter Tryz.func36, Tryz.ntmps36
 go_upto_region 1 with fail
 (first | rw [hV] | skip)
 clear hV c0 c1 c2
 go_upto_region 2 with fail
 (first | rw [hW] | skip)
 clear hW v0 v1 v2 vb
 rw [HBAD.out] at y4
 have y0 : W.cell? ⟨w.heap.size, 0, none⟩ = some (.int .i64 now) := zCr X0.out
 have y1 : W.cell? ⟨w.heap.size, 1, none⟩ = some (.slice (some ⟨g, 0, none⟩) m c) := zCr X0.out
 have z0 : W.cell? ⟨w.heap.size + 1 + 1, 0, none⟩ = some (.int .i64 0) := zCr X2.out
 have z1 : W.cell? ⟨w.heap.size + 1 + 1, 1, none⟩ = some (.slice none 0 0) := zCr X2.out
 have fz : ∀ o, W.frozen? ⟨w.heap.size + 1 + 1, o, none⟩ = false := fun o => zUf X2.out o
 have fy : ∀ o, W.frozen? ⟨w.heap.size + 1 + 1 + 1, o, none⟩ = false := fun o => zUf X3.out o
 have lz2 := lt_of_block X2.out
 have lz3 := lt_of_block X3.out
 have p0 : W.cell? ⟨w.heap.size + 1 + 1 + 1, 0, none⟩ = some (.int .i64 0) := zCr X3.out
 have p1 : W.cell? ⟨w.heap.size + 1 + 1 + 1, 1, none⟩ = some (.int .i64 0) := zCr X3.out
 have p2 : W.cell? ⟨w.heap.size + 1 + 1 + 1, 2, none⟩ = some (.int .i64 0) := zCr X3.out
 have p3 : W.cell? ⟨w.heap.size + 1 + 1 + 1, 3, none⟩ = some (.int .i64 0) := zCr X3.out
 have p4 : W.cell? ⟨w.heap.size + 1 + 1 + 1, 4, none⟩ = some (.int .i64 0) := zCr X3.out
 have p5 : W.cell? ⟨w.heap.size + 1 + 1 + 1, 5, none⟩ = some (.bool false) := zCr X3.out
 have p6 : W.cell? ⟨w.heap.size + 1 + 1 + 1, 6, none⟩ = some (.int .i64 0) := zCr X3.out
 have p7 : W.cell? ⟨w.heap.size + 1 + 1 + 1, 7, none⟩ = some (.bool false) := zCr X3.out
 have p8 : W.cell? ⟨w.heap.size + 1 + 1 + 1, 8, none⟩ = some (.slice none 0 0) := zCr X3.out
 have FIN : Hid (∀ W', (∀ b, b ≠ w.heap.size + 2 → b ≠ w.heap.size + 3 → W'.heap[b]? = W.heap[b]?) → W'.os = W.os → W'.tape = W.tape → W'.output = W.output → W'.heap.size = W.heap.size → PutPost now lo ts i s x.key w (.returned (.tuple #[.agg #[.int .i64 now, .slice (some ⟨g, 0, none⟩) m c], zeroV, .int .i64 4])) W') := fun W' hk h1 h2 h3 h5 => by
  have hk' : ∀ b, b < w.heap.size → W'.heap[b]? = w.heap[b]? := fun b hb => (hk b (by omega) (by omega)).trans (HW.out.block b hb)
  refine ⟨g, 0, c, ts, zeroRV, 4, by rw [HM.out]; rfl, HSTAY.out W' (by omega) hk', zeroRV_data _ _, put_bad HBAD.out, by rw [HM.out]; exact hl, ⟨h1.trans HW.out.os, h2.trans HW.out.tape, h3.trans HW.out.output, by omega, fun b hb => hk' b (by omega)⟩⟩
 go_wp2
 refine bodyPost_ret (v := .tuple #[.agg #[.int .i64 now, .slice (some ⟨g, 0, none⟩) m c], zeroV, .int .i64 4]) (by simp [results, Tryz.results36, go_sem, zeroV, z0, z1, p0, p1, p2, p3, p4, p5, p6, p7, p8]) rfl (FIN.out _ (fun b h1 h2 => put29_far W _ _ b h1 h2 _ _ _ _ _ _ _ _ _ _ _) ?_ ?_ ?_ (put29_size W _ _ _ _ _ _ _ _ _ _ _ _ _))
 all_goals simp [World.setCell]
set_option maxHeartbeats 6400000 in
theorem l4Put_told (now : Int) (g c i lo : Nat) (ts : List SV) (s : SV) (x : RV) (w : World) (hC : CAns w lo g c ts) (hi : ts[i]? = some s) (hx : ROk w x) (hl : ts.length ≤ 4) (hs1 : 1 ≤ s.xs.length) (hbad : s.bad = false) (hin : isIn x s.xs) :
  Calls Tryz.prog 36 #[.agg #[.int .i64 now, .slice (some ⟨g, 0, none⟩) ts.length c], .int .i64 i, .agg #[.int .i64 x.p.src, .int .i64 x.p.dst, .int .i64 x.p.kind, .int .i64 x.p.id, .int .i64 x.p.hops, .bool x.p.whole, .int .i64 x.p.off, .bool x.p.more, .slice x.a x.zs.length x.c]] w (PutPost now lo ts i s x.key w) := by
 have HC : Hid (CAns w lo g c ts) := hC
 have HI : Hid (ts[i]? = some s) := hi
 have HX : Hid (ROk w x) := hx
 have hlt := (List.getElem?_eq_some_iff.1 hi).1
 have hli : (i : Int) < (ts.length : Int) := by omega
 have hS := hC.ans.sl
 obtain ⟨c0, c1, c2⟩ := hS.elem i s hi
 have HSo : Hid (SOk w s) := hS.each s (List.mem_of_getElem? hi)
 obtain ⟨gL, hgL, hRL⟩ := HSo.out.at_
 have HRL : Hid (RL w gL s.xs) := hRL
 have hc1 := HSo.out.cap
 have hc2 := HSo.out.capM
 have hsl := HSo.out.len
 obtain ⟨n, hn⟩ : ∃ n, s.xs.length = n := ⟨_, rfl⟩
 obtain ⟨m, hm⟩ : ∃ m, ts.length = m := ⟨_, rfl⟩
 have HN : Hid (s.xs.length = n) := hn
 have HM : Hid (ts.length = m) := hm
 have HGL : Hid (s.a = some ⟨gL, 0, none⟩) := hgL
 rw [hgL, hn] at c0
 rw [hn] at hc1 hsl hs1
 rw [hm] at hl hlt hli ⊢
 have llo := own_lt hC.own g rfl
 have lg := llo.2
 have lw : lo ≤ w.heap.size := by omega
 have lL := hRL.lt
 have HBAD : Hid (s.bad = false) := hbad
 have HIN : Hid (isIn x s.xs) := hin
 clear hbad hin
 obtain ⟨V, hV⟩ : ∃ V, (((w.alloc (.cells #[.int .i64 now, .slice (some ⟨g, 0, none⟩) m c] 27)).alloc (.cells #[.int .i64 x.p.src, .int .i64 x.p.dst, .int .i64 x.p.kind, .int .i64 x.p.id, .int .i64 x.p.hops, .bool x.p.whole, .int .i64 x.p.off, .bool x.p.more, .slice x.a x.zs.length x.c] 29)).alloc (.cells #[.int .i64 0, .slice none 0 0] 27)).alloc (.cells #[.int .i64 0, .int .i64 0, .int .i64 0, .int .i64 0, .int .i64 0, .bool false, .int .i64 0, .bool false, .slice none 0 0] 29) = V := ⟨_, rfl⟩
 have bV : Below w.heap.size w V := by rw [← hV]; exact (Joins.below_alloc3 _ _ _ _).trans ((zBa _ _).mono (by simp; omega))
 have sV : V.heap.size = w.heap.size + 4 := by rw [← hV]; simp
 obtain ⟨W, hW⟩ : ∃ W, V.alloc (.cells #[.slice (some ⟨gL, 0, none⟩) n s.c, .int .i64 s.since, .bool s.bad] 39) = W := ⟨_, rfl⟩
 have bvW : Below V.heap.size V W := by rw [← hW]; exact zBa _ _
 have bW : Below w.heap.size w W := bV.trans (bvW.mono bV.size)
 have sW : W.heap.size = w.heap.size + 5 := by rw [← hW]; simp; omega
 have x0' : V.heap[w.heap.size]? = some (.cells #[.int .i64 now, .slice (some ⟨g, 0, none⟩) m c] 27 (0, 0)) := by rw [← hV]; exact (zHa (by simp; omega)).trans ((zHa (by simp; omega)).trans ((zHa (by simp)).trans (heap_new _ _ _ rfl)))
 have x0 := (bvW.block _ (by omega)).trans x0'
 have x1 : W.heap[w.heap.size + 1]? = some (.cells #[.int .i64 x.p.src, .int .i64 x.p.dst, .int .i64 x.p.kind, .int .i64 x.p.id, .int .i64 x.p.hops, .bool x.p.whole, .int .i64 x.p.off, .bool x.p.more, .slice x.a x.zs.length x.c] 29 (0, 0)) := (bvW.block _ (by omega)).trans (by rw [← hV]; exact (zHa (by simp)).trans ((zHa (by simp)).trans (heap_new _ _ _ (by simp))))
 have x2 : W.heap[w.heap.size + 2]? = some (.cells #[.int .i64 0, .slice none 0 0] 27 (0, 0)) := (bvW.block _ (by omega)).trans (by rw [← hV]; exact (zHa (by simp)).trans (heap_new _ _ _ (by simp)))
 have x3 : W.heap[w.heap.size + 3]? = some (.cells #[.int .i64 0, .int .i64 0, .int .i64 0, .int .i64 0, .int .i64 0, .bool false, .int .i64 0, .bool false, .slice none 0 0] 29 (0, 0)) := (bvW.block _ (by omega)).trans (by rw [← hV]; exact heap_new _ _ _ (by simp))
 have x4 : W.heap[V.heap.size]? = some (.cells #[.slice (some ⟨gL, 0, none⟩) n s.c, .int .i64 s.since, .bool s.bad] 39 (0, 0)) := by rw [← hW]; exact heap_new _ _ _ rfl
 have vb : V.cell? ⟨w.heap.size, 1, none⟩ = some (.slice (some ⟨g, 0, none⟩) m c) := zCr x0'
 have v0 := (bV.cell (p := ⟨g, i * 3, none⟩) lg).trans c0
 have v1 := (bV.cell (p := ⟨g, i * 3 + 1, none⟩) lg).trans c1
 have v2 := (bV.cell (p := ⟨g, i * 3 + 2, none⟩) lg).trans c2
 have HW : Hid (Below w.heap.size w W) := bW
 have X0 : Hid (W.heap[w.heap.size]? = some (.cells #[.int .i64 now, .slice (some ⟨g, 0, none⟩) m c] 27 (0, 0))) := x0
 have X1 : Hid (W.heap[w.heap.size + 1]? = some (.cells #[.int .i64 x.p.src, .int .i64 x.p.dst, .int .i64 x.p.kind, .int .i64 x.p.id, .int .i64 x.p.hops, .bool x.p.whole, .int .i64 x.p.off, .bool x.p.more, .slice x.a x.zs.length x.c] 29 (0, 0))) := x1
 have X2 : Hid (W.heap[w.heap.size + 2]? = some (.cells #[.int .i64 0, .slice none 0 0] 27 (0, 0))) := x2
 have X3 : Hid (W.heap[w.heap.size + 3]? = some (.cells #[.int .i64 0, .int .i64 0, .int .i64 0, .int .i64 0, .int .i64 0, .bool false, .int .i64 0, .bool false, .slice none 0 0] 29 (0, 0))) := x3
 have X4 : Hid (W.heap[V.heap.size]? = some (.cells #[.slice (some ⟨gL, 0, none⟩) n s.c, .int .i64 s.since, .bool s.bad] 39 (0, 0))) := x4
 have y4 : W.cell? ⟨w.heap.size + 4, 2, none⟩ = some (.bool s.bad) := (by rw [← sV]; exact zCr x4)
 have y5 : W.cell? ⟨w.heap.size + 4, 0, none⟩ = some (.slice (some ⟨gL, 0, none⟩) n s.c) := (by rw [← sV]; exact zCr x4)
 have KTD : Hid (∀ U : World, Below w.heap.size w U → Calls Tryz.prog 71 #[.slice (some ⟨gL, 0, none⟩) n s.c, .agg #[.int .i64 x.p.src, .int .i64 x.p.dst, .int .i64 x.p.kind, .int .i64 x.p.id, .int .i64 x.p.hops, .bool x.p.whole, .int .i64 x.p.off, .bool x.p.more, .slice x.a x.zs.length x.c]] U (SaysB (isIn x s.xs) U)) := fun U hU => by
  have h := l4Told_raw gL s.c s.xs x U (HRL.out.below hU) (by rw [HN.out]; exact hsl) (HX.out.below hU)
  rw [HN.out] at h
  exact h
 unfold SaysB at KTD
 have KBD : Hid (∀ U : World, Below w.heap.size w U → Calls Tryz.prog 72 #[.agg #[.int .i64 now, .slice (some ⟨g, 0, none⟩) m c], .int .i64 i] U fun e w' => e = .returned (.agg #[.int .i64 now, .slice (some ⟨g, 0, none⟩) m c]) ∧ (∀ W', (∀ b, b < w.heap.size → W'.heap[b]? = w'.heap[b]?) → SLf W' g 0 (ts.set i (badS s))) ∧ Only (fun b => b = g) U w') := fun U hU => by
  have h := l4Bad_any now g c i lo ts s U (HC.out.below hU) HI.out (by rw [HN.out]; exact hs1) (by rw [HM.out]; omega)
  rw [HM.out] at h
  refine h.mono fun e w' ⟨h1, h2, h3⟩ => ⟨h1, fun W' hk => h2 W' fun b hb => hk b ?_, h3⟩
  rcases hb with hb | hb
  ·omega
  ·exact (HC.out.noG b hb).2
 have HSTAY : Hid (∀ W' : World, w.heap.size ≤ W'.heap.size → (∀ b, b < w.heap.size → W'.heap[b]? = w.heap[b]?) → SLf W' g 0 ts) := fun W' hs hk => by
  have h : CAns W' lo g c ts := ⟨own_kept HC.out.own fun b hb => hk b (own_lt HC.out.own b hb).2, HC.out.forest.kept fun b hb => hk b (HC.out.forest.blk b hb).2.1⟩
  exact h.ans.sl.off
 clear hC hi hx hS hRL hgL hn hm x0 x0' x1 x2 x3 x4 bW bV bvW
 go_enter Tryz.func36, Tryz.ntmps36
 go_upto_region 1 with fail
 (first | rw [hV] | skip)
 clear hV c0 c1 c2
 go_upto_region 2 with fail
 (first | rw [hW] | skip)
 clear hW v0 v1 v2 vb
 rw [HBAD.out] at y4
 have x0 : W.cell? ⟨w.heap.size + 1, 0, none⟩ = some (.int .i64 x.p.src) := zCr X1.out
 have x1 : W.cell? ⟨w.heap.size + 1, 1, none⟩ = some (.int .i64 x.p.dst) := zCr X1.out
 have x2 : W.cell? ⟨w.heap.size + 1, 2, none⟩ = some (.int .i64 x.p.kind) := zCr X1.out
 have x3 : W.cell? ⟨w.heap.size + 1, 3, none⟩ = some (.int .i64 x.p.id) := zCr X1.out
 have x4 : W.cell? ⟨w.heap.size + 1, 4, none⟩ = some (.int .i64 x.p.hops) := zCr X1.out
 have x5 : W.cell? ⟨w.heap.size + 1, 5, none⟩ = some (.bool x.p.whole) := zCr X1.out
 have x6 : W.cell? ⟨w.heap.size + 1, 6, none⟩ = some (.int .i64 x.p.off) := zCr X1.out
 have x7 : W.cell? ⟨w.heap.size + 1, 7, none⟩ = some (.bool x.p.more) := zCr X1.out
 have x8 : W.cell? ⟨w.heap.size + 1, 8, none⟩ = some (.slice x.a x.zs.length x.c) := zCr X1.out
 go_wp2_with fail
 refine (KTD.out _ HW.out).mono ?_
 rintro e w1 ⟨b, rfl, hb, b1⟩
 have hb' : b = true := by
  exact hb.2 HIN.out
 subst hb'
 have B1 : Hid (Below w.heap.size w w1) := HW.out.trans (b1.mono (by omega))
 have s1 := b1.size
 have Y0 : Hid (w1.heap[w.heap.size]? = some (.cells #[.int .i64 now, .slice (some ⟨g, 0, none⟩) m c] 27 (0, 0))) := (b1.block _ (by omega)).trans X0.out
 have Y1 : Hid (w1.heap[w.heap.size + 1]? = some (.cells #[.int .i64 x.p.src, .int .i64 x.p.dst, .int .i64 x.p.kind, .int .i64 x.p.id, .int .i64 x.p.hops, .bool x.p.whole, .int .i64 x.p.off, .bool x.p.more, .slice x.a x.zs.length x.c] 29 (0, 0))) := (b1.block _ (by omega)).trans X1.out
 have Y2 : Hid (w1.heap[w.heap.size + 2]? = some (.cells #[.int .i64 0, .slice none 0 0] 27 (0, 0))) := (b1.block _ (by omega)).trans X2.out
 have Y3 : Hid (w1.heap[w.heap.size + 3]? = some (.cells #[.int .i64 0, .int .i64 0, .int .i64 0, .int .i64 0, .int .i64 0, .bool false, .int .i64 0, .bool false, .slice none 0 0] 29 (0, 0))) := (b1.block _ (by omega)).trans X3.out
 have Y4 : Hid (w1.heap[w.heap.size + 4]? = some (.cells #[.slice (some ⟨gL, 0, none⟩) n s.c, .int .i64 s.since, .bool s.bad] 39 (0, 0))) := (b1.block _ (by omega)).trans (by rw [← sV]; exact X4.out)
 clear y4 y5 KTD b1 hb X0 X1 X2 X3 X4 x0 x1 x2 x3 x4 x5 x6 x7 x8
 have y0 : w1.cell? ⟨w.heap.size, 0, none⟩ = some (.int .i64 now) := zCr Y0.out
 have y1 : w1.cell? ⟨w.heap.size, 1, none⟩ = some (.slice (some ⟨g, 0, none⟩) m c) := zCr Y0.out
 have z0 : w1.cell? ⟨w.heap.size + 1 + 1, 0, none⟩ = some (.int .i64 0) := zCr Y2.out
 have z1 : w1.cell? ⟨w.heap.size + 1 + 1, 1, none⟩ = some (.slice none 0 0) := zCr Y2.out
 have fz : ∀ o, w1.frozen? ⟨w.heap.size + 1 + 1, o, none⟩ = false := fun o => zUf Y2.out o
 have fy : ∀ o, w1.frozen? ⟨w.heap.size + 1 + 1 + 1, o, none⟩ = false := fun o => zUf Y3.out o
 have lz2 := lt_of_block Y2.out
 have lz3 := lt_of_block Y3.out
 have p0 : w1.cell? ⟨w.heap.size + 1 + 1 + 1, 0, none⟩ = some (.int .i64 0) := zCr Y3.out
 have p1 : w1.cell? ⟨w.heap.size + 1 + 1 + 1, 1, none⟩ = some (.int .i64 0) := zCr Y3.out
 have p2 : w1.cell? ⟨w.heap.size + 1 + 1 + 1, 2, none⟩ = some (.int .i64 0) := zCr Y3.out
 have p3 : w1.cell? ⟨w.heap.size + 1 + 1 + 1, 3, none⟩ = some (.int .i64 0) := zCr Y3.out
 have p4 : w1.cell? ⟨w.heap.size + 1 + 1 + 1, 4, none⟩ = some (.int .i64 0) := zCr Y3.out
 have p5 : w1.cell? ⟨w.heap.size + 1 + 1 + 1, 5, none⟩ = some (.bool false) := zCr Y3.out
 have p6 : w1.cell? ⟨w.heap.size + 1 + 1 + 1, 6, none⟩ = some (.int .i64 0) := zCr Y3.out
 have p7 : w1.cell? ⟨w.heap.size + 1 + 1 + 1, 7, none⟩ = some (.bool false) := zCr Y3.out
 have p8 : w1.cell? ⟨w.heap.size + 1 + 1 + 1, 8, none⟩ = some (.slice none 0 0) := zCr Y3.out
 have FIN : Hid (∀ W', (∀ b, b ≠ w.heap.size + 2 → b ≠ w.heap.size + 3 → W'.heap[b]? = w1.heap[b]?) → W'.os = w1.os → W'.tape = w1.tape → W'.output = w1.output → W'.heap.size = w1.heap.size → PutPost now lo ts i s x.key w (.returned (.tuple #[.agg #[.int .i64 now, .slice (some ⟨g, 0, none⟩) m c], zeroV, .int .i64 3])) W') := fun W' hk h1 h2 h3 h5 => by
  have hk' : ∀ b, b < w.heap.size → W'.heap[b]? = w.heap[b]? := fun b hb => (hk b (by omega) (by omega)).trans (B1.out.block b hb)
  refine ⟨g, 0, c, ts, zeroRV, 3, by rw [HM.out]; rfl, HSTAY.out W' (by omega) hk', zeroRV_data _ _, put_told HBAD.out HIN.out, by rw [HM.out]; exact hl, ⟨h1.trans B1.out.os, h2.trans B1.out.tape, h3.trans B1.out.output, by omega, fun b hb => hk' b (by omega)⟩⟩
 go_wp2
 refine bodyPost_ret (v := .tuple #[.agg #[.int .i64 now, .slice (some ⟨g, 0, none⟩) m c], zeroV, .int .i64 3]) (by simp [results, Tryz.results36, go_sem, zeroV, z0, z1, p0, p1, p2, p3, p4, p5, p6, p7, p8]) rfl (FIN.out _ (fun b h1 h2 => put29_far w1 _ _ b h1 h2 _ _ _ _ _ _ _ _ _ _ _) ?_ ?_ ?_ (put29_size w1 _ _ _ _ _ _ _ _ _ _ _ _ _))
 all_goals simp [World.setCell]
set_option maxHeartbeats 6400000 in
theorem l4Put_full (now : Int) (g c i lo : Nat) (ts : List SV) (s : SV) (x : RV) (w : World) (hC : CAns w lo g c ts) (hi : ts[i]? = some s) (hx : ROk w x) (hl : ts.length ≤ 4) (hs1 : 1 ≤ s.xs.length) (hbad : s.bad = false) (hin : ¬ isIn x s.xs) (h40 : s.xs.length = 40) :
  Calls Tryz.prog 36 #[.agg #[.int .i64 now, .slice (some ⟨g, 0, none⟩) ts.length c], .int .i64 i, .agg #[.int .i64 x.p.src, .int .i64 x.p.dst, .int .i64 x.p.kind, .int .i64 x.p.id, .int .i64 x.p.hops, .bool x.p.whole, .int .i64 x.p.off, .bool x.p.more, .slice x.a x.zs.length x.c]] w (PutPost now lo ts i s x.key w) := by
 have HC : Hid (CAns w lo g c ts) := hC
 have HI : Hid (ts[i]? = some s) := hi
 have HX : Hid (ROk w x) := hx
 have hlt := (List.getElem?_eq_some_iff.1 hi).1
 have hli : (i : Int) < (ts.length : Int) := by omega
 have hS := hC.ans.sl
 obtain ⟨c0, c1, c2⟩ := hS.elem i s hi
 have HSo : Hid (SOk w s) := hS.each s (List.mem_of_getElem? hi)
 obtain ⟨gL, hgL, hRL⟩ := HSo.out.at_
 have HRL : Hid (RL w gL s.xs) := hRL
 have hc1 := HSo.out.cap
 have hc2 := HSo.out.capM
 have hsl := HSo.out.len
 obtain ⟨n, hn⟩ : ∃ n, s.xs.length = n := ⟨_, rfl⟩
 obtain ⟨m, hm⟩ : ∃ m, ts.length = m := ⟨_, rfl⟩
 have HN : Hid (s.xs.length = n) := hn
 have HM : Hid (ts.length = m) := hm
 have HGL : Hid (s.a = some ⟨gL, 0, none⟩) := hgL
 rw [hgL, hn] at c0
 rw [hn] at hc1 hsl hs1
 rw [hm] at hl hlt hli ⊢
 have llo := own_lt hC.own g rfl
 have lg := llo.2
 have lw : lo ≤ w.heap.size := by omega
 have lL := hRL.lt
 have HBAD : Hid (s.bad = false) := hbad
 have HIN : Hid (¬ isIn x s.xs) := hin
 have H40 : Hid (s.xs.length = 40) := h40
 clear hbad hin h40
 obtain ⟨V, hV⟩ : ∃ V, (((w.alloc (.cells #[.int .i64 now, .slice (some ⟨g, 0, none⟩) m c] 27)).alloc (.cells #[.int .i64 x.p.src, .int .i64 x.p.dst, .int .i64 x.p.kind, .int .i64 x.p.id, .int .i64 x.p.hops, .bool x.p.whole, .int .i64 x.p.off, .bool x.p.more, .slice x.a x.zs.length x.c] 29)).alloc (.cells #[.int .i64 0, .slice none 0 0] 27)).alloc (.cells #[.int .i64 0, .int .i64 0, .int .i64 0, .int .i64 0, .int .i64 0, .bool false, .int .i64 0, .bool false, .slice none 0 0] 29) = V := ⟨_, rfl⟩
 have bV : Below w.heap.size w V := by rw [← hV]; exact (Joins.below_alloc3 _ _ _ _).trans ((zBa _ _).mono (by simp; omega))
 have sV : V.heap.size = w.heap.size + 4 := by rw [← hV]; simp
 obtain ⟨W, hW⟩ : ∃ W, V.alloc (.cells #[.slice (some ⟨gL, 0, none⟩) n s.c, .int .i64 s.since, .bool s.bad] 39) = W := ⟨_, rfl⟩
 have bvW : Below V.heap.size V W := by rw [← hW]; exact zBa _ _
 have bW : Below w.heap.size w W := bV.trans (bvW.mono bV.size)
 have sW : W.heap.size = w.heap.size + 5 := by rw [← hW]; simp; omega
 have x0' : V.heap[w.heap.size]? = some (.cells #[.int .i64 now, .slice (some ⟨g, 0, none⟩) m c] 27 (0, 0)) := by rw [← hV]; exact (zHa (by simp; omega)).trans ((zHa (by simp; omega)).trans ((zHa (by simp)).trans (heap_new _ _ _ rfl)))
 have x0 := (bvW.block _ (by omega)).trans x0'
 have x1 : W.heap[w.heap.size + 1]? = some (.cells #[.int .i64 x.p.src, .int .i64 x.p.dst, .int .i64 x.p.kind, .int .i64 x.p.id, .int .i64 x.p.hops, .bool x.p.whole, .int .i64 x.p.off, .bool x.p.more, .slice x.a x.zs.length x.c] 29 (0, 0)) := (bvW.block _ (by omega)).trans (by rw [← hV]; exact (zHa (by simp)).trans ((zHa (by simp)).trans (heap_new _ _ _ (by simp))))
 have x2 : W.heap[w.heap.size + 2]? = some (.cells #[.int .i64 0, .slice none 0 0] 27 (0, 0)) := (bvW.block _ (by omega)).trans (by rw [← hV]; exact (zHa (by simp)).trans (heap_new _ _ _ (by simp)))
 have x3 : W.heap[w.heap.size + 3]? = some (.cells #[.int .i64 0, .int .i64 0, .int .i64 0, .int .i64 0, .int .i64 0, .bool false, .int .i64 0, .bool false, .slice none 0 0] 29 (0, 0)) := (bvW.block _ (by omega)).trans (by rw [← hV]; exact heap_new _ _ _ (by simp))
 have x4 : W.heap[V.heap.size]? = some (.cells #[.slice (some ⟨gL, 0, none⟩) n s.c, .int .i64 s.since, .bool s.bad] 39 (0, 0)) := by rw [← hW]; exact heap_new _ _ _ rfl
 have vb : V.cell? ⟨w.heap.size, 1, none⟩ = some (.slice (some ⟨g, 0, none⟩) m c) := zCr x0'
 have v0 := (bV.cell (p := ⟨g, i * 3, none⟩) lg).trans c0
 have v1 := (bV.cell (p := ⟨g, i * 3 + 1, none⟩) lg).trans c1
 have v2 := (bV.cell (p := ⟨g, i * 3 + 2, none⟩) lg).trans c2
 have HW : Hid (Below w.heap.size w W) := bW
 have X0 : Hid (W.heap[w.heap.size]? = some (.cells #[.int .i64 now, .slice (some ⟨g, 0, none⟩) m c] 27 (0, 0))) := x0
 have X1 : Hid (W.heap[w.heap.size + 1]? = some (.cells #[.int .i64 x.p.src, .int .i64 x.p.dst, .int .i64 x.p.kind, .int .i64 x.p.id, .int .i64 x.p.hops, .bool x.p.whole, .int .i64 x.p.off, .bool x.p.more, .slice x.a x.zs.length x.c] 29 (0, 0))) := x1
 have X2 : Hid (W.heap[w.heap.size + 2]? = some (.cells #[.int .i64 0, .slice none 0 0] 27 (0, 0))) := x2
 have X3 : Hid (W.heap[w.heap.size + 3]? = some (.cells #[.int .i64 0, .int .i64 0, .int .i64 0, .int .i64 0, .int .i64 0, .bool false, .int .i64 0, .bool false, .slice none 0 0] 29 (0, 0))) := x3
 have X4 : Hid (W.heap[V.heap.size]? = some (.cells #[.slice (some ⟨gL, 0, none⟩) n s.c, .int .i64 s.since, .bool s.bad] 39 (0, 0))) := x4
 have y4 : W.cell? ⟨w.heap.size + 4, 2, none⟩ = some (.bool s.bad) := (by rw [← sV]; exact zCr x4)
 have y5 : W.cell? ⟨w.heap.size + 4, 0, none⟩ = some (.slice (some ⟨gL, 0, none⟩) n s.c) := (by rw [← sV]; exact zCr x4)
 have KTD : Hid (∀ U : World, Below w.heap.size w U → Calls Tryz.prog 71 #[.slice (some ⟨gL, 0, none⟩) n s.c, .agg #[.int .i64 x.p.src, .int .i64 x.p.dst, .int .i64 x.p.kind, .int .i64 x.p.id, .int .i64 x.p.hops, .bool x.p.whole, .int .i64 x.p.off, .bool x.p.more, .slice x.a x.zs.length x.c]] U (SaysB (isIn x s.xs) U)) := fun U hU => by
  have h := l4Told_raw gL s.c s.xs x U (HRL.out.below hU) (by rw [HN.out]; exact hsl) (HX.out.below hU)
  rw [HN.out] at h
  exact h
 unfold SaysB at KTD
 have KBD : Hid (∀ U : World, Below w.heap.size w U → Calls Tryz.prog 72 #[.agg #[.int .i64 now, .slice (some ⟨g, 0, none⟩) m c], .int .i64 i] U fun e w' => e = .returned (.agg #[.int .i64 now, .slice (some ⟨g, 0, none⟩) m c]) ∧ (∀ W', (∀ b, b < w.heap.size → W'.heap[b]? = w'.heap[b]?) → SLf W' g 0 (ts.set i (badS s))) ∧ Only (fun b => b = g) U w') := fun U hU => by
  have h := l4Bad_any now g c i lo ts s U (HC.out.below hU) HI.out (by rw [HN.out]; exact hs1) (by rw [HM.out]; omega)
  rw [HM.out] at h
  refine h.mono fun e w' ⟨h1, h2, h3⟩ => ⟨h1, fun W' hk => h2 W' fun b hb => hk b ?_, h3⟩
  rcases hb with hb | hb
  ·omega
  ·exact (HC.out.noG b hb).2
 have HSTAY : Hid (∀ W' : World, w.heap.size ≤ W'.heap.size → (∀ b, b < w.heap.size → W'.heap[b]? = w.heap[b]?) → SLf W' g 0 ts) := fun W' hs hk => by
  have h : CAns W' lo g c ts := ⟨own_kept HC.out.own fun b hb => hk b (own_lt HC.out.own b hb).2, HC.out.forest.kept fun b hb => hk b (HC.out.forest.blk b hb).2.1⟩
  exact h.ans.sl.off
 clear hC hi hx hS hRL hgL hn hm x0 x0' x1 x2 x3 x4 bW bV bvW
 go_enter Tryz.func36, Tryz.ntmps36
 go_upto_region 1 with fail
 (first | rw [hV] | skip)
 clear hV c0 c1 c2
 go_upto_region 2 with fail
 (first | rw [hW] | skip)
 clear hW v0 v1 v2 vb
 rw [HBAD.out] at y4
 have x0 : W.cell? ⟨w.heap.size + 1, 0, none⟩ = some (.int .i64 x.p.src) := zCr X1.out
 have x1 : W.cell? ⟨w.heap.size + 1, 1, none⟩ = some (.int .i64 x.p.dst) := zCr X1.out
 have x2 : W.cell? ⟨w.heap.size + 1, 2, none⟩ = some (.int .i64 x.p.kind) := zCr X1.out
 have x3 : W.cell? ⟨w.heap.size + 1, 3, none⟩ = some (.int .i64 x.p.id) := zCr X1.out
 have x4 : W.cell? ⟨w.heap.size + 1, 4, none⟩ = some (.int .i64 x.p.hops) := zCr X1.out
 have x5 : W.cell? ⟨w.heap.size + 1, 5, none⟩ = some (.bool x.p.whole) := zCr X1.out
 have x6 : W.cell? ⟨w.heap.size + 1, 6, none⟩ = some (.int .i64 x.p.off) := zCr X1.out
 have x7 : W.cell? ⟨w.heap.size + 1, 7, none⟩ = some (.bool x.p.more) := zCr X1.out
 have x8 : W.cell? ⟨w.heap.size + 1, 8, none⟩ = some (.slice x.a x.zs.length x.c) := zCr X1.out
 go_wp2_with fail
 refine (KTD.out _ HW.out).mono ?_
 rintro e w1 ⟨b, rfl, hb, b1⟩
 have hb' : b = false := by
  cases b with
  | false => rfl
  | true => exact absurd (hb.1 rfl) HIN.out
 subst hb'
 have B1 : Hid (Below w.heap.size w w1) := HW.out.trans (b1.mono (by omega))
 have s1 := b1.size
 have Y0 : Hid (w1.heap[w.heap.size]? = some (.cells #[.int .i64 now, .slice (some ⟨g, 0, none⟩) m c] 27 (0, 0))) := (b1.block _ (by omega)).trans X0.out
 have Y1 : Hid (w1.heap[w.heap.size + 1]? = some (.cells #[.int .i64 x.p.src, .int .i64 x.p.dst, .int .i64 x.p.kind, .int .i64 x.p.id, .int .i64 x.p.hops, .bool x.p.whole, .int .i64 x.p.off, .bool x.p.more, .slice x.a x.zs.length x.c] 29 (0, 0))) := (b1.block _ (by omega)).trans X1.out
 have Y2 : Hid (w1.heap[w.heap.size + 2]? = some (.cells #[.int .i64 0, .slice none 0 0] 27 (0, 0))) := (b1.block _ (by omega)).trans X2.out
 have Y3 : Hid (w1.heap[w.heap.size + 3]? = some (.cells #[.int .i64 0, .int .i64 0, .int .i64 0, .int .i64 0, .int .i64 0, .bool false, .int .i64 0, .bool false, .slice none 0 0] 29 (0, 0))) := (b1.block _ (by omega)).trans X3.out
 have Y4 : Hid (w1.heap[w.heap.size + 4]? = some (.cells #[.slice (some ⟨gL, 0, none⟩) n s.c, .int .i64 s.since, .bool s.bad] 39 (0, 0))) := (b1.block _ (by omega)).trans (by rw [← sV]; exact X4.out)
 clear y4 y5 KTD b1 hb X0 X1 X2 X3 X4 x0 x1 x2 x3 x4 x5 x6 x7 x8
 obtain rfl : n = 40 := HN.out.symm.trans H40.out
 have y5 : w1.cell? ⟨w.heap.size + 4, 0, none⟩ = some (.slice (some ⟨gL, 0, none⟩) 40 s.c) := zCr Y4.out
 have y0 : w1.cell? ⟨w.heap.size, 0, none⟩ = some (.int .i64 now) := zCr Y0.out
 have y1 : w1.cell? ⟨w.heap.size, 1, none⟩ = some (.slice (some ⟨g, 0, none⟩) m c) := zCr Y0.out
 go_wp2_with fail
 refine (KBD.out _ B1.out).mono ?_
 rintro e w2 ⟨rfl, hslf, b2⟩
 have sz2 := b2.size
 have q2 : w2.heap[w.heap.size + 2]? = some (.cells #[.int .i64 0, .slice none 0 0] 27 (0, 0)) := (b2.block _ (by omega) (by omega)).trans Y2.out
 have q3 : w2.heap[w.heap.size + 3]? = some (.cells #[.int .i64 0, .int .i64 0, .int .i64 0, .int .i64 0, .int .i64 0, .bool false, .int .i64 0, .bool false, .slice none 0 0] 29 (0, 0)) := (b2.block _ (by omega) (by omega)).trans Y3.out
 have z0 : w2.cell? ⟨w.heap.size + 1 + 1, 0, none⟩ = some (.int .i64 0) := zCr q2
 have z1 : w2.cell? ⟨w.heap.size + 1 + 1, 1, none⟩ = some (.slice none 0 0) := zCr q2
 have fz : ∀ o, w2.frozen? ⟨w.heap.size + 1 + 1, o, none⟩ = false := fun o => zUf q2 o
 have fy : ∀ o, w2.frozen? ⟨w.heap.size + 1 + 1 + 1, o, none⟩ = false := fun o => zUf q3 o
 have lz2 := lt_of_block q2
 have lz3 := lt_of_block q3
 have p0 : w2.cell? ⟨w.heap.size + 1 + 1 + 1, 0, none⟩ = some (.int .i64 0) := zCr q3
 have p1 : w2.cell? ⟨w.heap.size + 1 + 1 + 1, 1, none⟩ = some (.int .i64 0) := zCr q3
 have p2 : w2.cell? ⟨w.heap.size + 1 + 1 + 1, 2, none⟩ = some (.int .i64 0) := zCr q3
 have p3 : w2.cell? ⟨w.heap.size + 1 + 1 + 1, 3, none⟩ = some (.int .i64 0) := zCr q3
 have p4 : w2.cell? ⟨w.heap.size + 1 + 1 + 1, 4, none⟩ = some (.int .i64 0) := zCr q3
 have p5 : w2.cell? ⟨w.heap.size + 1 + 1 + 1, 5, none⟩ = some (.bool false) := zCr q3
 have p6 : w2.cell? ⟨w.heap.size + 1 + 1 + 1, 6, none⟩ = some (.int .i64 0) := zCr q3
 have p7 : w2.cell? ⟨w.heap.size + 1 + 1 + 1, 7, none⟩ = some (.bool false) := zCr q3
 have p8 : w2.cell? ⟨w.heap.size + 1 + 1 + 1, 8, none⟩ = some (.slice none 0 0) := zCr q3
 have FIN : Hid (∀ W', (∀ b, b ≠ w.heap.size + 2 → b ≠ w.heap.size + 3 → W'.heap[b]? = w2.heap[b]?) → W'.os = w2.os → W'.tape = w2.tape → W'.output = w2.output → W'.heap.size = w2.heap.size → PutPost now lo ts i s x.key w (.returned (.tuple #[.agg #[.int .i64 now, .slice (some ⟨g, 0, none⟩) m c], zeroV, .int .i64 4])) W') := fun W' hk h1 h2 h3 h5 => by
  have hk' : ∀ b, b < w.heap.size → W'.heap[b]? = w2.heap[b]? := fun b hb => hk b (by omega) (by omega)
  have hm : (ts.set i (badS s)).length = m := by rw [List.length_set]; exact HM.out
  have BL : Below lo w w2 := (B1.out.mono lw).trans (b2.below (fun b hb => by omega) (Nat.le_trans lw B1.out.size))
  refine ⟨g, 0, c, ts.set i (badS s), zeroRV, 4, by rw [hm]; rfl, hslf W' hk', zeroRV_data _ _, (put_full HBAD.out HIN.out (by simpa [SV.key] using H40.out)).trans (by rw [List.map_set, badS_key]; rfl), by rw [hm]; exact hl, ⟨h1.trans BL.os, h2.trans BL.tape, h3.trans BL.output, by rw [h5]; exact BL.size, fun b hb => (hk b (by omega) (by omega)).trans (BL.block b hb)⟩⟩
 clear hslf b2 q2 q3
 go_wp2
 refine bodyPost_ret (v := .tuple #[.agg #[.int .i64 now, .slice (some ⟨g, 0, none⟩) m c], zeroV, .int .i64 4]) (by simp [results, Tryz.results36, go_sem, zeroV, z0, z1, p0, p1, p2, p3, p4, p5, p6, p7, p8]) rfl (FIN.out _ (fun b h1 h2 => put29_far w2 _ _ b h1 h2 _ _ _ _ _ _ _ _ _ _ _) ?_ ?_ ?_ (put29_size w2 _ _ _ _ _ _ _ _ _ _ _ _ _))
 all_goals simp [World.setCell]
end Go.Proofs.YtjbkgmbakjnlhaaGreatDoor
