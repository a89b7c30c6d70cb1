import Derived.Test.YtjbkgmbakjnlhaaGreatDoorPartAq
namespace Go.Proofs.YtjbkgmbakjnlhaaGreatDoor
set_option maxRecDepth 100000
open Go.RowKit
set_option maxHeartbeats 6400000 in
theorem take_whole (lo ob mb : Nat) (ov : Value) (now : Int) (es : List Ent) (x : RV) (w : World) (h : OpenB w lo ob mb ov now es) (hx : ROk w x) (_hl : ∀ e ∈ es, e.s.xs.length ≤ 1000) (_hgd : ∀ e ∈ es, e.good) (h4 : es.length ≤ 4) (hok : okB x.p x.zs.length = true) (hcut : x.p.off = 0 ∧ x.p.more = false) :
  Calls Tryz.prog 32 #[.pointer (some ⟨ob, 0, none⟩), x.p.val (.slice x.a x.zs.length x.c)] w (TakeQ lo ob mb now es x.key w) := by
 have H0 : Hid (OpenB w lo ob mb ov now es) := h
 have HXR : Hid (ROk w x) := hx
 have hlow := h.low
 have KO : Hid (∀ W : World, Calls Tryz.prog 67 #[.agg #[.int .i64 x.p.src, .int .i64 x.p.dst, .int .i64 x.p.kind, .int .i64 x.p.id, .int .i64 x.p.hops, .bool x.p.whole, .int .i64 x.p.off, .bool x.p.more, .slice x.a x.zs.length x.c]] W fun e w' => e = .returned (.bool true) ∧ Below W.heap.size W w') := fun W => by
  have h := implOk_any x.p x.a x.zs.length x.c W hx.len
  unfold Pk.val at h
  rw [hok] at h
  exact h
 have KC : Hid (∀ W : World, Below w.heap.size w W → Calls Tryz.prog 68 #[.agg #[.int .i64 x.p.src, .int .i64 x.p.dst, .int .i64 x.p.kind, .int .i64 x.p.id, .int .i64 x.p.hops, .bool x.p.whole, .int .i64 x.p.off, .bool x.p.more, .slice x.a x.zs.length x.c]] W fun e w' => ∃ z : RV, e = .returned (.agg #[.int .i64 z.p.src, .int .i64 z.p.dst, .int .i64 z.p.kind, .int .i64 z.p.id, .int .i64 z.p.hops, .bool z.p.whole, .int .i64 z.p.off, .bool z.p.more, .slice z.a z.zs.length z.c]) ∧ z.key = x.key ∧ DataB w' W.heap.size z ∧ Below W.heap.size W w') := fun W hW => by
  have h := copyPacket_rv x W (hx.below hW)
  unfold RV.val Pk.val at h
  exact h
 have fld := fld46
 unfold Pk.val
 clear h hx
 have HCUT : Hid (x.p.off = 0 ∧ x.p.more = false) := hcut
 clear hcut
 go_enter Tryz.func32, Tryz.ntmps32
 go_wp2_with fail
 have bW := Joins.below_alloc2 w (.cells #[.int .i64 x.p.src, .int .i64 x.p.dst, .int .i64 x.p.kind, .int .i64 x.p.id, .int .i64 x.p.hops, .bool x.p.whole, .int .i64 x.p.off, .bool x.p.more, .slice x.a x.zs.length x.c] 29) (.cells #[.int .i64 0, .int .i64 0, .int .i64 0, .int .i64 0, .int .i64 0, .bool false, .int .i64 0, .bool false, .slice none 0 0] 29)
 refine (KO.out _).mono ?_
 rintro e w1 ⟨rfl, b1⟩
 have B1 : Below w.heap.size w w1 := bW.trans (b1.mono (by simp; omega))
 have xb : w1.heap[w.heap.size]? = some (.cells #[.int .i64 x.p.src, .int .i64 x.p.dst, .int .i64 x.p.kind, .int .i64 x.p.id, .int .i64 x.p.hops, .bool x.p.whole, .int .i64 x.p.off, .bool x.p.more, .slice x.a x.zs.length x.c] 29 (0, 0)) := (b1.block _ (by simp; omega)).trans ((zHa (by simp)).trans (heap_new _ _ _ rfl))
 have zb : w1.heap[w.heap.size + 1]? = some (.cells #[.int .i64 0, .int .i64 0, .int .i64 0, .int .i64 0, .int .i64 0, .bool false, .int .i64 0, .bool false, .slice none 0 0] 29 (0, 0)) := (b1.block _ (by simp)).trans (heap_new _ _ _ (by simp))
 have p0 : w1.cell? ⟨w.heap.size, 0, none⟩ = some (.int .i64 x.p.src) := zCr xb
 have p1 : w1.cell? ⟨w.heap.size, 1, none⟩ = some (.int .i64 x.p.dst) := zCr xb
 have p2 : w1.cell? ⟨w.heap.size, 2, none⟩ = some (.int .i64 x.p.kind) := zCr xb
 have p3 : w1.cell? ⟨w.heap.size, 3, none⟩ = some (.int .i64 x.p.id) := zCr xb
 have p4 : w1.cell? ⟨w.heap.size, 4, none⟩ = some (.int .i64 x.p.hops) := zCr xb
 have p5 : w1.cell? ⟨w.heap.size, 5, none⟩ = some (.bool x.p.whole) := zCr xb
 have p6 : w1.cell? ⟨w.heap.size, 6, none⟩ = some (.int .i64 x.p.off) := zCr xb
 have p7 : w1.cell? ⟨w.heap.size, 7, none⟩ = some (.bool x.p.more) := zCr xb
 have p8 : w1.cell? ⟨w.heap.size, 8, none⟩ = some (.slice x.a x.zs.length x.c) := zCr xb
 have lzb := lt_of_block zb
 clear b1 bW
 go_wp2_with fail
 refine (KC.out _ B1).mono ?_
 rintro e w2 ⟨z, rfl, hz, dz, b2⟩
 have HZK : Hid (z.key = x.key) := hz
 have hcut := HCUT.out
 have HCZ : Hid (z.p.off = 0 ∧ z.p.more = false) := (by
  have hzp : z.p = x.p := congrArg Prod.fst hz
  rw [hzp]; exact hcut)
 have HTK : Hid (takeK now (es.map fun e => e.s.key) x.key = (es.map (fun e => e.s.key), x.key, 0)) := (by
  unfold takeK
  rw [if_pos (show okB x.key.1 x.key.2.length = true from hok)]
  exact if_pos hcut)
 clear hz hcut hok HCUT
 have B2 : Below w.heap.size w w2 := B1.trans (b2.mono B1.size)
 have xb2 : w2.heap[w.heap.size]? = some (.cells #[.int .i64 x.p.src, .int .i64 x.p.dst, .int .i64 x.p.kind, .int .i64 x.p.id, .int .i64 x.p.hops, .bool x.p.whole, .int .i64 x.p.off, .bool x.p.more, .slice x.a x.zs.length x.c] 29 (0, 0)) := (b2.block _ (by omega)).trans xb
 have zb2 : w2.heap[w.heap.size + 1]? = some (.cells #[.int .i64 0, .int .i64 0, .int .i64 0, .int .i64 0, .int .i64 0, .bool false, .int .i64 0, .bool false, .slice none 0 0] 29 (0, 0)) := (b2.block _ (by omega)).trans zb
 have s12 := b2.size
 clear p0 p1 p2 p3 p4 p5 p6 p7 p8 xb zb b2
 have p0 : w2.cell? ⟨w.heap.size, 0, none⟩ = some (.int .i64 x.p.src) := zCr xb2
 have p1 : w2.cell? ⟨w.heap.size, 1, none⟩ = some (.int .i64 x.p.dst) := zCr xb2
 have p2 : w2.cell? ⟨w.heap.size, 2, none⟩ = some (.int .i64 x.p.kind) := zCr xb2
 have p3 : w2.cell? ⟨w.heap.size, 3, none⟩ = some (.int .i64 x.p.id) := zCr xb2
 have p4 : w2.cell? ⟨w.heap.size, 4, none⟩ = some (.int .i64 x.p.hops) := zCr xb2
 have p5 : w2.cell? ⟨w.heap.size, 5, none⟩ = some (.bool x.p.whole) := zCr xb2
 have p6 : w2.cell? ⟨w.heap.size, 6, none⟩ = some (.int .i64 x.p.off) := zCr xb2
 have p7 : w2.cell? ⟨w.heap.size, 7, none⟩ = some (.bool x.p.more) := zCr xb2
 have p8 : w2.cell? ⟨w.heap.size, 8, none⟩ = some (.slice x.a x.zs.length x.c) := zCr xb2
 have fzx : ∀ o, w2.frozen? ⟨w.heap.size, o, none⟩ = false := fun o => zUf xb2 o
 obtain ⟨w3, hw3⟩ : ∃ w3, (((((((((w2.setCell ⟨w.heap.size, 0, none⟩ (.int .i64 z.p.src)).setCell ⟨w.heap.size, 1, none⟩ (.int .i64 z.p.dst)).setCell ⟨w.heap.size, 2, none⟩ (.int .i64 z.p.kind)).setCell ⟨w.heap.size, 3, none⟩ (.int .i64 z.p.id)).setCell ⟨w.heap.size, 4, none⟩ (.int .i64 z.p.hops)).setCell ⟨w.heap.size, 5, none⟩ (.bool z.p.whole)).setCell ⟨w.heap.size, 6, none⟩ (.int .i64 z.p.off)).setCell ⟨w.heap.size, 7, none⟩ (.bool z.p.more)).setCell ⟨w.heap.size, 8, none⟩ (.slice z.a z.zs.length z.c)) = w3 := ⟨_, rfl⟩
 have xb3 : w3.heap[w.heap.size]? = some (.cells #[.int .i64 z.p.src, .int .i64 z.p.dst, .int .i64 z.p.kind, .int .i64 z.p.id, .int .i64 z.p.hops, .bool z.p.whole, .int .i64 z.p.off, .bool z.p.more, .slice z.a z.zs.length z.c] 29 (0, 0)) := by
  rw [← hw3]
  exact box_put9 _ _ _ _ _ _ _ _ _ xb2
 have far3 : ∀ b, b ≠ w.heap.size → w3.heap[b]? = w2.heap[b]? := fun b hb => by
  rw [← hw3]
  exact box_far9 w2 w.heap.size b hb _ _ _ _ _ _ _ _ _
 have B3 : Below w.heap.size w w3 := by
  rw [← hw3]
  exact box_below9 B2 (Nat.le_refl _) _ _ _ _ _ _ _ _ _
 have dz3 : DataB w3 w1.heap.size z := dz.kept fun b hb => far3 b (by have := (dz.blk b hb).1; omega)
 have zb3 : w3.heap[w.heap.size + 1]? = some (.cells #[.int .i64 0, .int .i64 0, .int .i64 0, .int .i64 0, .int .i64 0, .bool false, .int .i64 0, .bool false, .slice none 0 0] 29 (0, 0)) := (far3 _ (by omega)).trans zb2
 have s23 : w3.heap.size = w2.heap.size := by rw [← hw3]; exact box_size9 w2 w.heap.size _ _ _ _ _ _ _ _ _
 have r0 : w3.cell? ⟨w.heap.size, 0, none⟩ = some (.int .i64 z.p.src) := zCr xb3
 have r1 : w3.cell? ⟨w.heap.size, 1, none⟩ = some (.int .i64 z.p.dst) := zCr xb3
 have r2 : w3.cell? ⟨w.heap.size, 2, none⟩ = some (.int .i64 z.p.kind) := zCr xb3
 have r3 : w3.cell? ⟨w.heap.size, 3, none⟩ = some (.int .i64 z.p.id) := zCr xb3
 have r4 : w3.cell? ⟨w.heap.size, 4, none⟩ = some (.int .i64 z.p.hops) := zCr xb3
 have r5 : w3.cell? ⟨w.heap.size, 5, none⟩ = some (.bool z.p.whole) := zCr xb3
 have r6 : w3.cell? ⟨w.heap.size, 6, none⟩ = some (.int .i64 z.p.off) := zCr xb3
 have r7 : w3.cell? ⟨w.heap.size, 7, none⟩ = some (.bool z.p.more) := zCr xb3
 have r8 : w3.cell? ⟨w.heap.size, 8, none⟩ = some (.slice z.a z.zs.length z.c) := zCr xb3
 have KK : Hid (∀ W : World, Calls Tryz.prog 61 #[.agg #[.int .i64 z.p.src, .int .i64 z.p.dst, .int .i64 z.p.kind, .int .i64 z.p.id, .int .i64 z.p.hops, .bool z.p.whole, .int .i64 z.p.off, .bool z.p.more, .slice z.a z.zs.length z.c]] W fun e w' => e = .returned (.agg #[.int .i64 z.p.src, .int .i64 z.p.dst, .int .i64 z.p.kind, .int .i64 z.p.id, .int .i64 z.p.hops, .bool z.p.whole, .int .i64 z.p.off, .bool z.p.more, .int .i64 z.zs.length]) ∧ Below W.heap.size W w') := fun W => by
  have h := keyed_any z.p z.a z.zs.length z.c W
  unfold Pk.val Pk.kval at h
  exact h
 clear dz B1 B2 xb2 zb2 far3 KO KC
 go_upto_region 4 with fail
 (first | rw [hw3] | skip)
 clear hw3 p0 p1 p2 p3 p4 p5 p6 p7 p8 fzx
 have lx3 := lt_of_block xb3
 have lz3 := lt_of_block zb3
 have lh3 := B3.size
 have q0 : w3.cell? ⟨w.heap.size + 1, 0, none⟩ = some (.int .i64 0) := zCr zb3
 have q1 : w3.cell? ⟨w.heap.size + 1, 1, none⟩ = some (.int .i64 0) := zCr zb3
 have q2 : w3.cell? ⟨w.heap.size + 1, 2, none⟩ = some (.int .i64 0) := zCr zb3
 have q3 : w3.cell? ⟨w.heap.size + 1, 3, none⟩ = some (.int .i64 0) := zCr zb3
 have q4 : w3.cell? ⟨w.heap.size + 1, 4, none⟩ = some (.int .i64 0) := zCr zb3
 have q5 : w3.cell? ⟨w.heap.size + 1, 5, none⟩ = some (.bool false) := zCr zb3
 have q6 : w3.cell? ⟨w.heap.size + 1, 6, none⟩ = some (.int .i64 0) := zCr zb3
 have q7 : w3.cell? ⟨w.heap.size + 1, 7, none⟩ = some (.bool false) := zCr zb3
 have q8 : w3.cell? ⟨w.heap.size + 1, 8, none⟩ = some (.slice none 0 0) := zCr zb3
 have fz : ∀ o, w3.frozen? ⟨w.heap.size + 1, o, none⟩ = false := fun o => zUf zb3 o
 have FIN2 : Hid (∀ W', (∀ b, b < w3.heap.size → b ≠ w.heap.size + 1 → W'.heap[b]? = w3.heap[b]?) → W'.os = w3.os → W'.tape = w3.tape → W'.output = w3.output → W'.heap.size = w3.heap.size → TakeQ lo ob mb now es x.key w (.returned (.tuple #[z.val0, errVal 0])) W') := fun W' hk h1 h2 h3 h5 => by
  have lt : ∀ b, b < w.heap.size → W'.heap[b]? = w.heap[b]? := fun b hb => (hk b (by omega) (by omega)).trans (B3.block b hb)
  have BW : Below w.heap.size w W' := ⟨h1.trans B3.os, h2.trans B3.tape, h3.trans B3.output, by rw [h5]; exact B3.size, lt⟩
  refine ⟨z, 0, ov, es, rfl, HTK.out.trans (by rw [HZK.out]), H0.out.below BW, (dz3.kept fun b hb => hk b (dz3.blk b hb).2.1 (by have := (dz3.blk b hb).1; omega)).le (by omega), (fun b hb => ⟨fun hm => ?_, ?_⟩), h4, BW.mono hlow⟩
  ·have h1 := (dz3.blk b hb).1
   have h2 := (H0.out.forest.blk b hm).2.1
   omega
  ·have h1 := (dz3.blk b hb).1
   omega
 clear KK HTK HZK B3 dz3 xb3 zb3
 obtain ⟨hz0, hz1⟩ := HCZ.out
 go_upto_region 5 with fail
 clear hz0 hz1
 go_wp2
 refine bodyPost_ret (v := .tuple #[z.val0, errVal 0]) (by simp [results, Tryz.results32, go_sem, RV.val0, Pk.val, errVal, q0, q1, q2, q3, q4, q5, q6, q7, q8]) rfl (FIN2.out _ (fun b _ hb => box_far9 w3 (w.heap.size + 1) b hb _ _ _ _ _ _ _ _ _) ?_ ?_ ?_ (box_size9 w3 _ _ _ _ _ _ _ _ _ _))
 all_goals simp [World.setCell]
set_option maxHeartbeats 6400000 in
theorem take_cut (lo ob mb : Nat) (ov : Value) (now : Int) (es : List Ent) (x : RV) (w : World) (h : OpenB w lo ob mb ov now es) (hx : ROk w x) (hl : ∀ e ∈ es, e.s.xs.length ≤ 1000) (hgd : ∀ e ∈ es, e.good) (h4 : es.length ≤ 4) (hok : okB x.p x.zs.length = true) (hcut : ¬ (x.p.off = 0 ∧ x.p.more = false)) :
  Calls Tryz.prog 32 #[.pointer (some ⟨ob, 0, none⟩), x.p.val (.slice x.a x.zs.length x.c)] w (TakeQ lo ob mb now es x.key w) := by
 have H0 : Hid (OpenB w lo ob mb ov now es) := h
 have HXR : Hid (ROk w x) := hx
 have hlow := h.low
 have KO : Hid (∀ W : World, Calls Tryz.prog 67 #[.agg #[.int .i64 x.p.src, .int .i64 x.p.dst, .int .i64 x.p.kind, .int .i64 x.p.id, .int .i64 x.p.hops, .bool x.p.whole, .int .i64 x.p.off, .bool x.p.more, .slice x.a x.zs.length x.c]] W fun e w' => e = .returned (.bool true) ∧ Below W.heap.size W w') := fun W => by
  have h := implOk_any x.p x.a x.zs.length x.c W hx.len
  unfold Pk.val at h
  rw [hok] at h
  exact h
 have KC : Hid (∀ W : World, Below w.heap.size w W → Calls Tryz.prog 68 #[.agg #[.int .i64 x.p.src, .int .i64 x.p.dst, .int .i64 x.p.kind, .int .i64 x.p.id, .int .i64 x.p.hops, .bool x.p.whole, .int .i64 x.p.off, .bool x.p.more, .slice x.a x.zs.length x.c]] W fun e w' => ∃ z : RV, e = .returned (.agg #[.int .i64 z.p.src, .int .i64 z.p.dst, .int .i64 z.p.kind, .int .i64 z.p.id, .int .i64 z.p.hops, .bool z.p.whole, .int .i64 z.p.off, .bool z.p.more, .slice z.a z.zs.length z.c]) ∧ z.key = x.key ∧ DataB w' W.heap.size z ∧ Below W.heap.size W w') := fun W hW => by
  have h := copyPacket_rv x W (hx.below hW)
  unfold RV.val Pk.val at h
  exact h
 have fld := fld46
 unfold Pk.val
 clear h hx
 have HCUT : Hid (¬ (x.p.off = 0 ∧ x.p.more = false)) := hcut
 clear hcut
 go_enter Tryz.func32, Tryz.ntmps32
 go_wp2_with fail
 have bW := Joins.below_alloc2 w (.cells #[.int .i64 x.p.src, .int .i64 x.p.dst, .int .i64 x.p.kind, .int .i64 x.p.id, .int .i64 x.p.hops, .bool x.p.whole, .int .i64 x.p.off, .bool x.p.more, .slice x.a x.zs.length x.c] 29) (.cells #[.int .i64 0, .int .i64 0, .int .i64 0, .int .i64 0, .int .i64 0, .bool false, .int .i64 0, .bool false, .slice none 0 0] 29)
 refine (KO.out _).mono ?_
 rintro e w1 ⟨rfl, b1⟩
 have B1 : Below w.heap.size w w1 := bW.trans (b1.mono (by simp; omega))
 have xb : w1.heap[w.heap.size]? = some (.cells #[.int .i64 x.p.src, .int .i64 x.p.dst, .int .i64 x.p.kind, .int .i64 x.p.id, .int .i64 x.p.hops, .bool x.p.whole, .int .i64 x.p.off, .bool x.p.more, .slice x.a x.zs.length x.c] 29 (0, 0)) := (b1.block _ (by simp; omega)).trans ((zHa (by simp)).trans (heap_new _ _ _ rfl))
 have zb : w1.heap[w.heap.size + 1]? = some (.cells #[.int .i64 0, .int .i64 0, .int .i64 0, .int .i64 0, .int .i64 0, .bool false, .int .i64 0, .bool false, .slice none 0 0] 29 (0, 0)) := (b1.block _ (by simp)).trans (heap_new _ _ _ (by simp))
 have p0 : w1.cell? ⟨w.heap.size, 0, none⟩ = some (.int .i64 x.p.src) := zCr xb
 have p1 : w1.cell? ⟨w.heap.size, 1, none⟩ = some (.int .i64 x.p.dst) := zCr xb
 have p2 : w1.cell? ⟨w.heap.size, 2, none⟩ = some (.int .i64 x.p.kind) := zCr xb
 have p3 : w1.cell? ⟨w.heap.size, 3, none⟩ = some (.int .i64 x.p.id) := zCr xb
 have p4 : w1.cell? ⟨w.heap.size, 4, none⟩ = some (.int .i64 x.p.hops) := zCr xb
 have p5 : w1.cell? ⟨w.heap.size, 5, none⟩ = some (.bool x.p.whole) := zCr xb
 have p6 : w1.cell? ⟨w.heap.size, 6, none⟩ = some (.int .i64 x.p.off) := zCr xb
 have p7 : w1.cell? ⟨w.heap.size, 7, none⟩ = some (.bool x.p.more) := zCr xb
 have p8 : w1.cell? ⟨w.heap.size, 8, none⟩ = some (.slice x.a x.zs.length x.c) := zCr xb
 have lzb := lt_of_block zb
 clear b1 bW
 go_wp2_with fail
 refine (KC.out _ B1).mono ?_
 rintro e w2 ⟨z, rfl, hz, dz, b2⟩
 have HZK : Hid (z.key = x.key) := hz
 have hcut := HCUT.out
 have HCZ : Hid (¬ (z.p.off = 0 ∧ z.p.more = false)) := (by
  have hzp : z.p = x.p := congrArg Prod.fst hz
  rw [hzp]; exact hcut)
 have HTK : Hid (takeK now (es.map fun e => e.s.key) x.key = pieceK now (es.map fun e => e.s.key) x.key) := (by
  unfold takeK
  rw [if_pos (show okB x.key.1 x.key.2.length = true from hok)]
  exact if_neg hcut)
 clear hz hcut hok HCUT
 have B2 : Below w.heap.size w w2 := B1.trans (b2.mono B1.size)
 have xb2 : w2.heap[w.heap.size]? = some (.cells #[.int .i64 x.p.src, .int .i64 x.p.dst, .int .i64 x.p.kind, .int .i64 x.p.id, .int .i64 x.p.hops, .bool x.p.whole, .int .i64 x.p.off, .bool x.p.more, .slice x.a x.zs.length x.c] 29 (0, 0)) := (b2.block _ (by omega)).trans xb
 have zb2 : w2.heap[w.heap.size + 1]? = some (.cells #[.int .i64 0, .int .i64 0, .int .i64 0, .int .i64 0, .int .i64 0, .bool false, .int .i64 0, .bool false, .slice none 0 0] 29 (0, 0)) := (b2.block _ (by omega)).trans zb
 have s12 := b2.size
 clear p0 p1 p2 p3 p4 p5 p6 p7 p8 xb zb b2
 have p0 : w2.cell? ⟨w.heap.size, 0, none⟩ = some (.int .i64 x.p.src) := zCr xb2
 have p1 : w2.cell? ⟨w.heap.size, 1, none⟩ = some (.int .i64 x.p.dst) := zCr xb2
 have p2 : w2.cell? ⟨w.heap.size, 2, none⟩ = some (.int .i64 x.p.kind) := zCr xb2
 have p3 : w2.cell? ⟨w.heap.size, 3, none⟩ = some (.int .i64 x.p.id) := zCr xb2
 have p4 : w2.cell? ⟨w.heap.size, 4, none⟩ = some (.int .i64 x.p.hops) := zCr xb2
 have p5 : w2.cell? ⟨w.heap.size, 5, none⟩ = some (.bool x.p.whole) := zCr xb2
 have p6 : w2.cell? ⟨w.heap.size, 6, none⟩ = some (.int .i64 x.p.off) := zCr xb2
 have p7 : w2.cell? ⟨w.heap.size, 7, none⟩ = some (.bool x.p.more) := zCr xb2
 have p8 : w2.cell? ⟨w.heap.size, 8, none⟩ = some (.slice x.a x.zs.length x.c) := zCr xb2
 have fzx : ∀ o, w2.frozen? ⟨w.heap.size, o, none⟩ = false := fun o => zUf xb2 o
 obtain ⟨w3, hw3⟩ : ∃ w3, (((((((((w2.setCell ⟨w.heap.size, 0, none⟩ (.int .i64 z.p.src)).setCell ⟨w.heap.size, 1, none⟩ (.int .i64 z.p.dst)).setCell ⟨w.heap.size, 2, none⟩ (.int .i64 z.p.kind)).setCell ⟨w.heap.size, 3, none⟩ (.int .i64 z.p.id)).setCell ⟨w.heap.size, 4, none⟩ (.int .i64 z.p.hops)).setCell ⟨w.heap.size, 5, none⟩ (.bool z.p.whole)).setCell ⟨w.heap.size, 6, none⟩ (.int .i64 z.p.off)).setCell ⟨w.heap.size, 7, none⟩ (.bool z.p.more)).setCell ⟨w.heap.size, 8, none⟩ (.slice z.a z.zs.length z.c)) = w3 := ⟨_, rfl⟩
 have xb3 : w3.heap[w.heap.size]? = some (.cells #[.int .i64 z.p.src, .int .i64 z.p.dst, .int .i64 z.p.kind, .int .i64 z.p.id, .int .i64 z.p.hops, .bool z.p.whole, .int .i64 z.p.off, .bool z.p.more, .slice z.a z.zs.length z.c] 29 (0, 0)) := by
  rw [← hw3]
  exact box_put9 _ _ _ _ _ _ _ _ _ xb2
 have far3 : ∀ b, b ≠ w.heap.size → w3.heap[b]? = w2.heap[b]? := fun b hb => by
  rw [← hw3]
  exact box_far9 w2 w.heap.size b hb _ _ _ _ _ _ _ _ _
 have B3 : Below w.heap.size w w3 := by
  rw [← hw3]
  exact box_below9 B2 (Nat.le_refl _) _ _ _ _ _ _ _ _ _
 have dz3 : DataB w3 w1.heap.size z := dz.kept fun b hb => far3 b (by have := (dz.blk b hb).1; omega)
 have zb3 : w3.heap[w.heap.size + 1]? = some (.cells #[.int .i64 0, .int .i64 0, .int .i64 0, .int .i64 0, .int .i64 0, .bool false, .int .i64 0, .bool false, .slice none 0 0] 29 (0, 0)) := (far3 _ (by omega)).trans zb2
 have s23 : w3.heap.size = w2.heap.size := by rw [← hw3]; exact box_size9 w2 w.heap.size _ _ _ _ _ _ _ _ _
 have r0 : w3.cell? ⟨w.heap.size, 0, none⟩ = some (.int .i64 z.p.src) := zCr xb3
 have r1 : w3.cell? ⟨w.heap.size, 1, none⟩ = some (.int .i64 z.p.dst) := zCr xb3
 have r2 : w3.cell? ⟨w.heap.size, 2, none⟩ = some (.int .i64 z.p.kind) := zCr xb3
 have r3 : w3.cell? ⟨w.heap.size, 3, none⟩ = some (.int .i64 z.p.id) := zCr xb3
 have r4 : w3.cell? ⟨w.heap.size, 4, none⟩ = some (.int .i64 z.p.hops) := zCr xb3
 have r5 : w3.cell? ⟨w.heap.size, 5, none⟩ = some (.bool z.p.whole) := zCr xb3
 have r6 : w3.cell? ⟨w.heap.size, 6, none⟩ = some (.int .i64 z.p.off) := zCr xb3
 have r7 : w3.cell? ⟨w.heap.size, 7, none⟩ = some (.bool z.p.more) := zCr xb3
 have r8 : w3.cell? ⟨w.heap.size, 8, none⟩ = some (.slice z.a z.zs.length z.c) := zCr xb3
 have KK : Hid (∀ W : World, Calls Tryz.prog 61 #[.agg #[.int .i64 z.p.src, .int .i64 z.p.dst, .int .i64 z.p.kind, .int .i64 z.p.id, .int .i64 z.p.hops, .bool z.p.whole, .int .i64 z.p.off, .bool z.p.more, .slice z.a z.zs.length z.c]] W fun e w' => e = .returned (.agg #[.int .i64 z.p.src, .int .i64 z.p.dst, .int .i64 z.p.kind, .int .i64 z.p.id, .int .i64 z.p.hops, .bool z.p.whole, .int .i64 z.p.off, .bool z.p.more, .int .i64 z.zs.length]) ∧ Below W.heap.size W w') := fun W => by
  have h := keyed_any z.p z.a z.zs.length z.c W
  unfold Pk.val Pk.kval at h
  exact h
 clear dz B1 B2 xb2 zb2 far3 KO KC
 go_upto_region 4 with fail
 (first | rw [hw3] | skip)
 clear hw3 p0 p1 p2 p3 p4 p5 p6 p7 p8 fzx
 have lx3 := lt_of_block xb3
 have lz3 := lt_of_block zb3
 have lh3 := B3.size
 have KA : Hid (∀ W : World, Below w3.heap.size w3 W → Calls Tryz.prog 69 #[.pointer (some ⟨ob, 0, none⟩), .agg #[.int .i64 z.p.src, .int .i64 z.p.dst, .int .i64 z.p.kind, .int .i64 z.p.id], .agg #[.int .i64 z.p.src, .int .i64 z.p.dst, .int .i64 z.p.kind, .int .i64 z.p.id, .int .i64 z.p.hops, .bool z.p.whole, .int .i64 z.p.off, .bool z.p.more, .slice z.a z.zs.length z.c]] W (OutAt now es (k4of z.p) z W)) := fun W hW => by
  have h := outcomeAt_any lo ob mb ov now es (k4of z.p) z W ((H0.out.below B3).below hW) ((dz3.below hW).le (by omega)) hl
  rw [kval_of] at h
  unfold Pk.val at h
  exact h
 have hzm : z.p.off = 0 → z.p.more = true := fun h0 => by
  cases hh : z.p.more
  ·exact absurd ⟨h0, hh⟩ HCZ.out
  ·rfl
 have HB3 : Hid (Below w.heap.size w w3) := B3
 have HD3 : Hid (DataB w3 w.heap.size z) := dz3.le (by omega)
 have HZD : Hid (DataB w3 w1.heap.size z) := dz3
 have HZB : Hid (w3.heap[w.heap.size + 1]? = some (.cells #[.int .i64 0, .int .i64 0, .int .i64 0, .int .i64 0, .int .i64 0, .bool false, .int .i64 0, .bool false, .slice none 0 0] 29 (0, 0))) := zb3
 have HXB : Hid (w3.heap[w.heap.size]? = some (.cells #[.int .i64 z.p.src, .int .i64 z.p.dst, .int .i64 z.p.kind, .int .i64 z.p.id, .int .i64 z.p.hops, .bool z.p.whole, .int .i64 z.p.off, .bool z.p.more, .slice z.a z.zs.length z.c] 29 (0, 0))) := xb3
 clear B3 dz3 zb3 xb3
 by_cases hz0 : z.p.off = 0
 (have hzt := hzm hz0; clear hzm; go_upto_region 6 with fail; clear hz0 hzt)
 rotate_left
 (have hzf : (z.p.off == 0) = false := (by simp [hz0]); clear hzm hz0; go_upto_region 6 with fail; clear hzf)
 all_goals
  go_wp2_with fail
  refine (KK.out _).mono ?_
  rintro e w4 ⟨rfl, b4⟩
  have xb4 := (b4.block _ (by omega)).trans HXB.out
  have s34 := b4.size
  clear r0 r1 r2 r3 r4 r5 r6 r7 r8
  have r0 : w4.cell? ⟨w.heap.size, 0, none⟩ = some (.int .i64 z.p.src) := zCr xb4
  have r1 : w4.cell? ⟨w.heap.size, 1, none⟩ = some (.int .i64 z.p.dst) := zCr xb4
  have r2 : w4.cell? ⟨w.heap.size, 2, none⟩ = some (.int .i64 z.p.kind) := zCr xb4
  have r3 : w4.cell? ⟨w.heap.size, 3, none⟩ = some (.int .i64 z.p.id) := zCr xb4
  have r4 : w4.cell? ⟨w.heap.size, 4, none⟩ = some (.int .i64 z.p.hops) := zCr xb4
  have r5 : w4.cell? ⟨w.heap.size, 5, none⟩ = some (.bool z.p.whole) := zCr xb4
  have r6 : w4.cell? ⟨w.heap.size, 6, none⟩ = some (.int .i64 z.p.off) := zCr xb4
  have r7 : w4.cell? ⟨w.heap.size, 7, none⟩ = some (.bool z.p.more) := zCr xb4
  have r8 : w4.cell? ⟨w.heap.size, 8, none⟩ = some (.slice z.a z.zs.length z.c) := zCr xb4
  obtain ⟨w5, hw5⟩ : ∃ w5, w4.alloc (.cells #[.int .i64 z.p.src, .int .i64 z.p.dst, .int .i64 z.p.kind, .int .i64 z.p.id] 103) = w5 := ⟨_, rfl⟩
  have b5 : Below w4.heap.size w4 w5 := by rw [← hw5]; exact zBa _ _
  have kb5 : w5.heap[w4.heap.size]? = some (.cells #[.int .i64 z.p.src, .int .i64 z.p.dst, .int .i64 z.p.kind, .int .i64 z.p.id] 103 (0, 0)) := by
   rw [← hw5]
   exact heap_new _ _ _ rfl
  have xb5 := (b5.block _ (by omega)).trans xb4
  have v0 : w5.cell? ⟨w.heap.size, 0, none⟩ = some (.int .i64 z.p.src) := zCr xb5
  have v1 : w5.cell? ⟨w.heap.size, 1, none⟩ = some (.int .i64 z.p.dst) := zCr xb5
  have v2 : w5.cell? ⟨w.heap.size, 2, none⟩ = some (.int .i64 z.p.kind) := zCr xb5
  have v3 : w5.cell? ⟨w.heap.size, 3, none⟩ = some (.int .i64 z.p.id) := zCr xb5
  have v4 : w5.cell? ⟨w.heap.size, 4, none⟩ = some (.int .i64 z.p.hops) := zCr xb5
  have v5 : w5.cell? ⟨w.heap.size, 5, none⟩ = some (.bool z.p.whole) := zCr xb5
  have v6 : w5.cell? ⟨w.heap.size, 6, none⟩ = some (.int .i64 z.p.off) := zCr xb5
  have v7 : w5.cell? ⟨w.heap.size, 7, none⟩ = some (.bool z.p.more) := zCr xb5
  have v8 : w5.cell? ⟨w.heap.size, 8, none⟩ = some (.slice z.a z.zs.length z.c) := zCr xb5
  have k0 : w5.cell? ⟨w4.heap.size, 0, none⟩ = some (.int .i64 z.p.src) := zCr kb5
  have k1 : w5.cell? ⟨w4.heap.size, 1, none⟩ = some (.int .i64 z.p.dst) := zCr kb5
  have k2 : w5.cell? ⟨w4.heap.size, 2, none⟩ = some (.int .i64 z.p.kind) := zCr kb5
  have k3 : w5.cell? ⟨w4.heap.size, 3, none⟩ = some (.int .i64 z.p.id) := zCr kb5
  have lx4 : w.heap.size < w4.heap.size := by omega
  have nx4 : w.heap.size ≠ w4.heap.size := by omega
  go_wp2_with fail
  (first | rw [hw5] | skip)
  clear hw5 r0 r1 r2 r3 r4 r5 r6 r7 r8 xb4 xb5 v0 v1 v2 v3 v4 v5 v6 v7 v8 k0 k1 k2 k3
  have B5 : Hid (Below w3.heap.size w3 w5) := b4.trans (b5.mono s34)
  refine (KA.out _ B5.out).mono ?_
  rintro e wq hO
  obtain ⟨o, rfl⟩ := hO.ret
  obtain ⟨es', y, c, S1, hP, hl'⟩ := set1_of_out lo ob mb ov now es (k4of z.p) z w w5 wq o H0.out hgd h4 rfl ((HD3.out).below B5.out) (HB3.out.trans (B5.out.mono lh3)) hl hO
  have bq := hO.1
  have HSS : Hid (Set1 z w5 lo ob mb now w wq (k4of z.p) o es' y c) := S1
  have HPK : Hid (pieceK now (es.map fun e => e.s.key) z.key = (es'.map (fun e => e.s.key), y.key, c)) := hP
  have kbq := (bq.block _ (lt_of_block kb5)).trans kb5
  have zbq : Hid (wq.heap[w.heap.size + 1]? = some (.cells #[.int .i64 0, .int .i64 0, .int .i64 0, .int .i64 0, .int .i64 0, .bool false, .int .i64 0, .bool false, .slice none 0 0] 29 (0, 0))) := (bq.block _ (by have := b5.size; omega)).trans ((B5.out.block _ lz3).trans HZB.out)
  have Bq : Hid (Below w.heap.size w wq) := HB3.out.trans ((B5.out.mono lh3).trans (bq.mono (by have := b5.size; omega)))
  have u0 : wq.cell? ⟨w4.heap.size, 0, none⟩ = some (.int .i64 z.p.src) := zCr kbq
  have u1 : wq.cell? ⟨w4.heap.size, 1, none⟩ = some (.int .i64 z.p.dst) := zCr kbq
  have u2 : wq.cell? ⟨w4.heap.size, 2, none⟩ = some (.int .i64 z.p.kind) := zCr kbq
  have u3 : wq.cell? ⟨w4.heap.size, 3, none⟩ = some (.int .i64 z.p.id) := zCr kbq
  have KS : Hid (Calls Tryz.prog 70 #[.pointer (some ⟨ob, 0, none⟩), .agg #[.int .i64 z.p.src, .int .i64 z.p.dst, .int .i64 z.p.kind, .int .i64 z.p.id], o] wq (fun e W' => e = .returned (.agg #[.int .i64 y.p.src, .int .i64 y.p.dst, .int .i64 y.p.kind, .int .i64 y.p.id, .int .i64 y.p.hops, .bool y.p.whole, .int .i64 y.p.off, .bool y.p.more, .slice y.a y.zs.length y.c]) ∧ ∃ ov', OpenB W' lo ob mb ov' now es' ∧ Only (fun b => lo ≤ b ∧ b < w.heap.size) wq W')) := (by
   have h := S1.settle wq (Below.refl _ _)
   rw [kval_of] at h
   unfold RV.val0 Pk.val at h
   exact h)
  obtain ⟨ot, ox, f, rfl, hmet, hcf, hcal⟩ := S1.refuse
  have HCAL : Hid (∀ W, Calls Tryz.prog f #[ox] W (fun e W' => e = .returned (errVal c) ∧ Below W.heap.size W W')) := hcal
  have s5 := b5.size
  clear KA KK hO S1 hP hcal bq kbq b4 b5 kb5 B5 HXB HZB HD3 HB3
  go_wp2_with fail
  refine KS.out.mono ?_
  rintro e w6 ⟨rfl, ov', O6, on6⟩
  have zb6 : w6.heap[w.heap.size + 1]? = some (.cells #[.int .i64 0, .int .i64 0, .int .i64 0, .int .i64 0, .int .i64 0, .bool false, .int .i64 0, .bool false, .slice none 0 0] 29 (0, 0)) := (on6.block _ (lt_of_block zbq.out) (by omega)).trans zbq.out
  have HO6 : Hid (OpenB w6 lo ob mb ov' now es') := O6
  have HON : Hid (Only (fun b => lo ≤ b ∧ b < w.heap.size) wq w6) := on6
  clear O6 on6 u0 u1 u2 u3 KS
  go_wp2_with fail
  refine (HCAL.out _).mono ?_
  rintro e w7 ⟨rfl, b7⟩
  have zb7 := (b7.block _ (lt_of_block zb6)).trans zb6
  have q0 : w7.cell? ⟨w.heap.size + 1, 0, none⟩ = some (.int .i64 0) := zCr zb7
  have q1 : w7.cell? ⟨w.heap.size + 1, 1, none⟩ = some (.int .i64 0) := zCr zb7
  have q2 : w7.cell? ⟨w.heap.size + 1, 2, none⟩ = some (.int .i64 0) := zCr zb7
  have q3 : w7.cell? ⟨w.heap.size + 1, 3, none⟩ = some (.int .i64 0) := zCr zb7
  have q4 : w7.cell? ⟨w.heap.size + 1, 4, none⟩ = some (.int .i64 0) := zCr zb7
  have q5 : w7.cell? ⟨w.heap.size + 1, 5, none⟩ = some (.bool false) := zCr zb7
  have q6 : w7.cell? ⟨w.heap.size + 1, 6, none⟩ = some (.int .i64 0) := zCr zb7
  have q7 : w7.cell? ⟨w.heap.size + 1, 7, none⟩ = some (.bool false) := zCr zb7
  have q8 : w7.cell? ⟨w.heap.size + 1, 8, none⟩ = some (.slice none 0 0) := zCr zb7
  have fz : ∀ o, w7.frozen? ⟨w.heap.size + 1, o, none⟩ = false := fun o => zUf zb7 o
  have lz7 := lt_of_block zb7
  have FIN2 : Hid (∀ W', (∀ b, b < w7.heap.size → b ≠ w.heap.size + 1 → W'.heap[b]? = w7.heap[b]?) → W'.os = w7.os → W'.tape = w7.tape → W'.output = w7.output → W'.heap.size = w7.heap.size → TakeQ lo ob mb now es x.key w (.returned (.tuple #[y.val0, errVal c])) W') := fun W' hk h1 h2 h3 h5 => by
   have O7 := HO6.out.below b7
   have D7 : DataB w7 lo y := (HSS.out.data.kept fun b hb => HON.out.block b (HSS.out.data.blk b hb).2.1 (by have := (HSS.out.apart b hb).2; omega)).below b7
   have nz : ∀ (b : Nat) (cu : Array Value) (t : TypeId), w7.heap[b]? = some (.cells cu t (0, 0)) → t ≠ 29 → b ≠ w.heap.size + 1 := fun b cu t hb ht e => by
    rw [e, zb7] at hb
    cases hb
    exact ht rfl
   have nf : ∀ b ∈ (es'.map Ent.s).flatMap SV.blks, b ≠ w.heap.size + 1 := fun b hb e => by
    rcases HSS.out.far b hb with h1 | h1 | h1
    ·omega
    ·have := (HZD.out.blk b h1).1
     omega
    ·omega
   have O8 : OpenB W' lo ob mb ov' now es' := by
    refine O7.kept (hk _ (lt_of_block O7.box) (nz _ _ _ O7.box (by decide))) (hk _ O7.map_.lt (fun e => ?_)) (fun k hk' => ?_) (fun e he => hk _ (lt_of_block (O7.slot e he)) (nz _ _ _ (O7.slot e he) (by decide))) (fun b hb => hk _ (O7.forest.blk b hb).2.1 (nf b hb))
    ·obtain ⟨es9, c9, h9, _⟩ := O7.map_
     rw [e, zb7] at h9
     cases h9
    ·obtain ⟨cu, hc⟩ := O7.order_at k hk'
     exact hk _ (lt_of_block hc) (nz _ _ _ hc (by decide))
   have sq6 := HON.out.size
   have s67 := b7.size
   have BL : Below lo w W' := by
    have h6 : Below lo wq w6 := HON.out.below (fun b hb => hb.1) (Nat.le_trans hlow Bq.out.size)
    have h7 := ((Bq.out.mono hlow).trans h6).trans (b7.mono (Nat.le_trans (Nat.le_trans hlow Bq.out.size) sq6))
    exact ⟨h1.trans h7.os, h2.trans h7.tape, h3.trans h7.output, by rw [h5]; exact h7.size, fun b hb => (hk b (by have := h7.size; omega) (by omega)).trans (h7.block b hb)⟩
   refine ⟨y, c, ov', es', rfl, HTK.out.trans (by rw [← HZK.out]; exact HPK.out), O8, D7.kept fun b hb => hk b (D7.blk b hb).2.1 (fun e => ?_), HSS.out.apart, hl', BL⟩
   obtain ⟨_, _, cu, hc⟩ := D7.blk b hb
   exact nz _ _ _ hc (by decide) e
  clear HPK HTK HZK HSS HON HO6 Bq zbq b7 zb7 zb6 HZD hmet hcf HCAL
  go_wp2
  refine bodyPost_ret (v := .tuple #[y.val0, errVal c]) (by simp [results, Tryz.results32, go_sem, RV.val0, Pk.val, q0, q1, q2, q3, q4, q5, q6, q7, q8]) rfl (FIN2.out _ (fun b _ hb => box_far9 w7 (w.heap.size + 1) b hb _ _ _ _ _ _ _ _ _) ?_ ?_ ?_ (box_size9 w7 _ _ _ _ _ _ _ _ _ _))
  all_goals simp [World.setCell]
end Go.Proofs.YtjbkgmbakjnlhaaGreatDoor
