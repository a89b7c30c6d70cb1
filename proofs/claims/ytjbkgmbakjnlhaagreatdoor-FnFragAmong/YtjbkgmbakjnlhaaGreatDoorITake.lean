import Derived.Test.YtjbkgmbakjnlhaaGreatDoorPartAq
import Derived.Test.YtjbkgmbakjnlhaaGreatDoorPartAr
namespace Go.Proofs.YtjbkgmbakjnlhaaGreatDoor
set_option maxRecDepth 100000
open Go.RowKit
theorem take_any (lo ob mb : Nat) (ov : Value) (now : Int) (es : List Ent) (x : RV) (w : World) (h : OpenB w lo ob mb ov now es) (hx : ROk w x) (hl : ∀ e ∈ es, e.s.xs.length ≤ 1000) (hgd : ∀ e ∈ es, e.good) (h4 : es.length ≤ 4) :
  Calls Tryz.prog 32 #[.pointer (some ⟨ob, 0, none⟩), x.p.val (.slice x.a x.zs.length x.c)] w (TakeQ lo ob mb now es x.key w) := by
 cases hok : okB x.p x.zs.length with
 | false => exact take_bad lo ob mb ov now es x w h hx hl hgd h4 hok
 | true =>
  by_cases hcut : x.p.off = 0 ∧ x.p.more = false
  ·exact take_whole lo ob mb ov now es x w h hx hl hgd h4 hok hcut
  ·exact take_cut lo ob mb ov now es x w h hx hl hgd h4 hok hcut
structure TAns (w : World) (lo : Nat) (now : Int) (ks : List SK) (oa : Option Addr) (cc : Nat) (ts : List SV) (y : RV) : Prop where
 keys : ts.map SV.key = ks
 len : ts.length ≤ 4
 cap : ts.length ≤ cc
 capM : cc ≤ 9223372036854775807
 ans : AnsV w lo oa ts
 data : DataB w lo y
def TApart (oa : Option Addr) (ts : List SV) (y : RV) : Prop := ∀ b ∈ y.blk, (∀ g, oa = some ⟨g, 0, none⟩ → b ≠ g) ∧ b ∉ ts.flatMap SV.blks
def TakePostI (now : Int) (ss : List SV) (x : PB) (w : World) (e : Ending) (w' : World) : Prop :=
 ∃ now' ks oa cc ts y c, e = .returned (.tuple #[.agg #[.int .i64 now', .slice oa ts.length cc], y.val0, .int .i64 c]) ∧ TakeP now ss x now' ks y.key c ∧ TAns w' w.heap.size now' ks oa cc ts y ∧ TApart oa ts y ∧ Below w.heap.size w w'
theorem good_len {es : List Ent} {ss : List SV} {now : Int} (hB : benchOk now ss) (hk : es.map (fun e => e.s.key) = ss.map SV.key) : ∀ e ∈ es, e.s.xs.length ≤ 1000 := by
 intro e he
 have hm : e.s.key ∈ ss.map SV.key := by rw [← hk]; exact List.mem_map.2 ⟨e, he, rfl⟩
 obtain ⟨s, hs, hse⟩ := List.mem_map.1 hm
 obtain ⟨j, hj⟩ := List.getElem?_of_mem hs
 have hw := (hB.2.2 j s hj).2.1.1
 have e1 : e.s.xs.map RV.key = s.xs.map RV.key := (congrArg Prod.fst hse).symm
 have hal : alikeL (s.xs.map RV.key) = true := by
  cases e2 : alikeL (s.xs.map RV.key) with
  | true => rfl
  | false => have := (join_one _).2 e2; omega
 have := (alike_ok hal).1
 have := map_len e1
 omega
set_option maxHeartbeats 6400000 in
theorem implTake_any (now : Int) (oa : Option Addr) (cl : Nat) (ss : List SV) (x : RV) (w : World) (hL : SLq w oa ss) (hm : ss.length ≤ 1048576) (hc : ss.length ≤ cl) (hcm : cl ≤ 9223372036854775807) (hx : ROk w x) (hg : GoodErr w) :
  Calls Tryz.prog 10 #[.agg #[.int .i64 now, .slice oa ss.length cl], .agg #[.int .i64 x.p.src, .int .i64 x.p.dst, .int .i64 x.p.kind, .int .i64 x.p.id, .int .i64 x.p.hops, .bool x.p.whole, .int .i64 x.p.off, .bool x.p.more, .slice x.a x.zs.length x.c]] w (TakePostI now ss x.key w) := by
 have lg := hg.lt
 have HG : Hid (GoodErr w) := hg
 have HX : Hid (ROk w x) := hx
 have KO : Hid (∀ W : World, Below w.heap.size w W → Calls Tryz.prog 26 #[.agg #[.int .i64 now, .slice oa ss.length cl]] W fun e w' => Below W.heap.size W w' ∧ ((¬ benchOk now ss ∧ e = .returned (.tuple #[.pointer none, errVal 1])) ∨
   (benchOk now ss ∧ ∃ ob mb ov es, e = .returned (.tuple #[.pointer (some ⟨ob, 0, none⟩), errVal 0]) ∧ OpenB w' W.heap.size ob mb ov now es ∧ es.map (fun e => e.s.key) = ss.map SV.key ∧ ∀ e ∈ es, e.good))) := fun W h => opened_any now oa cl ss W (hL.below h) hm hc hcm
 obtain ⟨W, hW⟩ : ∃ W, (((w.alloc (.cells #[.int .i64 now, .slice oa ss.length cl] 27)).alloc (.cells #[.int .i64 x.p.src, .int .i64 x.p.dst, .int .i64 x.p.kind, .int .i64 x.p.id, .int .i64 x.p.hops, .bool x.p.whole, .int .i64 x.p.off, .bool x.p.more, .slice x.a x.zs.length x.c] 29)).alloc (.cells #[.int .i64 0, .slice none 0 0] 27)).alloc (.cells #[.int .i64 0, .int .i64 0, .int .i64 0, .int .i64 0, .int .i64 0, .bool false, .int .i64 0, .bool false, .slice none 0 0] 29) = W := ⟨_, rfl⟩
 have bW : Below w.heap.size w W := by rw [← hW]; exact (Joins.below_alloc3 _ _ _ _).trans ((zBa _ _).mono (by simp; omega))
 have sW : W.heap.size = w.heap.size + 4 := by rw [← hW]; simp
 have x0 : W.heap[w.heap.size]? = some (.cells #[.int .i64 now, .slice oa ss.length cl] 27 (0, 0)) := by rw [← hW]; exact (zHa (by simp; omega)).trans ((zHa (by simp; omega)).trans ((zHa (by simp)).trans (heap_new _ _ _ rfl)))
 have x1 : W.heap[w.heap.size + 1]? = some (.cells #[.int .i64 x.p.src, .int .i64 x.p.dst, .int .i64 x.p.kind, .int .i64 x.p.id, .int .i64 x.p.hops, .bool x.p.whole, .int .i64 x.p.off, .bool x.p.more, .slice x.a x.zs.length x.c] 29 (0, 0)) := by rw [← hW]; exact (zHa (by simp)).trans ((zHa (by simp)).trans (heap_new _ _ _ (by simp)))
 have x2 : W.heap[w.heap.size + 2]? = some (.cells #[.int .i64 0, .slice none 0 0] 27 (0, 0)) := by rw [← hW]; exact (zHa (by simp)).trans (heap_new _ _ _ (by simp))
 have x3 : W.heap[w.heap.size + 3]? = some (.cells #[.int .i64 0, .int .i64 0, .int .i64 0, .int .i64 0, .int .i64 0, .bool false, .int .i64 0, .bool false, .slice none 0 0] 29 (0, 0)) := by rw [← hW]; exact heap_new _ _ _ (by simp)
 have y0 : W.cell? ⟨w.heap.size, 0, none⟩ = some (.int .i64 now) := zCr x0
 have y1 : W.cell? ⟨w.heap.size, 1, none⟩ = some (.slice oa ss.length cl) := zCr x0
 have X1 : Hid (W.heap[w.heap.size + 1]? = some (.cells #[.int .i64 x.p.src, .int .i64 x.p.dst, .int .i64 x.p.kind, .int .i64 x.p.id, .int .i64 x.p.hops, .bool x.p.whole, .int .i64 x.p.off, .bool x.p.more, .slice x.a x.zs.length x.c] 29 (0, 0))) := x1
 have X2 : Hid (W.heap[w.heap.size + 2]? = some (.cells #[.int .i64 0, .slice none 0 0] 27 (0, 0))) := x2
 have X3 : Hid (W.heap[w.heap.size + 3]? = some (.cells #[.int .i64 0, .int .i64 0, .int .i64 0, .int .i64 0, .int .i64 0, .bool false, .int .i64 0, .bool false, .slice none 0 0] 29 (0, 0))) := x3
 clear hL hg hx x0 x1 x2 x3
 go_enter Tryz.func10, Tryz.ntmps10
 go_wp2_with fail
 (first | rw [hW] | skip)
 clear hW y0 y1
 refine (KO.out _ bW).mono ?_
 rintro e w1 ⟨b1, hcase⟩
 have B1 : Hid (Below w.heap.size w w1) := bW.trans (b1.mono (by omega))
 have s1 : w.heap.size + 4 ≤ w1.heap.size := by have := b1.size; omega
 have r1 : w1.heap[w.heap.size + 1]? = _ := (b1.block _ (by omega)).trans X1.out
 have R2 : Hid (w1.heap[w.heap.size + 2]? = some (.cells #[.int .i64 0, .slice none 0 0] 27 (0, 0))) := (b1.block _ (by omega)).trans X2.out
 have R3 : Hid (w1.heap[w.heap.size + 3]? = some (.cells #[.int .i64 0, .int .i64 0, .int .i64 0, .int .i64 0, .int .i64 0, .bool false, .int .i64 0, .bool false, .slice none 0 0] 29 (0, 0))) := (b1.block _ (by omega)).trans X3.out
 have G1 : Hid (GoodErr w1) := HG.out.below B1.out lg
 clear KO b1 X1 X2 X3 bW
 rcases hcase with ⟨hn, rfl⟩ | ⟨hB, ob, mb, ov, es, rfl, O1, hk1, hgd⟩
 ·have KE : Hid (∀ W : World, GoodErr W → Calls Tryz.prog 27 #[.iface 96 (.agg #[.int .i64 1])] W fun e w' => e = .returned (.int .i64 1) ∧ Below W.heap.size W w') := fun W h => codeOf_any 1 W h
  rw [errVal_ne (show (1 : Int) ≠ 0 by decide)]
  have HB : Hid (¬ benchOk now ss) := hn
  clear hn r1
  go_wp2_with fail
  refine (KE.out _ G1.out).mono ?_
  rintro e w2 ⟨rfl, b2⟩
  have B2 : Hid (Below w.heap.size w w2) := B1.out.trans (b2.mono (by omega))
  have s2 := b2.size
  have q2 := (b2.block _ (lt_of_block R2.out)).trans R2.out
  have q3 := (b2.block _ (lt_of_block R3.out)).trans R3.out
  have z0 : w2.cell? ⟨w.heap.size + 2, 0, none⟩ = some (.int .i64 0) := zCr q2
  have z1 : w2.cell? ⟨w.heap.size + 2, 1, none⟩ = some (.slice none 0 0) := zCr q2
  have fz : ∀ o, w2.frozen? ⟨w.heap.size + 2, o, none⟩ = false := fun o => zUf q2 o
  have fy : ∀ o, w2.frozen? ⟨w.heap.size + 3, o, none⟩ = false := fun o => zUf q3 o
  have p0 : w2.cell? ⟨w.heap.size + 3, 0, none⟩ = some (.int .i64 0) := zCr q3
  have p1 : w2.cell? ⟨w.heap.size + 3, 1, none⟩ = some (.int .i64 0) := zCr q3
  have p2 : w2.cell? ⟨w.heap.size + 3, 2, none⟩ = some (.int .i64 0) := zCr q3
  have p3 : w2.cell? ⟨w.heap.size + 3, 3, none⟩ = some (.int .i64 0) := zCr q3
  have p4 : w2.cell? ⟨w.heap.size + 3, 4, none⟩ = some (.int .i64 0) := zCr q3
  have p5 : w2.cell? ⟨w.heap.size + 3, 5, none⟩ = some (.bool false) := zCr q3
  have p6 : w2.cell? ⟨w.heap.size + 3, 6, none⟩ = some (.int .i64 0) := zCr q3
  have p7 : w2.cell? ⟨w.heap.size + 3, 7, none⟩ = some (.bool false) := zCr q3
  have p8 : w2.cell? ⟨w.heap.size + 3, 8, none⟩ = some (.slice none 0 0) := zCr q3
  have FIN : Hid (∀ W', (∀ b, b < w2.heap.size → b ≠ w.heap.size + 2 → b ≠ w.heap.size + 3 → W'.heap[b]? = w2.heap[b]?) → W'.os = w2.os → W'.tape = w2.tape → W'.output = w2.output → W'.heap.size = w2.heap.size → TakePostI now ss x.key w (.returned (.tuple #[.agg #[.int .i64 0, .slice none 0 0], zeroV, .int .i64 1])) W') := fun W' hk h1 h2 h3 h5 =>
   ⟨0, [], none, 0, [], zeroRV, 1, rfl, Or.inl ⟨HB.out, rfl, rfl, rfl, rfl⟩, ⟨rfl, by simp, by simp, by omega, Or.inl ⟨rfl, rfl⟩, zeroRV_data _ _⟩, (fun b h => by cases h), ⟨h1.trans B2.out.os, h2.trans B2.out.tape, h3.trans B2.out.output, by rw [h5]; exact B2.out.size, fun b hb => (hk b (by omega) (by omega) (by omega)).trans (B2.out.block b hb)⟩⟩
  have l2 : w.heap.size + 3 < w2.heap.size := by omega
  have l3 : w.heap.size + 2 < w2.heap.size := by omega
  clear b2 q2 q3 KE HB B2 B1
  go_wp2
  refine bodyPost_ret (v := .tuple #[.agg #[.int .i64 0, .slice none 0 0], zeroV, .int .i64 1]) (by simp [results, Tryz.results10, go_sem, zeroV, z0, z1, p0, p1, p2, p3, p4, p5, p6, p7, p8]) rfl (FIN.out _ (fun b _ h1 h2 => put29_far w2 _ _ b h1 h2 _ _ _ _ _ _ _ _ _ _ _) ?_ ?_ ?_ (put29_size w2 _ _ _ _ _ _ _ _ _ _ _ _ _))
  all_goals simp [World.setCell]
 ·rw [errVal_zero]
  have hss := hB.2.1
  have hel : es.length = ss.length := map_len hk1
  have hlen := good_len hB hk1
  have O1' : Hid (OpenB w1 (w.heap.size + 4) ob mb ov now es) := (by have h := O1; rw [sW] at h; exact h)
  have HK : Hid (es.map (fun e => e.s.key) = ss.map SV.key) := hk1
  have HB : Hid (benchOk now ss) := hB
  have KT : Hid (Calls Tryz.prog 32 #[.pointer (some ⟨ob, 0, none⟩), .agg #[.int .i64 x.p.src, .int .i64 x.p.dst, .int .i64 x.p.kind, .int .i64 x.p.id, .int .i64 x.p.hops, .bool x.p.whole, .int .i64 x.p.off, .bool x.p.more, .slice x.a x.zs.length x.c]] w1 (TakeQ (w.heap.size + 4) ob mb now es x.key w1)) := (by
   have h := take_any (w.heap.size + 4) ob mb ov now es x w1 O1'.out (HX.out.below B1.out) hlen hgd (by omega)
   unfold Pk.val at h
   exact h)
  unfold TakeQ at KT
  have p0 : w1.cell? ⟨w.heap.size + 1, 0, none⟩ = some (.int .i64 x.p.src) := zCr r1
  have p1 : w1.cell? ⟨w.heap.size + 1, 1, none⟩ = some (.int .i64 x.p.dst) := zCr r1
  have p2 : w1.cell? ⟨w.heap.size + 1, 2, none⟩ = some (.int .i64 x.p.kind) := zCr r1
  have p3 : w1.cell? ⟨w.heap.size + 1, 3, none⟩ = some (.int .i64 x.p.id) := zCr r1
  have p4 : w1.cell? ⟨w.heap.size + 1, 4, none⟩ = some (.int .i64 x.p.hops) := zCr r1
  have p5 : w1.cell? ⟨w.heap.size + 1, 5, none⟩ = some (.bool x.p.whole) := zCr r1
  have p6 : w1.cell? ⟨w.heap.size + 1, 6, none⟩ = some (.int .i64 x.p.off) := zCr r1
  have p7 : w1.cell? ⟨w.heap.size + 1, 7, none⟩ = some (.bool x.p.more) := zCr r1
  have p8 : w1.cell? ⟨w.heap.size + 1, 8, none⟩ = some (.slice x.a x.zs.length x.c) := zCr r1
  clear O1 hk1 hB hgd hlen r1
  go_wp2_with fail
  refine KT.out.mono ?_
  rintro e w2 ⟨y, c, ov', fs, rfl, hP, O2, D2, ap2, hfl, b2⟩
  have B2 : Hid (Below w.heap.size w w2) := B1.out.trans (b2.mono (by omega))
  have R2' : Hid (w2.heap[w.heap.size + 2]? = some (.cells #[.int .i64 0, .slice none 0 0] 27 (0, 0))) := (b2.block _ (by omega)).trans R2.out
  have R3' : Hid (w2.heap[w.heap.size + 3]? = some (.cells #[.int .i64 0, .int .i64 0, .int .i64 0, .int .i64 0, .int .i64 0, .bool false, .int .i64 0, .bool false, .slice none 0 0] 29 (0, 0))) := (b2.block _ (by omega)).trans R3.out
  have s2 : w.heap.size + 4 ≤ w2.heap.size := by have := b2.size; omega
  have HO2 : Hid (OpenB w2 (w.heap.size + 4) ob mb ov' now fs) := O2
  have HD2 : Hid (DataB w2 (w.heap.size + 4) y) := D2
  have HA2 : Hid (∀ b ∈ y.blk, b ∉ (fs.map Ent.s).flatMap SV.blks ∧ w1.heap.size ≤ b) := ap2
  have HP : Hid (TakeP now ss x.key now (fs.map fun e => e.s.key) y.key c) := Or.inr ⟨HB.out, rfl, (by rw [← HK.out]; exact hP)⟩
  have G2 : Hid (GoodErr w2) := HG.out.below B2.out lg
  obtain ⟨ev, hev⟩ : ∃ ev, errVal c = ev := ⟨_, rfl⟩
  have KE : Hid (∀ W : World, GoodErr W → Calls Tryz.prog 27 #[ev] W fun e w' => e = .returned (.int .i64 c) ∧ Below W.heap.size W w') := fun W h => by rw [← hev]; exact codeOf_any c W h
  rw [hev]
  unfold RV.val0 Pk.val
  clear hev O2 D2 ap2 hP b2 KT R2 R3 p0 p1 p2 p3 p4 p5 p6 p7 p8 O1' G1 B1
  obtain ⟨w3, hw3⟩ : ∃ w3, w2.alloc (.cells #[.int .i64 y.p.src, .int .i64 y.p.dst, .int .i64 y.p.kind, .int .i64 y.p.id, .int .i64 y.p.hops, .bool y.p.whole, .int .i64 y.p.off, .bool y.p.more, .slice y.a y.zs.length y.c] 29) = w3 := ⟨_, rfl⟩
  have b3 : Below w2.heap.size w2 w3 := by rw [← hw3]; exact zBa _ _
  have s3 : w3.heap.size = w2.heap.size + 1 := by rw [← hw3]; simp
  have n3 : w3.heap[w2.heap.size]? = some (.cells #[.int .i64 y.p.src, .int .i64 y.p.dst, .int .i64 y.p.kind, .int .i64 y.p.id, .int .i64 y.p.hops, .bool y.p.whole, .int .i64 y.p.off, .bool y.p.more, .slice y.a y.zs.length y.c] 29 (0, 0)) := by rw [← hw3]; exact heap_new _ _ _ rfl
  have p0 : w3.cell? ⟨w2.heap.size, 0, none⟩ = some (.int .i64 y.p.src) := zCr n3
  have p1 : w3.cell? ⟨w2.heap.size, 1, none⟩ = some (.int .i64 y.p.dst) := zCr n3
  have p2 : w3.cell? ⟨w2.heap.size, 2, none⟩ = some (.int .i64 y.p.kind) := zCr n3
  have p3 : w3.cell? ⟨w2.heap.size, 3, none⟩ = some (.int .i64 y.p.id) := zCr n3
  have p4 : w3.cell? ⟨w2.heap.size, 4, none⟩ = some (.int .i64 y.p.hops) := zCr n3
  have p5 : w3.cell? ⟨w2.heap.size, 5, none⟩ = some (.bool y.p.whole) := zCr n3
  have p6 : w3.cell? ⟨w2.heap.size, 6, none⟩ = some (.int .i64 y.p.off) := zCr n3
  have p7 : w3.cell? ⟨w2.heap.size, 7, none⟩ = some (.bool y.p.more) := zCr n3
  have p8 : w3.cell? ⟨w2.heap.size, 8, none⟩ = some (.slice y.a y.zs.length y.c) := zCr n3
  have SK : Hid (∀ U : World, U.heap[w2.heap.size]? = w3.heap[w2.heap.size]? → (fun W => W.cell? ⟨w2.heap.size, 0, none⟩ = some (.int .i64 y.p.src) ∧ W.cell? ⟨w2.heap.size, 1, none⟩ = some (.int .i64 y.p.dst) ∧ W.cell? ⟨w2.heap.size, 2, none⟩ = some (.int .i64 y.p.kind) ∧ W.cell? ⟨w2.heap.size, 3, none⟩ = some (.int .i64 y.p.id) ∧ W.cell? ⟨w2.heap.size, 4, none⟩ = some (.int .i64 y.p.hops) ∧ W.cell? ⟨w2.heap.size, 5, none⟩ = some (.bool y.p.whole) ∧ W.cell? ⟨w2.heap.size, 6, none⟩ = some (.int .i64 y.p.off) ∧ W.cell? ⟨w2.heap.size, 7, none⟩ = some (.bool y.p.more) ∧ W.cell? ⟨w2.heap.size, 8, none⟩ = some (.slice y.a y.zs.length y.c)) U) := fun U h0 => by
   have e0 : ∀ o, U.cell? ⟨w2.heap.size, o, none⟩ = _ := fun o => zCr (h0.trans n3)
   exact ⟨e0 0, e0 1, e0 2, e0 3, e0 4, e0 5, e0 6, e0 7, e0 8⟩
  go_upto_region 5 with fail
  (first | rw [hw3] | skip)
  clear hw3 p0 p1 p2 p3 p4 p5 p6 p7 p8
  refine wp_region_held_drew (S := fun W => W.cell? ⟨w2.heap.size, 0, none⟩ = some (.int .i64 y.p.src) ∧ W.cell? ⟨w2.heap.size, 1, none⟩ = some (.int .i64 y.p.dst) ∧ W.cell? ⟨w2.heap.size, 2, none⟩ = some (.int .i64 y.p.kind) ∧ W.cell? ⟨w2.heap.size, 3, none⟩ = some (.int .i64 y.p.id) ∧ W.cell? ⟨w2.heap.size, 4, none⟩ = some (.int .i64 y.p.hops) ∧ W.cell? ⟨w2.heap.size, 5, none⟩ = some (.bool y.p.whole) ∧ W.cell? ⟨w2.heap.size, 6, none⟩ = some (.int .i64 y.p.off) ∧ W.cell? ⟨w2.heap.size, 7, none⟩ = some (.bool y.p.more) ∧ W.cell? ⟨w2.heap.size, 8, none⟩ = some (.slice y.a y.zs.length y.c)) (by kernel_rfl) (SK.out _ rfl) (fun hH => ?_)
  refine zTk 0 27 (.pointer (some ⟨ob, 0, none⟩)) rfl (fun w hS => by go_simp) hH ?_; simp only [Act.put, zX, zY, zZ]
  refine zTk 3 30 (ev) rfl (fun w hS => by go_simp) hH ?_; simp only [Act.put, zX, zY, zZ]
  refine zTk 2 29 (.agg #[.int .i64 y.p.src, .int .i64 y.p.dst, .int .i64 y.p.kind, .int .i64 y.p.id, .int .i64 y.p.hops, .bool y.p.whole, .int .i64 y.p.off, .bool y.p.more, .slice y.a y.zs.length y.c]) rfl (fun w hS => by obtain ⟨q0, q1, q2, q3, q4, q5, q6, q7, q8⟩ := hS; go_simp) hH ?_; simp only [Act.put, zX, zY, zZ]
  refine zRd 1 (by kernel_rfl) rfl (fun K hK => ?_)
  go_simp
  have hOD : OpenB w3.drew (w.heap.size + 4) ob mb ov' now fs := (HO2.out.below b3).below ((Below.refl _ w3).drew)
  refine (told_any (w.heap.size + 4) ob mb ov' now fs _ hOD (by omega)).mono ?_
  rintro e w4 ⟨gS, rfl, hgs, A4, b4'⟩
  have b4 : Below w3.heap.size w3 w4 := ((Below.refl _ w3).drew).trans b4'
  have s4 : w3.heap.size ≤ w4.heap.size := b4.size
  have HA4 : Hid (AnsB w4 (w.heap.size + 4) gS (fs.map Ent.s)) := A4
  have HGS : Hid (w3.heap.size ≤ gS) := hgs
  have kk4 : ∀ b, b < w3.heap.size → w4.heap[b]? = w3.heap[b]? := fun b hb => b4.block b hb
  go_simp
  refine hK.out _ _ (SK.out _ (b4.block _ (by omega))) (fun hH => ?_)
  clear hK K A4 hgs b4' hOD
  (first | (simp only [Act.put, zX, zY, zZ]) | skip)
  refine zRd 4 (by kernel_rfl) rfl (fun K hK => ?_)
  go_simp
  have hG4 : GoodErr w4 := HG.out.below (B2.out.trans ((b3.mono (by omega)).trans (b4.mono (by omega)))) lg
  (with_reducible refine (KE.out _ hG4).mono ?_)
  rintro e w5 ⟨rfl, b5⟩
  have s5 : w4.heap.size ≤ w5.heap.size := b5.size
  have kk5 : ∀ b, b < w3.heap.size → w5.heap[b]? = w3.heap[b]? := fun b hb => (b5.block b (by omega)).trans (kk4 b hb)
  have c2 := (kk5 _ (by omega)).trans ((b3.block _ (by omega)).trans R2'.out)
  have c3 := (kk5 _ (by omega)).trans ((b3.block _ (by omega)).trans R3'.out)
  go_simp
  refine hK.out _ _ (SK.out _ (kk5 _ (by omega))) (fun hH => ?_)
  clear hK K hG4
  (first | (simp only [Act.put, zX, zY, zZ]) | skip)
  have z0 : w5.cell? ⟨w.heap.size + 2, 0, none⟩ = some (.int .i64 0) := zCr c2
  have z1 : w5.cell? ⟨w.heap.size + 2, 1, none⟩ = some (.slice none 0 0) := zCr c2
  have fz : ∀ o, w5.frozen? ⟨w.heap.size + 2, o, none⟩ = false := fun o => zUf c2 o
  refine zRd 5 (by kernel_rfl) rfl (fun K hK => ?_)
  go_simp
  obtain ⟨w6, hw6⟩ : ∃ w6, (w5.setCell ⟨w.heap.size + 2, 0, none⟩ (.int .i64 now)).setCell ⟨w.heap.size + 2, 1, none⟩ (.slice (some ⟨gS, 0, none⟩) fs.length fs.length) = w6 := ⟨_, rfl⟩
  have f6 : ∀ b, b ≠ w.heap.size + 2 → w6.heap[b]? = w5.heap[b]? := fun b hb => by rw [← hw6]; exact (zHs hb).trans (zHs hb)
  have c6 : w6.heap[w.heap.size + 2]? = some (.cells #[.int .i64 now, .slice (some ⟨gS, 0, none⟩) fs.length fs.length] 27 (0, 0)) := by rw [← hw6]; exact set_at (o := 1) (set_at (o := 0) c2)
  have e6 : w6.os = w5.os ∧ w6.tape = w5.tape ∧ w6.output = w5.output ∧ w6.heap.size = w5.heap.size := by rw [← hw6]; exact ⟨by simp [World.setCell], by simp [World.setCell], by simp [World.setCell], by simp [World.setCell]⟩
  (first | rw [hw6] | skip)
  refine hK.out _ _ (SK.out _ ((f6 _ (by omega)).trans (kk5 _ (by omega)))) (fun hH => ?_)
  clear hK K hw6 z0 z1 fz
  (first | (simp only [Act.put, zX, zY, zZ]) | skip)
  have d3 := (f6 (w.heap.size + 3) (by omega)).trans c3
  have fy : ∀ o, w6.frozen? ⟨w.heap.size + 3, o, none⟩ = false := fun o => zUf d3 o
  have p0 : w6.cell? ⟨w.heap.size + 3, 0, none⟩ = some (.int .i64 0) := zCr d3
  have p1 : w6.cell? ⟨w.heap.size + 3, 1, none⟩ = some (.int .i64 0) := zCr d3
  have p2 : w6.cell? ⟨w.heap.size + 3, 2, none⟩ = some (.int .i64 0) := zCr d3
  have p3 : w6.cell? ⟨w.heap.size + 3, 3, none⟩ = some (.int .i64 0) := zCr d3
  have p4 : w6.cell? ⟨w.heap.size + 3, 4, none⟩ = some (.int .i64 0) := zCr d3
  have p5 : w6.cell? ⟨w.heap.size + 3, 5, none⟩ = some (.bool false) := zCr d3
  have p6 : w6.cell? ⟨w.heap.size + 3, 6, none⟩ = some (.int .i64 0) := zCr d3
  have p7 : w6.cell? ⟨w.heap.size + 3, 7, none⟩ = some (.bool false) := zCr d3
  have p8 : w6.cell? ⟨w.heap.size + 3, 8, none⟩ = some (.slice none 0 0) := zCr d3
  refine zRd 6 (by kernel_rfl) rfl (fun K hK => ?_)
  go_simp
  obtain ⟨w7, hw7⟩ : ∃ w7, (((((((((w6.setCell ⟨w.heap.size + 3, 0, none⟩ (.int .i64 y.p.src)).setCell ⟨w.heap.size + 3, 1, none⟩ (.int .i64 y.p.dst)).setCell ⟨w.heap.size + 3, 2, none⟩ (.int .i64 y.p.kind)).setCell ⟨w.heap.size + 3, 3, none⟩ (.int .i64 y.p.id)).setCell ⟨w.heap.size + 3, 4, none⟩ (.int .i64 y.p.hops)).setCell ⟨w.heap.size + 3, 5, none⟩ (.bool y.p.whole)).setCell ⟨w.heap.size + 3, 6, none⟩ (.int .i64 y.p.off)).setCell ⟨w.heap.size + 3, 7, none⟩ (.bool y.p.more)).setCell ⟨w.heap.size + 3, 8, none⟩ (.slice y.a y.zs.length y.c)) = w7 := ⟨_, rfl⟩
  have f7 : ∀ b, b ≠ w.heap.size + 3 → w7.heap[b]? = w6.heap[b]? := fun b hb => by rw [← hw7]; exact box_far9 w6 _ b hb _ _ _ _ _ _ _ _ _
  have c7 : w7.heap[w.heap.size + 3]? = some (.cells #[.int .i64 y.p.src, .int .i64 y.p.dst, .int .i64 y.p.kind, .int .i64 y.p.id, .int .i64 y.p.hops, .bool y.p.whole, .int .i64 y.p.off, .bool y.p.more, .slice y.a y.zs.length y.c] 29 (0, 0)) := by rw [← hw7]; exact box_put9 _ _ _ _ _ _ _ _ _ d3
  have e7 : w7.os = w6.os ∧ w7.tape = w6.tape ∧ w7.output = w6.output ∧ w7.heap.size = w6.heap.size := by rw [← hw7]; exact ⟨by simp [World.setCell], by simp [World.setCell], by simp [World.setCell], box_size9 w6 _ _ _ _ _ _ _ _ _ _⟩
  (first | rw [hw7] | skip)
  refine hK.out _ _ (SK.out _ ((f7 _ (by omega)).trans ((f6 _ (by omega)).trans (kk5 _ (by omega))))) (fun hH => ?_)
  clear hK K hw7 p0 p1 p2 p3 p4 p5 p6 p7 p8 fy
  (first | (simp only [Act.put, zX, zY, zZ]) | skip)
  refine zTk 7 6 (.int .i64 c) rfl (fun w hS => by go_simp) hH ?_; simp only [Act.put, zX, zY, zZ]
  refine wpAnyH_done (by kernel_rfl) ?_ _
  have c6' := (f7 (w.heap.size + 2) (by omega)).trans c6
  have u0 : w7.cell? ⟨w.heap.size + 2, 0, none⟩ = some (.int .i64 now) := zCr c6'
  have u1 : w7.cell? ⟨w.heap.size + 2, 1, none⟩ = some (.slice (some ⟨gS, 0, none⟩) fs.length fs.length) := zCr c6'
  have p0 : w7.cell? ⟨w.heap.size + 3, 0, none⟩ = some (.int .i64 y.p.src) := zCr c7
  have p1 : w7.cell? ⟨w.heap.size + 3, 1, none⟩ = some (.int .i64 y.p.dst) := zCr c7
  have p2 : w7.cell? ⟨w.heap.size + 3, 2, none⟩ = some (.int .i64 y.p.kind) := zCr c7
  have p3 : w7.cell? ⟨w.heap.size + 3, 3, none⟩ = some (.int .i64 y.p.id) := zCr c7
  have p4 : w7.cell? ⟨w.heap.size + 3, 4, none⟩ = some (.int .i64 y.p.hops) := zCr c7
  have p5 : w7.cell? ⟨w.heap.size + 3, 5, none⟩ = some (.bool y.p.whole) := zCr c7
  have p6 : w7.cell? ⟨w.heap.size + 3, 6, none⟩ = some (.int .i64 y.p.off) := zCr c7
  have p7 : w7.cell? ⟨w.heap.size + 3, 7, none⟩ = some (.bool y.p.more) := zCr c7
  have p8 : w7.cell? ⟨w.heap.size + 3, 8, none⟩ = some (.slice y.a y.zs.length y.c) := zCr c7
  have kk : ∀ b, b < w5.heap.size → b ≠ w.heap.size + 2 → b ≠ w.heap.size + 3 → w7.heap[b]? = w5.heap[b]? := fun b _ h1 h2 => (f7 b h2).trans (f6 b h1)
  have FIN : Hid (TakePostI now ss x.key w (.returned (.tuple #[.agg #[.int .i64 now, .slice (some ⟨gS, 0, none⟩) fs.length fs.length], y.val0, .int .i64 c])) w7) := (by
   have A5 : AnsB w5 (w.heap.size + 4) gS (fs.map Ent.s) := HA4.out.below b5
   have A7 : AnsB w7 w.heap.size gS (fs.map Ent.s) := (A5.kept fun b hb => (f7 b (by omega)).trans (f6 b (by omega))).le (by omega)
   have D5 : DataB w5 (w.heap.size + 4) y := ((HD2.out.below b3).below b4).below b5
   have D7 : DataB w7 w.heap.size y := (D5.kept fun b hb => by
    have := (D5.blk b hb).1
    exact (f7 b (by omega)).trans (f6 b (by omega))).le (by omega)
   refine ⟨now, _, some ⟨gS, 0, none⟩, fs.length, fs.map Ent.s, y, c, by simp, HP.out, ⟨by simp, by simpa using hfl, by simp, by omega, Or.inr ⟨gS, rfl, A7⟩, D7⟩, fun b hb => ⟨fun g hg e => ?_, (HA2.out b hb).1⟩, ?_⟩
   ·cases hg
    have h1 := (HD2.out.blk b hb).2.1
    have h2 := HGS.out
    omega
   ·have h5 : Below w.heap.size w w5 := ((B2.out.trans (b3.mono (by omega))).trans (b4.mono (by omega))).trans (b5.mono (by omega))
    exact ⟨e7.1.trans (e6.1.trans h5.os), e7.2.1.trans (e6.2.1.trans h5.tape), e7.2.2.1.trans (e6.2.2.1.trans h5.output), by rw [e7.2.2.2, e6.2.2.2]; exact h5.size, fun b hb => (kk b (by omega) (by omega) (by omega)).trans (h5.block b hb)⟩)
  clear hH SK kk c7 c6 c6' f7 f6 d3 c2 c3 kk5 kk4
  go_wp2
  refine bodyPost_ret (v := .tuple #[.agg #[.int .i64 now, .slice (some ⟨gS, 0, none⟩) fs.length fs.length], y.val0, .int .i64 c]) (by simp [results, Tryz.results10, go_sem, RV.val0, Pk.val, u0, u1, p0, p1, p2, p3, p4, p5, p6, p7, p8]) rfl FIN.out
end Go.Proofs.YtjbkgmbakjnlhaaGreatDoor
