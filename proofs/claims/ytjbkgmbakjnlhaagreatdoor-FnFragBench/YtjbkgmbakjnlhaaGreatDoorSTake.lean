import Derived.Test.YtjbkgmbakjnlhaaGreatDoorSPutJ
namespace Go.Proofs.YtjbkgmbakjnlhaaGreatDoor
set_option maxRecDepth 100000
open Go.RowKit
theorem l4Put_any (now : Int) (g c i lo : Nat) (ts : List SV) (s : SV) (x : RV) (w : World) (hC : CAns w lo g c ts) (hi : ts[i]? = some s) (hx : ROk w x) (hl : ts.length ≤ 4) (hwt : waits s) (hal : alikeTo s x) :
  Calls Tryz.prog 36 #[.agg #[.int .i64 now, .slice (some ⟨g, 0, none⟩) ts.length c], .int .i64 i, .agg #[.int .i64 x.p.src, .int .i64 x.p.dst, .int .i64 x.p.kind, .int .i64 x.p.id, .int .i64 x.p.hops, .bool x.p.whole, .int .i64 x.p.off, .bool x.p.more, .slice x.a x.zs.length x.c]] w (PutPost now lo ts i s x.key w) := by
 have hs1 : 1 ≤ s.xs.length := by
  obtain ⟨y, hy⟩ := waits_first hwt
  have := (List.getElem?_eq_some_iff.1 hy).1
  omega
 cases hbad : s.bad with
 | true => exact l4Put_bad now g c i lo ts s x w hC hi hx hl hs1 hbad
 | false =>
  by_cases hin : isIn x s.xs
  ·exact l4Put_told now g c i lo ts s x w hC hi hx hl hs1 hbad hin
  ·by_cases h40 : s.xs.length = 40
   ·exact l4Put_full now g c i lo ts s x w hC hi hx hl hs1 hbad hin h40
   ·exact l4Put_join now g c i lo ts s x w hC hi hx hl hs1 hbad hin h40 hwt hal
theorem waits_key {s t : SV} (h : t.key = s.key) (hs : waits s) : waits t := by
 have h1 : t.xs.map RV.key = s.xs.map RV.key := congrArg Prod.fst h
 have h2 : t.bad = s.bad := congrArg (fun k => k.2.2) h
 have h3 : t.xs.length = s.xs.length := map_len h1
 exact ⟨by rw [h1]; exact hs.1, fun hb => by rw [h3]; exact hs.2 (h2.symm.trans hb)⟩
theorem waits_all {now : Int} {ss ts : List SV} (hB : benchOk now ss) (hk : ts.map SV.key = ss.map SV.key) : ∀ (j : Nat) t, ts[j]? = some t → waits t := by
 intro j t ht
 have h1 : (ts.map SV.key)[j]? = some t.key := by rw [List.getElem?_map, ht]; rfl
 rw [hk, List.getElem?_map] at h1
 cases hs : ss[j]? with
 | none => rw [hs] at h1; cases h1
 | some s =>
  rw [hs] at h1
  exact waits_key (Option.some.inj h1).symm (hB.2.2 j s hs).2.1
set_option maxHeartbeats 6400000 in
theorem specTake_any (now : Int) (oa : Option Addr) (cl : Nat) (ss : List SV) (x : RV) (w : World) (hL : SLq w oa ss) (hm : ss.length ≤ 1048576) (hc : ss.length ≤ cl) (hcm : cl ≤ 9223372036854775807) (hx : ROk w x) :
  Calls Tryz.prog 11 #[.agg #[.int .i64 now, .slice oa ss.length cl], .agg #[.int .i64 x.p.src, .int .i64 x.p.dst, .int .i64 x.p.kind, .int .i64 x.p.id, .int .i64 x.p.hops, .bool x.p.whole, .int .i64 x.p.off, .bool x.p.more, .slice x.a x.zs.length x.c]] w (TakePostS now ss x.key w) := by
 have HX : Hid (ROk w x) := hx
 have KB : Hid (∀ W : World, Below w.heap.size w W → Calls Tryz.prog 20 #[.agg #[.int .i64 now, .slice oa ss.length cl]] W (SaysB (benchOk now ss) W)) := fun W h => specBenchOk_q now oa cl ss W (hL.below h) hm hc hcm
 unfold SaysB at KB
 have KC : Hid (∀ W : World, Below w.heap.size w W → Calls Tryz.prog 30 #[.agg #[.int .i64 now, .slice oa ss.length cl]] W fun e w' => ∃ g c ts, e = .returned (.agg #[.int .i64 now, .slice (some ⟨g, 0, none⟩) ss.length c]) ∧ CAns w' W.heap.size g c ts ∧ ts.map SV.key = ss.map SV.key ∧ Below W.heap.size W w') := fun W h => l4Copy_any now oa cl ss W (hL.below h) hm
 obtain ⟨W, hW⟩ : ∃ W, (((w.alloc (.cells #[.int .i64 now, .slice oa ss.length cl] 27)).alloc (.cells #[.int .i64 x.p.src, .int .i64 x.p.dst, .int .i64 x.p.kind, .int .i64 x.p.id, .int .i64 x.p.hops, .bool x.p.whole, .int .i64 x.p.off, .bool x.p.more, .slice x.a x.zs.length x.c] 29)).alloc (.cells #[.int .i64 0, .slice none 0 0] 27)).alloc (.cells #[.int .i64 0, .int .i64 0, .int .i64 0, .int .i64 0, .int .i64 0, .bool false, .int .i64 0, .bool false, .slice none 0 0] 29) = W := ⟨_, rfl⟩
 have bW : Below w.heap.size w W := by rw [← hW]; exact (Joins.below_alloc3 _ _ _ _).trans ((zBa _ _).mono (by simp; omega))
 have sW : W.heap.size = w.heap.size + 4 := by rw [← hW]; simp
 have x0 : W.heap[w.heap.size]? = some (.cells #[.int .i64 now, .slice oa ss.length cl] 27 (0, 0)) := by rw [← hW]; exact (zHa (by simp; omega)).trans ((zHa (by simp; omega)).trans ((zHa (by simp)).trans (heap_new _ _ _ rfl)))
 have x1 : W.heap[w.heap.size + 1]? = some (.cells #[.int .i64 x.p.src, .int .i64 x.p.dst, .int .i64 x.p.kind, .int .i64 x.p.id, .int .i64 x.p.hops, .bool x.p.whole, .int .i64 x.p.off, .bool x.p.more, .slice x.a x.zs.length x.c] 29 (0, 0)) := by rw [← hW]; exact (zHa (by simp)).trans ((zHa (by simp)).trans (heap_new _ _ _ (by simp)))
 have x2 : W.heap[w.heap.size + 2]? = some (.cells #[.int .i64 0, .slice none 0 0] 27 (0, 0)) := by rw [← hW]; exact (zHa (by simp)).trans (heap_new _ _ _ (by simp))
 have x3 : W.heap[w.heap.size + 3]? = some (.cells #[.int .i64 0, .int .i64 0, .int .i64 0, .int .i64 0, .int .i64 0, .bool false, .int .i64 0, .bool false, .slice none 0 0] 29 (0, 0)) := by rw [← hW]; exact heap_new _ _ _ (by simp)
 have y0 : W.cell? ⟨w.heap.size, 0, none⟩ = some (.int .i64 now) := zCr x0
 have y1 : W.cell? ⟨w.heap.size, 1, none⟩ = some (.slice oa ss.length cl) := zCr x0
 have X0 : Hid (W.heap[w.heap.size]? = some (.cells #[.int .i64 now, .slice oa ss.length cl] 27 (0, 0))) := x0
 have X1 : Hid (W.heap[w.heap.size + 1]? = some (.cells #[.int .i64 x.p.src, .int .i64 x.p.dst, .int .i64 x.p.kind, .int .i64 x.p.id, .int .i64 x.p.hops, .bool x.p.whole, .int .i64 x.p.off, .bool x.p.more, .slice x.a x.zs.length x.c] 29 (0, 0))) := x1
 have X2 : Hid (W.heap[w.heap.size + 2]? = some (.cells #[.int .i64 0, .slice none 0 0] 27 (0, 0))) := x2
 have X3 : Hid (W.heap[w.heap.size + 3]? = some (.cells #[.int .i64 0, .int .i64 0, .int .i64 0, .int .i64 0, .int .i64 0, .bool false, .int .i64 0, .bool false, .slice none 0 0] 29 (0, 0))) := x3
 clear hL hx x0 x1 x2 x3
 go_enter Tryz.func11, Tryz.ntmps11
 go_wp2_with fail
 (first | rw [hW] | skip)
 clear hW y0 y1
 refine (KB.out _ bW).mono ?_
 rintro e w1 ⟨b, rfl, hb, b1⟩
 have B1 : Hid (Below w.heap.size w w1) := bW.trans (b1.mono (by omega))
 have s1 : w.heap.size + 4 ≤ w1.heap.size := by have := b1.size; omega
 have R0 : Hid (w1.heap[w.heap.size]? = some (.cells #[.int .i64 now, .slice oa ss.length cl] 27 (0, 0))) := (b1.block _ (by omega)).trans X0.out
 have R1 : Hid (w1.heap[w.heap.size + 1]? = some (.cells #[.int .i64 x.p.src, .int .i64 x.p.dst, .int .i64 x.p.kind, .int .i64 x.p.id, .int .i64 x.p.hops, .bool x.p.whole, .int .i64 x.p.off, .bool x.p.more, .slice x.a x.zs.length x.c] 29 (0, 0))) := (b1.block _ (by omega)).trans X1.out
 have R2 : Hid (w1.heap[w.heap.size + 2]? = some (.cells #[.int .i64 0, .slice none 0 0] 27 (0, 0))) := (b1.block _ (by omega)).trans X2.out
 have R3 : Hid (w1.heap[w.heap.size + 3]? = some (.cells #[.int .i64 0, .int .i64 0, .int .i64 0, .int .i64 0, .int .i64 0, .bool false, .int .i64 0, .bool false, .slice none 0 0] 29 (0, 0))) := (b1.block _ (by omega)).trans X3.out
 have HB : Hid (b = true ↔ benchOk now ss) := hb
 clear KB b1 X0 X1 X2 X3 bW hb
 cases b
 ·have HNB : Hid (¬ benchOk now ss) := fun h => by have := HB.out.2 h; cases this
  have z0 : w1.cell? ⟨w.heap.size + 2, 0, none⟩ = some (.int .i64 0) := zCr R2.out
  have z1 : w1.cell? ⟨w.heap.size + 2, 1, none⟩ = some (.slice none 0 0) := zCr R2.out
  have fz : ∀ o, w1.frozen? ⟨w.heap.size + 2, o, none⟩ = false := fun o => zUf R2.out o
  have fy : ∀ o, w1.frozen? ⟨w.heap.size + 3, o, none⟩ = false := fun o => zUf R3.out o
  have lz2 := lt_of_block R2.out
  have lz3 := lt_of_block R3.out
  have p0 : w1.cell? ⟨w.heap.size + 3, 0, none⟩ = some (.int .i64 0) := zCr R3.out
  have p1 : w1.cell? ⟨w.heap.size + 3, 1, none⟩ = some (.int .i64 0) := zCr R3.out
  have p2 : w1.cell? ⟨w.heap.size + 3, 2, none⟩ = some (.int .i64 0) := zCr R3.out
  have p3 : w1.cell? ⟨w.heap.size + 3, 3, none⟩ = some (.int .i64 0) := zCr R3.out
  have p4 : w1.cell? ⟨w.heap.size + 3, 4, none⟩ = some (.int .i64 0) := zCr R3.out
  have p5 : w1.cell? ⟨w.heap.size + 3, 5, none⟩ = some (.bool false) := zCr R3.out
  have p6 : w1.cell? ⟨w.heap.size + 3, 6, none⟩ = some (.int .i64 0) := zCr R3.out
  have p7 : w1.cell? ⟨w.heap.size + 3, 7, none⟩ = some (.bool false) := zCr R3.out
  have p8 : w1.cell? ⟨w.heap.size + 3, 8, none⟩ = some (.slice none 0 0) := zCr R3.out
  have FIN : Hid (∀ W', (∀ b, b ≠ w.heap.size + 2 → b ≠ w.heap.size + 3 → W'.heap[b]? = w1.heap[b]?) → W'.os = w1.os → W'.tape = w1.tape → W'.output = w1.output → W'.heap.size = w1.heap.size → TakePostS now ss x.key w (.returned (.tuple #[.agg #[.int .i64 0, .slice none 0 0], zeroV, .int .i64 1])) W') := fun W' hk h1 h2 h3 h5 => by
   exact ⟨0, [], none, 0, [], zeroRV, 1, rfl, Or.inl ⟨HNB.out, rfl, rfl, rfl, rfl⟩, ⟨rfl, by simp, by simp, by omega, Or.inl ⟨rfl, rfl⟩, zeroRV_data _ _⟩, ⟨h1.trans B1.out.os, h2.trans B1.out.tape, h3.trans B1.out.output, by rw [h5]; exact B1.out.size, fun b hb => (hk b (by omega) (by omega)).trans (B1.out.block b hb)⟩⟩
  clear KC
  go_wp2
  refine bodyPost_ret (v := .tuple #[.agg #[.int .i64 0, .slice none 0 0], zeroV, .int .i64 1]) (by simp [results, Tryz.results11, go_sem, zeroV, z0, z1, p0, p1, p2, p3, p4, p5, p6, p7, p8]) rfl (FIN.out _ (fun b h1 h2 => put29_far w1 _ _ b h1 h2 _ _ _ _ _ _ _ _ _ _ _) ?_ ?_ ?_ (put29_size w1 _ _ _ _ _ _ _ _ _ _ _ _ _))
  all_goals simp [World.setCell]
 have HBO : Hid (benchOk now ss) := HB.out.1 (by trivial)
 have h4 : ss.length ≤ 4 := HBO.out.2.1
 clear HB
 have a0 : w1.cell? ⟨w.heap.size, 0, none⟩ = some (.int .i64 now) := zCr R0.out
 have a1 : w1.cell? ⟨w.heap.size, 1, none⟩ = some (.slice oa ss.length cl) := zCr R0.out
 go_wp2_with fail
 refine (KC.out _ B1.out).mono ?_
 rintro e w2 ⟨gq, cq, ts, rfl, C2, hk2, b2⟩
 have hts : ts.length = ss.length := map_len hk2
 have s2 := b2.size
 have HK : Hid (ts.map SV.key = ss.map SV.key) := hk2
 have HT : Hid (ts.length = ss.length) := hts
 obtain ⟨w3, hw3⟩ : ∃ w3, w2.alloc (.cells #[.int .i64 now, .slice (some ⟨gq, 0, none⟩) ss.length cq] 27) = w3 := ⟨_, rfl⟩
 have b3 : Below w2.heap.size w2 w3 := by rw [← hw3]; exact zBa _ _
 have s3 : w3.heap.size = w2.heap.size + 1 := by rw [← hw3]; simp
 have N3 : Hid (w3.heap[w2.heap.size]? = some (.cells #[.int .i64 now, .slice (some ⟨gq, 0, none⟩) ss.length cq] 27 (0, 0))) := by rw [← hw3]; exact heap_new _ _ _ rfl
 have b13 : Below w1.heap.size w1 w3 := b2.trans (b3.mono s2)
 have B3 : Hid (Below w.heap.size w w3) := B1.out.trans (b13.mono (by omega))
 have HC3 : Hid (CAns w3 w1.heap.size gq cq ts) := C2.below b3
 have Q1 : Hid (w3.heap[w.heap.size + 1]? = some (.cells #[.int .i64 x.p.src, .int .i64 x.p.dst, .int .i64 x.p.kind, .int .i64 x.p.id, .int .i64 x.p.hops, .bool x.p.whole, .int .i64 x.p.off, .bool x.p.more, .slice x.a x.zs.length x.c] 29 (0, 0))) := (b13.block _ (by omega)).trans R1.out
 have Q2 : Hid (w3.heap[w.heap.size + 2]? = some (.cells #[.int .i64 0, .slice none 0 0] 27 (0, 0))) := (b13.block _ (by omega)).trans R2.out
 have Q3 : Hid (w3.heap[w.heap.size + 3]? = some (.cells #[.int .i64 0, .int .i64 0, .int .i64 0, .int .i64 0, .int .i64 0, .bool false, .int .i64 0, .bool false, .slice none 0 0] 29 (0, 0))) := (b13.block _ (by omega)).trans R3.out
 have lgq := own_lt HC3.out.own gq rfl
 clear KC C2 hk2 b2 b3 b13 R0 R1 R2 R3 a0 a1
 have c0 : w3.cell? ⟨w.heap.size + 1, 0, none⟩ = some (.int .i64 x.p.src) := zCr Q1.out
 have c1 : w3.cell? ⟨w.heap.size + 1, 1, none⟩ = some (.int .i64 x.p.dst) := zCr Q1.out
 have c2 : w3.cell? ⟨w.heap.size + 1, 2, none⟩ = some (.int .i64 x.p.kind) := zCr Q1.out
 have c3 : w3.cell? ⟨w.heap.size + 1, 3, none⟩ = some (.int .i64 x.p.id) := zCr Q1.out
 have c4 : w3.cell? ⟨w.heap.size + 1, 4, none⟩ = some (.int .i64 x.p.hops) := zCr Q1.out
 have c5 : w3.cell? ⟨w.heap.size + 1, 5, none⟩ = some (.bool x.p.whole) := zCr Q1.out
 have c6 : w3.cell? ⟨w.heap.size + 1, 6, none⟩ = some (.int .i64 x.p.off) := zCr Q1.out
 have c7 : w3.cell? ⟨w.heap.size + 1, 7, none⟩ = some (.bool x.p.more) := zCr Q1.out
 have c8 : w3.cell? ⟨w.heap.size + 1, 8, none⟩ = some (.slice x.a x.zs.length x.c) := zCr Q1.out
 have KO : Hid (∀ U : World, Calls Tryz.prog 21 #[.agg #[.int .i64 x.p.src, .int .i64 x.p.dst, .int .i64 x.p.kind, .int .i64 x.p.id, .int .i64 x.p.hops, .bool x.p.whole, .int .i64 x.p.off, .bool x.p.more, .slice x.a x.zs.length x.c]] U fun e w' => e = .returned (.bool (okB x.p x.zs.length)) ∧ Below U.heap.size U w') := fun U => by
  have h := specOk_any x.p x.a x.zs.length x.c U HX.out.len
  unfold Pk.val at h
  exact h
 go_wp2_with fail
 (first | rw [hw3] | skip)
 clear hw3
 refine (KO.out _).mono ?_
 rintro e w4 ⟨rfl, b4⟩
 have s4 := b4.size
 have B4 : Hid (Below w.heap.size w w4) := B3.out.trans (b4.mono (by omega))
 have HC4 : Hid (CAns w4 w1.heap.size gq cq ts) := HC3.out.below b4
 have N4 : Hid (w4.heap[w2.heap.size]? = some (.cells #[.int .i64 now, .slice (some ⟨gq, 0, none⟩) ss.length cq] 27 (0, 0))) := (b4.block _ (by omega)).trans N3.out
 have R1 : Hid (w4.heap[w.heap.size + 1]? = some (.cells #[.int .i64 x.p.src, .int .i64 x.p.dst, .int .i64 x.p.kind, .int .i64 x.p.id, .int .i64 x.p.hops, .bool x.p.whole, .int .i64 x.p.off, .bool x.p.more, .slice x.a x.zs.length x.c] 29 (0, 0))) := (b4.block _ (by omega)).trans Q1.out
 have R2 : Hid (w4.heap[w.heap.size + 2]? = some (.cells #[.int .i64 0, .slice none 0 0] 27 (0, 0))) := (b4.block _ (by omega)).trans Q2.out
 have R3 : Hid (w4.heap[w.heap.size + 3]? = some (.cells #[.int .i64 0, .int .i64 0, .int .i64 0, .int .i64 0, .int .i64 0, .bool false, .int .i64 0, .bool false, .slice none 0 0] 29 (0, 0))) := (b4.block _ (by omega)).trans Q3.out
 have hcap := own_caps HC4.out.own
 rw [hts] at hcap
 have AV : Hid (∀ W', (∀ b, w1.heap.size ≤ b → b < w4.heap.size → W'.heap[b]? = w4.heap[b]?) → AnsV W' w.heap.size (some ⟨gq, 0, none⟩) ts) := fun W' hk => by
  have h : CAns W' w1.heap.size gq cq ts := ⟨own_kept HC4.out.own fun b hb => hk b (own_lt HC4.out.own b hb).1 (own_lt HC4.out.own b hb).2, HC4.out.forest.kept fun b hb => hk b (HC4.out.forest.blk b hb).1 (HC4.out.forest.blk b hb).2.1⟩
  exact Or.inr ⟨gq, rfl, h.ans.le (by omega)⟩
 have n0 : w4.cell? ⟨w2.heap.size, 0, none⟩ = some (.int .i64 now) := zCr N4.out
 have n1 : w4.cell? ⟨w2.heap.size, 1, none⟩ = some (.slice (some ⟨gq, 0, none⟩) ss.length cq) := zCr N4.out
 clear b4 c0 c1 c2 c3 c4 c5 c6 c7 c8 N3 Q1 Q2 Q3 HC3 B3 KO hts
 cases hok : okB x.p x.zs.length
 case false =>
  have HTK : Hid (takeK now (ss.map SV.key) x.key = (ss.map SV.key, zeroPB, 2)) := (by unfold takeK; rw [if_neg (by show ¬ okB x.p x.zs.length = true; rw [hok]; decide)]; exact rfl)
  clear hok
  have z0 : w4.cell? ⟨w.heap.size + 2, 0, none⟩ = some (.int .i64 0) := zCr R2.out
  have z1 : w4.cell? ⟨w.heap.size + 2, 1, none⟩ = some (.slice none 0 0) := zCr R2.out
  have fz : ∀ o, w4.frozen? ⟨w.heap.size + 2, o, none⟩ = false := fun o => zUf R2.out o
  have fy : ∀ o, w4.frozen? ⟨w.heap.size + 3, o, none⟩ = false := fun o => zUf R3.out o
  have lz2 := lt_of_block R2.out
  have lz3 := lt_of_block R3.out
  have p0 : w4.cell? ⟨w.heap.size + 3, 0, none⟩ = some (.int .i64 0) := zCr R3.out
  have p1 : w4.cell? ⟨w.heap.size + 3, 1, none⟩ = some (.int .i64 0) := zCr R3.out
  have p2 : w4.cell? ⟨w.heap.size + 3, 2, none⟩ = some (.int .i64 0) := zCr R3.out
  have p3 : w4.cell? ⟨w.heap.size + 3, 3, none⟩ = some (.int .i64 0) := zCr R3.out
  have p4 : w4.cell? ⟨w.heap.size + 3, 4, none⟩ = some (.int .i64 0) := zCr R3.out
  have p5 : w4.cell? ⟨w.heap.size + 3, 5, none⟩ = some (.bool false) := zCr R3.out
  have p6 : w4.cell? ⟨w.heap.size + 3, 6, none⟩ = some (.int .i64 0) := zCr R3.out
  have p7 : w4.cell? ⟨w.heap.size + 3, 7, none⟩ = some (.bool false) := zCr R3.out
  have p8 : w4.cell? ⟨w.heap.size + 3, 8, none⟩ = some (.slice none 0 0) := zCr R3.out
  have FIN : Hid (∀ W', (∀ b, b ≠ w.heap.size + 2 → b ≠ w.heap.size + 3 → W'.heap[b]? = w4.heap[b]?) → W'.os = w4.os → W'.tape = w4.tape → W'.output = w4.output → W'.heap.size = w4.heap.size → TakePostS now ss x.key w (.returned (.tuple #[.agg #[.int .i64 now, .slice (some ⟨gq, 0, none⟩) ss.length cq], zeroV, .int .i64 2])) W') := fun W' hk h1 h2 h3 h5 => by
   refine ⟨now, ss.map SV.key, some ⟨gq, 0, none⟩, cq, ts, zeroRV, 2, by rw [HT.out]; rfl, Or.inr ⟨HBO.out, rfl, HTK.out⟩, ⟨HK.out, by rw [HT.out]; exact h4, by rw [HT.out]; exact hcap.1, hcap.2, AV.out W' (fun b hb _ => hk b (by omega) (by omega)), zeroRV_data _ _⟩, ⟨h1.trans B4.out.os, h2.trans B4.out.tape, h3.trans B4.out.output, by rw [h5]; exact B4.out.size, fun b hb => (hk b (by omega) (by omega)).trans (B4.out.block b hb)⟩⟩
  clear AV HTK
  go_wp2
  refine bodyPost_ret (v := .tuple #[.agg #[.int .i64 now, .slice (some ⟨gq, 0, none⟩) ss.length cq], zeroV, .int .i64 2]) (by simp [results, Tryz.results11, go_sem, zeroV, z0, z1, p0, p1, p2, p3, p4, p5, p6, p7, p8]) rfl (FIN.out _ (fun b h1 h2 => put29_far w4 _ _ b h1 h2 _ _ _ _ _ _ _ _ _ _ _) ?_ ?_ ?_ (put29_size w4 _ _ _ _ _ _ _ _ _ _ _ _ _))
  all_goals simp [World.setCell]
 case true =>
  have HOK : Hid (okB x.p x.zs.length = true) := hok
  clear hok
  have c0 : w4.cell? ⟨w.heap.size + 1, 0, none⟩ = some (.int .i64 x.p.src) := zCr R1.out
  have c1 : w4.cell? ⟨w.heap.size + 1, 1, none⟩ = some (.int .i64 x.p.dst) := zCr R1.out
  have c2 : w4.cell? ⟨w.heap.size + 1, 2, none⟩ = some (.int .i64 x.p.kind) := zCr R1.out
  have c3 : w4.cell? ⟨w.heap.size + 1, 3, none⟩ = some (.int .i64 x.p.id) := zCr R1.out
  have c4 : w4.cell? ⟨w.heap.size + 1, 4, none⟩ = some (.int .i64 x.p.hops) := zCr R1.out
  have c5 : w4.cell? ⟨w.heap.size + 1, 5, none⟩ = some (.bool x.p.whole) := zCr R1.out
  have c6 : w4.cell? ⟨w.heap.size + 1, 6, none⟩ = some (.int .i64 x.p.off) := zCr R1.out
  have c7 : w4.cell? ⟨w.heap.size + 1, 7, none⟩ = some (.bool x.p.more) := zCr R1.out
  have c8 : w4.cell? ⟨w.heap.size + 1, 8, none⟩ = some (.slice x.a x.zs.length x.c) := zCr R1.out
  by_cases hcut : x.p.off = 0 ∧ x.p.more = false
  ·have HTK : Hid (takeK now (ss.map SV.key) x.key = (ss.map SV.key, x.key, 0)) := (by unfold takeK; rw [if_pos (show okB x.key.1 x.key.2.length = true from HOK.out), if_pos (show x.key.1.off = 0 ∧ x.key.1.more = false from hcut)]; exact rfl)
   obtain ⟨hz0, hz1⟩ := hcut
   go_upto_region 7 with fail
   clear hz0 hz1
   have KL : Hid (∀ U : World, Below w.heap.size w U → Calls Tryz.prog 33 #[.agg #[.int .i64 x.p.src, .int .i64 x.p.dst, .int .i64 x.p.kind, .int .i64 x.p.id, .int .i64 x.p.hops, .bool x.p.whole, .int .i64 x.p.off, .bool x.p.more, .slice x.a x.zs.length x.c]] U fun e w' => ∃ z : RV, e = .returned (.agg #[.int .i64 z.p.src, .int .i64 z.p.dst, .int .i64 z.p.kind, .int .i64 z.p.id, .int .i64 z.p.hops, .bool z.p.whole, .int .i64 z.p.off, .bool z.p.more, .slice z.a z.zs.length z.c]) ∧ z.key = x.key ∧ DataB w' U.heap.size z ∧ Below U.heap.size U w') := fun U h => by
    have h := l1Copy_rv x U (HX.out.below h)
    unfold RV.val Pk.val at h
    exact h
   have SK : Hid (∀ U : World, U.heap[w2.heap.size]? = w4.heap[w2.heap.size]? → U.heap[w.heap.size + 1]? = w4.heap[w.heap.size + 1]? → (fun U => U.cell? ⟨w2.heap.size, 0, none⟩ = some (.int .i64 now) ∧ U.cell? ⟨w2.heap.size, 1, none⟩ = some (.slice (some ⟨gq, 0, none⟩) ss.length cq) ∧ U.cell? ⟨w.heap.size + 1, 0, none⟩ = some (.int .i64 x.p.src) ∧ U.cell? ⟨w.heap.size + 1, 1, none⟩ = some (.int .i64 x.p.dst) ∧ U.cell? ⟨w.heap.size + 1, 2, none⟩ = some (.int .i64 x.p.kind) ∧ U.cell? ⟨w.heap.size + 1, 3, none⟩ = some (.int .i64 x.p.id) ∧ U.cell? ⟨w.heap.size + 1, 4, none⟩ = some (.int .i64 x.p.hops) ∧ U.cell? ⟨w.heap.size + 1, 5, none⟩ = some (.bool x.p.whole) ∧ U.cell? ⟨w.heap.size + 1, 6, none⟩ = some (.int .i64 x.p.off) ∧ U.cell? ⟨w.heap.size + 1, 7, none⟩ = some (.bool x.p.more) ∧ U.cell? ⟨w.heap.size + 1, 8, none⟩ = some (.slice x.a x.zs.length x.c)) U) := fun U h0 h1 => by
    have e0 : ∀ o, U.cell? ⟨w2.heap.size, o, none⟩ = _ := fun o => zCr (h0.trans N4.out)
    have e1 : ∀ o, U.cell? ⟨w.heap.size + 1, o, none⟩ = _ := fun o => zCr (h1.trans R1.out)
    exact ⟨e0 0, e0 1, e1 0, e1 1, e1 2, e1 3, e1 4, e1 5, e1 6, e1 7, e1 8⟩
   refine wp_region_held_drew (S := fun U => U.cell? ⟨w2.heap.size, 0, none⟩ = some (.int .i64 now) ∧ U.cell? ⟨w2.heap.size, 1, none⟩ = some (.slice (some ⟨gq, 0, none⟩) ss.length cq) ∧ U.cell? ⟨w.heap.size + 1, 0, none⟩ = some (.int .i64 x.p.src) ∧ U.cell? ⟨w.heap.size + 1, 1, none⟩ = some (.int .i64 x.p.dst) ∧ U.cell? ⟨w.heap.size + 1, 2, none⟩ = some (.int .i64 x.p.kind) ∧ U.cell? ⟨w.heap.size + 1, 3, none⟩ = some (.int .i64 x.p.id) ∧ U.cell? ⟨w.heap.size + 1, 4, none⟩ = some (.int .i64 x.p.hops) ∧ U.cell? ⟨w.heap.size + 1, 5, none⟩ = some (.bool x.p.whole) ∧ U.cell? ⟨w.heap.size + 1, 6, none⟩ = some (.int .i64 x.p.off) ∧ U.cell? ⟨w.heap.size + 1, 7, none⟩ = some (.bool x.p.more) ∧ U.cell? ⟨w.heap.size + 1, 8, none⟩ = some (.slice x.a x.zs.length x.c)) (by kernel_rfl) (SK.out _ rfl rfl) (fun hH => ?_)
   refine zTk 0 32 (.agg #[.int .i64 now, .slice (some ⟨gq, 0, none⟩) ss.length cq]) rfl (fun w hS => by obtain ⟨s0, s1, q0, q1, q2, q3, q4, q5, q6, q7, q8⟩ := hS; go_simp) hH ?_; simp only [Act.put, zX, zY, zZ]
   refine zTk 1 33 (.agg #[.int .i64 x.p.src, .int .i64 x.p.dst, .int .i64 x.p.kind, .int .i64 x.p.id, .int .i64 x.p.hops, .bool x.p.whole, .int .i64 x.p.off, .bool x.p.more, .slice x.a x.zs.length x.c]) rfl (fun w hS => by obtain ⟨s0, s1, q0, q1, q2, q3, q4, q5, q6, q7, q8⟩ := hS; go_simp) hH ?_; simp only [Act.put, zX, zY, zZ]
   refine zRd 2 (by kernel_rfl) rfl (fun K hK => ?_)
   go_simp
   (with_reducible refine (KL.out _ B4.out.drew).mono ?_)
   rintro e w5 ⟨z, rfl, hzk, DZ, b5'⟩
   have b5 : Below w4.heap.size w4 w5 := ((Below.refl _ w4).drew).trans b5'
   have s5 := b5.size
   have DZ5 : DataB w5 w4.heap.size z := DZ
   go_simp
   refine hK.out _ _ (SK.out _ (b5.block _ (by omega)) (b5.block _ (by omega))) (fun hH => ?_)
   clear hK K DZ b5'
   (first | (simp only [Act.put, zX, zY, zZ]) | skip)
   have q2 : w5.heap[w.heap.size + 2]? = some (.cells #[.int .i64 0, .slice none 0 0] 27 (0, 0)) := (b5.block _ (by omega)).trans R2.out
   have q3 : w5.heap[w.heap.size + 3]? = some (.cells #[.int .i64 0, .int .i64 0, .int .i64 0, .int .i64 0, .int .i64 0, .bool false, .int .i64 0, .bool false, .slice none 0 0] 29 (0, 0)) := (b5.block _ (by omega)).trans R3.out
   have z0 : w5.cell? ⟨w.heap.size + 1 + 1, 0, none⟩ = some (.int .i64 0) := zCr q2
   have z1 : w5.cell? ⟨w.heap.size + 1 + 1, 1, none⟩ = some (.slice none 0 0) := zCr q2
   have fz : ∀ o, w5.frozen? ⟨w.heap.size + 1 + 1, o, none⟩ = false := fun o => zUf q2 o
   refine zRd 3 (by kernel_rfl) rfl (fun K hK => ?_)
   go_simp
   obtain ⟨w6, hw6⟩ : ∃ u, (w5.setCell ⟨w.heap.size + 1 + 1, 0, none⟩ (.int .i64 now)).setCell ⟨w.heap.size + 1 + 1, 1, none⟩ (.slice (some ⟨gq, 0, none⟩) ss.length cq) = u := ⟨_, rfl⟩
   have f6 : ∀ b, b ≠ w.heap.size + 2 → w6.heap[b]? = w5.heap[b]? := fun b hb => by rw [← hw6]; exact (zHs hb).trans (zHs hb)
   have c6' : w6.heap[w.heap.size + 2]? = some (.cells #[.int .i64 now, .slice (some ⟨gq, 0, none⟩) ss.length cq] 27 (0, 0)) := by rw [← hw6]; exact set_at (o := 1) (set_at (o := 0) q2)
   have e6 : w6.os = w5.os ∧ w6.tape = w5.tape ∧ w6.output = w5.output ∧ w6.heap.size = w5.heap.size := by rw [← hw6]; exact ⟨by simp [World.setCell], by simp [World.setCell], by simp [World.setCell], by simp [World.setCell]⟩
   (first | rw [hw6] | skip)
   refine hK.out _ _ (SK.out _ ((f6 _ (by omega)).trans (b5.block _ (by omega))) ((f6 _ (by omega)).trans (b5.block _ (by omega)))) (fun hH => ?_)
   clear hK K hw6 z0 z1 fz
   (first | (simp only [Act.put, zX, zY, zZ]) | skip)
   have d3 := (f6 (w.heap.size + 3) (by omega)).trans q3
   have fy : ∀ o, w6.frozen? ⟨w.heap.size + 1 + 1 + 1, o, none⟩ = false := fun o => zUf d3 o
   have p0 : w6.cell? ⟨w.heap.size + 1 + 1 + 1, 0, none⟩ = some (.int .i64 0) := zCr d3
   have p1 : w6.cell? ⟨w.heap.size + 1 + 1 + 1, 1, none⟩ = some (.int .i64 0) := zCr d3
   have p2 : w6.cell? ⟨w.heap.size + 1 + 1 + 1, 2, none⟩ = some (.int .i64 0) := zCr d3
   have p3 : w6.cell? ⟨w.heap.size + 1 + 1 + 1, 3, none⟩ = some (.int .i64 0) := zCr d3
   have p4 : w6.cell? ⟨w.heap.size + 1 + 1 + 1, 4, none⟩ = some (.int .i64 0) := zCr d3
   have p5 : w6.cell? ⟨w.heap.size + 1 + 1 + 1, 5, none⟩ = some (.bool false) := zCr d3
   have p6 : w6.cell? ⟨w.heap.size + 1 + 1 + 1, 6, none⟩ = some (.int .i64 0) := zCr d3
   have p7 : w6.cell? ⟨w.heap.size + 1 + 1 + 1, 7, none⟩ = some (.bool false) := zCr d3
   have p8 : w6.cell? ⟨w.heap.size + 1 + 1 + 1, 8, none⟩ = some (.slice none 0 0) := zCr d3
   refine zRd 4 (by kernel_rfl) rfl (fun K hK => ?_)
   go_simp
   obtain ⟨w7, hw7⟩ : ∃ u, (((((((((w6.setCell ⟨w.heap.size + 1 + 1 + 1, 0, none⟩ (.int .i64 z.p.src)).setCell ⟨w.heap.size + 1 + 1 + 1, 1, none⟩ (.int .i64 z.p.dst)).setCell ⟨w.heap.size + 1 + 1 + 1, 2, none⟩ (.int .i64 z.p.kind)).setCell ⟨w.heap.size + 1 + 1 + 1, 3, none⟩ (.int .i64 z.p.id)).setCell ⟨w.heap.size + 1 + 1 + 1, 4, none⟩ (.int .i64 z.p.hops)).setCell ⟨w.heap.size + 1 + 1 + 1, 5, none⟩ (.bool z.p.whole)).setCell ⟨w.heap.size + 1 + 1 + 1, 6, none⟩ (.int .i64 z.p.off)).setCell ⟨w.heap.size + 1 + 1 + 1, 7, none⟩ (.bool z.p.more)).setCell ⟨w.heap.size + 1 + 1 + 1, 8, none⟩ (.slice z.a z.zs.length z.c)) = u := ⟨_, rfl⟩
   have f7 : ∀ b, b ≠ w.heap.size + 3 → w7.heap[b]? = w6.heap[b]? := fun b hb => by rw [← hw7]; exact box_far9 w6 _ b hb _ _ _ _ _ _ _ _ _
   have c7' : w7.heap[w.heap.size + 3]? = some (.cells #[.int .i64 z.p.src, .int .i64 z.p.dst, .int .i64 z.p.kind, .int .i64 z.p.id, .int .i64 z.p.hops, .bool z.p.whole, .int .i64 z.p.off, .bool z.p.more, .slice z.a z.zs.length z.c] 29 (0, 0)) := by rw [← hw7]; exact box_put9 _ _ _ _ _ _ _ _ _ d3
   have e7 : w7.os = w6.os ∧ w7.tape = w6.tape ∧ w7.output = w6.output ∧ w7.heap.size = w6.heap.size := by rw [← hw7]; exact ⟨by simp [World.setCell], by simp [World.setCell], by simp [World.setCell], box_size9 w6 _ _ _ _ _ _ _ _ _ _⟩
   (first | rw [hw7] | skip)
   refine hK.out _ _ (SK.out _ (((f7 _ (by omega)).trans (f6 _ (by omega))).trans (b5.block _ (by omega))) (((f7 _ (by omega)).trans (f6 _ (by omega))).trans (b5.block _ (by omega)))) (fun hH => ?_)
   clear hK K hw7 p0 p1 p2 p3 p4 p5 p6 p7 p8 fy
   (first | (simp only [Act.put, zX, zY, zZ]) | skip)
   refine zTk 5 6 (.int .i64 0) rfl (fun w hS => by go_simp) hH ?_; simp only [Act.put, zX, zY, zZ]
   refine wpAnyH_done (by kernel_rfl) ?_ _
   have c6'' := (f7 (w.heap.size + 2) (by omega)).trans c6'
   have z0 : w7.cell? ⟨w.heap.size + 1 + 1, 0, none⟩ = some (.int .i64 now) := zCr c6''
   have z1 : w7.cell? ⟨w.heap.size + 1 + 1, 1, none⟩ = some (.slice (some ⟨gq, 0, none⟩) ss.length cq) := zCr c6''
   have p0 : w7.cell? ⟨w.heap.size + 1 + 1 + 1, 0, none⟩ = some (.int .i64 z.p.src) := zCr c7'
   have p1 : w7.cell? ⟨w.heap.size + 1 + 1 + 1, 1, none⟩ = some (.int .i64 z.p.dst) := zCr c7'
   have p2 : w7.cell? ⟨w.heap.size + 1 + 1 + 1, 2, none⟩ = some (.int .i64 z.p.kind) := zCr c7'
   have p3 : w7.cell? ⟨w.heap.size + 1 + 1 + 1, 3, none⟩ = some (.int .i64 z.p.id) := zCr c7'
   have p4 : w7.cell? ⟨w.heap.size + 1 + 1 + 1, 4, none⟩ = some (.int .i64 z.p.hops) := zCr c7'
   have p5 : w7.cell? ⟨w.heap.size + 1 + 1 + 1, 5, none⟩ = some (.bool z.p.whole) := zCr c7'
   have p6 : w7.cell? ⟨w.heap.size + 1 + 1 + 1, 6, none⟩ = some (.int .i64 z.p.off) := zCr c7'
   have p7 : w7.cell? ⟨w.heap.size + 1 + 1 + 1, 7, none⟩ = some (.bool z.p.more) := zCr c7'
   have p8 : w7.cell? ⟨w.heap.size + 1 + 1 + 1, 8, none⟩ = some (.slice z.a z.zs.length z.c) := zCr c7'
   have kk : ∀ b, b ≠ w.heap.size + 2 → b ≠ w.heap.size + 3 → w7.heap[b]? = w5.heap[b]? := fun b h1 h2 => (f7 b h2).trans (f6 b h1)
   have ee : w7.os = w5.os ∧ w7.tape = w5.tape ∧ w7.output = w5.output ∧ w7.heap.size = w5.heap.size := ⟨e7.1.trans e6.1, e7.2.1.trans e6.2.1, e7.2.2.1.trans e6.2.2.1, e7.2.2.2.trans e6.2.2.2⟩
   have FIN : Hid (TakePostS now ss x.key w (.returned (.tuple #[.agg #[.int .i64 now, .slice (some ⟨gq, 0, none⟩) ss.length cq], z.val0, .int .i64 0])) w7) := (by
    have D7 : DataB w7 w.heap.size z := (DZ5.kept fun b hb => by
     have h9 := DZ5.blk b hb
     exact kk b (by omega) (by omega)).le (by omega)
    refine ⟨now, ss.map SV.key, some ⟨gq, 0, none⟩, cq, ts, z, 0, by rw [HT.out], Or.inr ⟨HBO.out, rfl, by rw [hzk]; exact HTK.out⟩, ⟨HK.out, by rw [HT.out]; exact h4, by rw [HT.out]; exact hcap.1, hcap.2, AV.out w7 (fun b hb hb' => (kk b (by omega) (by omega)).trans (b5.block b hb')), D7⟩, ⟨ee.1.trans (b5.os.trans B4.out.os), ee.2.1.trans (b5.tape.trans B4.out.tape), ee.2.2.1.trans (b5.output.trans B4.out.output), by have := B4.out.size; omega, fun b hb => (kk b (by omega) (by omega)).trans ((b5.block b (by omega)).trans (B4.out.block b hb))⟩⟩)
   clear hH SK kk ee e6 e7 f6 f7 c6' c6'' c7' d3 q2 q3 AV HTK n0 n1 c0 c1 c2 c3 c4 c5 c6 c7 c8
   go_wp2
   refine bodyPost_ret (v := .tuple #[.agg #[.int .i64 now, .slice (some ⟨gq, 0, none⟩) ss.length cq], z.val0, .int .i64 0]) (by simp [results, Tryz.results11, go_sem, RV.val0, Pk.val, z0, z1, p0, p1, p2, p3, p4, p5, p6, p7, p8]) rfl FIN.out
  ·have HTK : Hid (takeK now (ss.map SV.key) x.key = pieceK now (ss.map SV.key) x.key) := (by unfold takeK; rw [if_pos (show okB x.key.1 x.key.2.length = true from HOK.out), if_neg (show ¬ (x.key.1.off = 0 ∧ x.key.1.more = false) from hcut)]; exact rfl)
   have hzm : x.p.off = 0 → x.p.more = true := fun h0 => by
    cases hh : x.p.more
    ·exact absurd ⟨h0, hh⟩ hcut
    ·rfl
   clear hcut
   have HWT : Hid (∀ (j : Nat) t, ts[j]? = some t → waits t) := waits_all HBO.out HK.out
   have KS : Hid (∀ U : World, Below w4.heap.size w4 U → Calls Tryz.prog 34 #[.slice (some ⟨gq, 0, none⟩) ss.length cq, .agg #[.int .i64 x.p.src, .int .i64 x.p.dst, .int .i64 x.p.kind, .int .i64 x.p.id, .int .i64 x.p.hops, .bool x.p.whole, .int .i64 x.p.off, .bool x.p.more, .slice x.a x.zs.length x.c]] U (SlotPost ts ss.length x U)) := fun U hU => l4Slot_any gq cq ss.length ts x U (HC4.out.below hU).ans.sl (by rw [HT.out]; omega) (by rw [HT.out]; omega) HX.out.len (fun j t _ ht => waits_first (HWT.out j t ht))
   unfold SlotPost at KS
   by_cases hz0 : x.p.off = 0
   (have hzt := hzm hz0; clear hzm; go_upto_region 8 with fail; clear hz0 hzt)
   rotate_left
   (have hzf : (x.p.off == 0) = false := (by simp [hz0]); clear hzm hz0; go_upto_region 8 with fail; clear hzf)
   all_goals
    go_wp2_with fail
    refine (KS.out _ (Below.refl _ _)).mono ?_
    rintro e w5 ⟨r, rfl, hr, b5⟩
    have s5 := b5.size
    have HC5 : Hid (CAns w5 w1.heap.size gq cq ts) := HC4.out.below b5
    have B5 : Hid (Below w.heap.size w w5) := B4.out.trans (b5.mono (by omega))
    have T1 : Hid (w5.heap[w.heap.size + 1]? = some (.cells #[.int .i64 x.p.src, .int .i64 x.p.dst, .int .i64 x.p.kind, .int .i64 x.p.id, .int .i64 x.p.hops, .bool x.p.whole, .int .i64 x.p.off, .bool x.p.more, .slice x.a x.zs.length x.c] 29 (0, 0))) := (b5.block _ (by omega)).trans R1.out
    have T2 : Hid (w5.heap[w.heap.size + 2]? = some (.cells #[.int .i64 0, .slice none 0 0] 27 (0, 0))) := (b5.block _ (by omega)).trans R2.out
    have T3 : Hid (w5.heap[w.heap.size + 3]? = some (.cells #[.int .i64 0, .int .i64 0, .int .i64 0, .int .i64 0, .int .i64 0, .bool false, .int .i64 0, .bool false, .slice none 0 0] 29 (0, 0))) := (b5.block _ (by omega)).trans R3.out
    have N5 := (b5.block _ (by omega)).trans N4.out
    clear c0 c1 c2 c3 c4 c5 c6 c7 c8 n0 n1 b5 KS AV N4 R1 R2 R3 HC4 B4
    have n0 : w5.cell? ⟨w2.heap.size, 0, none⟩ = some (.int .i64 now) := zCr N5
    have n1 : w5.cell? ⟨w2.heap.size, 1, none⟩ = some (.slice (some ⟨gq, 0, none⟩) ss.length cq) := zCr N5
    have c0 : w5.cell? ⟨w.heap.size + 1, 0, none⟩ = some (.int .i64 x.p.src) := zCr T1.out
    have c1 : w5.cell? ⟨w.heap.size + 1, 1, none⟩ = some (.int .i64 x.p.dst) := zCr T1.out
    have c2 : w5.cell? ⟨w.heap.size + 1, 2, none⟩ = some (.int .i64 x.p.kind) := zCr T1.out
    have c3 : w5.cell? ⟨w.heap.size + 1, 3, none⟩ = some (.int .i64 x.p.id) := zCr T1.out
    have c4 : w5.cell? ⟨w.heap.size + 1, 4, none⟩ = some (.int .i64 x.p.hops) := zCr T1.out
    have c5 : w5.cell? ⟨w.heap.size + 1, 5, none⟩ = some (.bool x.p.whole) := zCr T1.out
    have c6 : w5.cell? ⟨w.heap.size + 1, 6, none⟩ = some (.int .i64 x.p.off) := zCr T1.out
    have c7 : w5.cell? ⟨w.heap.size + 1, 7, none⟩ = some (.bool x.p.more) := zCr T1.out
    have c8 : w5.cell? ⟨w.heap.size + 1, 8, none⟩ = some (.slice x.a x.zs.length x.c) := zCr T1.out
    rcases hr with ⟨rfl, hno⟩ | ⟨i, s, rfl, hik, his, hal, hfst⟩
    ·have HPN : Hid (pieceK now (ss.map SV.key) x.key = (roomK (ss.map SV.key) ++ [([x.key], now, false)], zeroPB, 3)) := (show _ = _ from piece_none fun k hk hkk => by
      rw [← HK.out] at hk
      obtain ⟨t, ht, rfl⟩ := List.mem_map.1 hk
      obtain ⟨j, hj⟩ := List.getElem?_of_mem ht
      have hjl := (List.getElem?_eq_some_iff.1 hj).1
      exact hno j t (by rw [← HT.out]; exact hjl) hj ((alike_hit (HWT.out j t hj) HOK.out).2 hkk))
     have KN : Hid (Calls Tryz.prog 35 #[.agg #[.int .i64 now, .slice (some ⟨gq, 0, none⟩) ss.length cq], .agg #[.int .i64 x.p.src, .int .i64 x.p.dst, .int .i64 x.p.kind, .int .i64 x.p.id, .int .i64 x.p.hops, .bool x.p.whole, .int .i64 x.p.off, .bool x.p.more, .slice x.a x.zs.length x.c]] w5 fun e w' => ∃ g' off' c' us, e = .returned (.agg #[.int .i64 now, .slice (some ⟨g', off', none⟩) us.length c']) ∧ SLf w' g' off' us ∧ us.map SV.key = roomK (ts.map SV.key) ++ [([x.key], now, false)] ∧ us.length ≤ 4 ∧ Below w1.heap.size w5 w') := (by
      have h := l4New_any now gq cq w1.heap.size ts x w5 HC5.out (HX.out.below B5.out) (by rw [HT.out]; exact h4)
      rw [HT.out] at h
      exact h)
     clear hno
     go_wp2_with fail
     refine KN.out.mono ?_
     rintro e w6 ⟨g6, off6, c6', us, rfl, SF, hus, hul, b6⟩
     have KC2 : Hid (Calls Tryz.prog 30 #[.agg #[.int .i64 now, .slice (some ⟨g6, off6, none⟩) us.length c6']] w6 fun e w' => ∃ g c ts, e = .returned (.agg #[.int .i64 now, .slice (some ⟨g, 0, none⟩) us.length c]) ∧ CAns w' w6.heap.size g c ts ∧ ts.map SV.key = us.map SV.key ∧ Below w6.heap.size w6 w') := l4Copy_off now g6 off6 c6' us w6 SF (by omega)
     have s6 := b6.size
     have HUK : Hid (us.map SV.key = roomK (ts.map SV.key) ++ [([x.key], now, false)]) := hus
     clear SF hus KN n0 n1 N5 c0 c1 c2 c3 c4 c5 c6 c7 c8
     go_wp2_with fail
     refine KC2.out.mono ?_
     rintro e w7 ⟨g7, c7', vs, rfl, C7, hvk, b7⟩
     have s7 := b7.size
     have hvl : vs.length = us.length := map_len hvk
     have HC7 : Hid (CAns w7 w6.heap.size g7 c7' vs) := C7
     have hcap7 := own_caps C7.own
     rw [hvl] at hcap7
     have B7 : Hid (Below w.heap.size w w7) := B5.out.trans ((b6.mono (by omega)).trans (b7.mono (by omega)))
     have U2 : w7.heap[w.heap.size + 2]? = some (.cells #[.int .i64 0, .slice none 0 0] 27 (0, 0)) := (b7.block _ (by omega)).trans ((b6.block _ (by omega)).trans T2.out)
     have U3 : w7.heap[w.heap.size + 3]? = some (.cells #[.int .i64 0, .int .i64 0, .int .i64 0, .int .i64 0, .int .i64 0, .bool false, .int .i64 0, .bool false, .slice none 0 0] 29 (0, 0)) := (b7.block _ (by omega)).trans ((b6.block _ (by omega)).trans T3.out)
     have HVK : Hid (vs.map SV.key = us.map SV.key) := hvk
     have HVL : Hid (vs.length = us.length) := hvl
     have z0 : w7.cell? ⟨w.heap.size + 2, 0, none⟩ = some (.int .i64 0) := zCr U2
     have z1 : w7.cell? ⟨w.heap.size + 2, 1, none⟩ = some (.slice none 0 0) := zCr U2
     have fz : ∀ o, w7.frozen? ⟨w.heap.size + 2, o, none⟩ = false := fun o => zUf U2 o
     have fy : ∀ o, w7.frozen? ⟨w.heap.size + 3, o, none⟩ = false := fun o => zUf U3 o
     have lz2 := lt_of_block U2
     have lz3 := lt_of_block U3
     have p0 : w7.cell? ⟨w.heap.size + 3, 0, none⟩ = some (.int .i64 0) := zCr U3
     have p1 : w7.cell? ⟨w.heap.size + 3, 1, none⟩ = some (.int .i64 0) := zCr U3
     have p2 : w7.cell? ⟨w.heap.size + 3, 2, none⟩ = some (.int .i64 0) := zCr U3
     have p3 : w7.cell? ⟨w.heap.size + 3, 3, none⟩ = some (.int .i64 0) := zCr U3
     have p4 : w7.cell? ⟨w.heap.size + 3, 4, none⟩ = some (.int .i64 0) := zCr U3
     have p5 : w7.cell? ⟨w.heap.size + 3, 5, none⟩ = some (.bool false) := zCr U3
     have p6 : w7.cell? ⟨w.heap.size + 3, 6, none⟩ = some (.int .i64 0) := zCr U3
     have p7 : w7.cell? ⟨w.heap.size + 3, 7, none⟩ = some (.bool false) := zCr U3
     have p8 : w7.cell? ⟨w.heap.size + 3, 8, none⟩ = some (.slice none 0 0) := zCr U3
     have FIN : Hid (∀ W', (∀ b, b ≠ w.heap.size + 2 → b ≠ w.heap.size + 3 → W'.heap[b]? = w7.heap[b]?) → W'.os = w7.os → W'.tape = w7.tape → W'.output = w7.output → W'.heap.size = w7.heap.size → TakePostS now ss x.key w (.returned (.tuple #[.agg #[.int .i64 now, .slice (some ⟨g7, 0, none⟩) us.length c7'], zeroV, .int .i64 3])) W') := fun W' hk h1 h2 h3 h5 => by
      have h : CAns W' w6.heap.size g7 c7' vs := ⟨own_kept HC7.out.own fun b hb => hk b (by have := (own_lt HC7.out.own b hb).1; omega) (by have := (own_lt HC7.out.own b hb).1; omega), HC7.out.forest.kept fun b hb => hk b (by have := (HC7.out.forest.blk b hb).1; omega) (by have := (HC7.out.forest.blk b hb).1; omega)⟩
      refine ⟨now, vs.map SV.key, some ⟨g7, 0, none⟩, c7', vs, zeroRV, 3, by rw [HVL.out]; rfl, Or.inr ⟨HBO.out, rfl, HTK.out.trans (HPN.out.trans (by rw [HVK.out, HUK.out, HK.out]; rfl))⟩, ⟨rfl, by rw [HVL.out]; exact hul, by rw [HVL.out]; exact hcap7.1, hcap7.2, Or.inr ⟨g7, rfl, h.ans.le (by omega)⟩, zeroRV_data _ _⟩, ⟨h1.trans B7.out.os, h2.trans B7.out.tape, h3.trans B7.out.output, by rw [h5]; exact B7.out.size, fun b hb => (hk b (by omega) (by omega)).trans (B7.out.block b hb)⟩⟩
     clear C7 hvk b7 b6 U2 U3 KC2 HTK HPN HUK HVK HC7
     go_wp2
     refine bodyPost_ret (v := .tuple #[.agg #[.int .i64 now, .slice (some ⟨g7, 0, none⟩) us.length c7'], zeroV, .int .i64 3]) (by simp [results, Tryz.results11, go_sem, zeroV, z0, z1, p0, p1, p2, p3, p4, p5, p6, p7, p8]) rfl (FIN.out _ (fun b h1 h2 => put29_far w7 _ _ b h1 h2 _ _ _ _ _ _ _ _ _ _ _) ?_ ?_ ?_ (put29_size w7 _ _ _ _ _ _ _ _ _ _ _ _ _))
     all_goals simp [World.setCell]
    ·have KPt : Hid (Calls Tryz.prog 36 #[.agg #[.int .i64 now, .slice (some ⟨gq, 0, none⟩) ss.length cq], .int .i64 i, .agg #[.int .i64 x.p.src, .int .i64 x.p.dst, .int .i64 x.p.kind, .int .i64 x.p.id, .int .i64 x.p.hops, .bool x.p.whole, .int .i64 x.p.off, .bool x.p.more, .slice x.a x.zs.length x.c]] w5 (PutPost now w1.heap.size ts i s x.key w5)) := (by
      have h := l4Put_any now gq cq i w1.heap.size ts s x w5 HC5.out his (HX.out.below B5.out) (by rw [HT.out]; exact h4) (HWT.out i s his) hal
      rw [HT.out] at h
      exact h)
     unfold PutPost at KPt
     have HPA : Hid (pieceK now (ss.map SV.key) x.key = putK (ts.map SV.key) i s.key x.key) := (by
      rw [← HK.out]
      refine piece_at (by rw [List.getElem?_map, his]; rfl) ((alike_hit (HWT.out i s his) HOK.out).1 hal) fun j t hj ht hkt => ?_
      rw [List.getElem?_map] at ht
      cases htj : ts[j]? with
      | none => rw [htj] at ht; cases ht
      | some t' =>
       rw [htj] at ht
       obtain rfl := Option.some.inj ht
       exact hfst j t' hj htj ((alike_hit (HWT.out j t' htj) HOK.out).2 hkt))
     have hi0 : ¬ ((i : Int) < 0) := by omega
     clear hfst hal his hik
     go_wp2_with fail
     refine KPt.out.mono ?_
     rintro e w6 ⟨g6, off6, c6', us, y, cd, rfl, SF, DY, hpk, hul, b6⟩
     unfold RV.val0 Pk.val
     have s6 := b6.size
     obtain ⟨w7, hw7⟩ : ∃ w7, (w6.alloc (.cells #[.int .i64 now, .slice (some ⟨g6, off6, none⟩) us.length c6'] 27)).alloc (.cells #[.int .i64 y.p.src, .int .i64 y.p.dst, .int .i64 y.p.kind, .int .i64 y.p.id, .int .i64 y.p.hops, .bool y.p.whole, .int .i64 y.p.off, .bool y.p.more, .slice y.a y.zs.length y.c] 29) = w7 := ⟨_, rfl⟩
     have b7 : Below w6.heap.size w6 w7 := by rw [← hw7]; exact Joins.below_alloc2 _ _ _
     have s7 : w7.heap.size = w6.heap.size + 2 := by rw [← hw7]; simp
     have N7 : w7.heap[w6.heap.size]? = some (.cells #[.int .i64 now, .slice (some ⟨g6, off6, none⟩) us.length c6'] 27 (0, 0)) := by rw [← hw7]; exact (zHa (by simp)).trans (heap_new _ _ _ rfl)
     have P7 : w7.heap[w6.heap.size + 1]? = some (.cells #[.int .i64 y.p.src, .int .i64 y.p.dst, .int .i64 y.p.kind, .int .i64 y.p.id, .int .i64 y.p.hops, .bool y.p.whole, .int .i64 y.p.off, .bool y.p.more, .slice y.a y.zs.length y.c] 29 (0, 0)) := by rw [← hw7]; exact heap_new _ _ _ (by simp)
     have SF7 := SF.below b7
     have DY7 := DY.below b7
     have k7 : ∀ b, b < w1.heap.size → w7.heap[b]? = w5.heap[b]? := fun b hb => (b7.block b (by omega)).trans (b6.block b hb)
     have KC2 : Hid (∀ U : World, Below w7.heap.size w7 U → Calls Tryz.prog 30 #[.agg #[.int .i64 now, .slice (some ⟨g6, off6, none⟩) us.length c6']] U fun e w' => ∃ g c ts, e = .returned (.agg #[.int .i64 now, .slice (some ⟨g, 0, none⟩) us.length c]) ∧ CAns w' U.heap.size g c ts ∧ ts.map SV.key = us.map SV.key ∧ Below U.heap.size U w') := fun U hU => l4Copy_off now g6 off6 c6' us U (SF7.below hU) (by omega)
     have HPK : Hid (takeK now (ss.map SV.key) x.key = (us.map SV.key, y.key, cd)) := HTK.out.trans (HPA.out.trans hpk)
     clear SF DY hpk KPt n0 n1 c0 c1 c2 c3 c4 c5 c6 c7 c8 hi0 N5
     go_upto_region 12 with fail
     (first | rw [hw7] | skip)
     clear hw7
     have SK : Hid (∀ U : World, U.heap[w6.heap.size]? = w7.heap[w6.heap.size]? → U.heap[w6.heap.size + 1]? = w7.heap[w6.heap.size + 1]? → (fun U => U.cell? ⟨w6.heap.size, 0, none⟩ = some (.int .i64 now) ∧ U.cell? ⟨w6.heap.size, 1, none⟩ = some (.slice (some ⟨g6, off6, none⟩) us.length c6') ∧ U.cell? ⟨w6.heap.size + 1, 0, none⟩ = some (.int .i64 y.p.src) ∧ U.cell? ⟨w6.heap.size + 1, 1, none⟩ = some (.int .i64 y.p.dst) ∧ U.cell? ⟨w6.heap.size + 1, 2, none⟩ = some (.int .i64 y.p.kind) ∧ U.cell? ⟨w6.heap.size + 1, 3, none⟩ = some (.int .i64 y.p.id) ∧ U.cell? ⟨w6.heap.size + 1, 4, none⟩ = some (.int .i64 y.p.hops) ∧ U.cell? ⟨w6.heap.size + 1, 5, none⟩ = some (.bool y.p.whole) ∧ U.cell? ⟨w6.heap.size + 1, 6, none⟩ = some (.int .i64 y.p.off) ∧ U.cell? ⟨w6.heap.size + 1, 7, none⟩ = some (.bool y.p.more) ∧ U.cell? ⟨w6.heap.size + 1, 8, none⟩ = some (.slice y.a y.zs.length y.c)) U) := fun U h0 h1 => by
      have e0 : ∀ o, U.cell? ⟨w6.heap.size, o, none⟩ = _ := fun o => zCr (h0.trans N7)
      have e1 : ∀ o, U.cell? ⟨w6.heap.size + 1, o, none⟩ = _ := fun o => zCr (h1.trans P7)
      exact ⟨e0 0, e0 1, e1 0, e1 1, e1 2, e1 3, e1 4, e1 5, e1 6, e1 7, e1 8⟩
     refine wp_region_held_drew (S := fun U => U.cell? ⟨w6.heap.size, 0, none⟩ = some (.int .i64 now) ∧ U.cell? ⟨w6.heap.size, 1, none⟩ = some (.slice (some ⟨g6, off6, none⟩) us.length c6') ∧ U.cell? ⟨w6.heap.size + 1, 0, none⟩ = some (.int .i64 y.p.src) ∧ U.cell? ⟨w6.heap.size + 1, 1, none⟩ = some (.int .i64 y.p.dst) ∧ U.cell? ⟨w6.heap.size + 1, 2, none⟩ = some (.int .i64 y.p.kind) ∧ U.cell? ⟨w6.heap.size + 1, 3, none⟩ = some (.int .i64 y.p.id) ∧ U.cell? ⟨w6.heap.size + 1, 4, none⟩ = some (.int .i64 y.p.hops) ∧ U.cell? ⟨w6.heap.size + 1, 5, none⟩ = some (.bool y.p.whole) ∧ U.cell? ⟨w6.heap.size + 1, 6, none⟩ = some (.int .i64 y.p.off) ∧ U.cell? ⟨w6.heap.size + 1, 7, none⟩ = some (.bool y.p.more) ∧ U.cell? ⟨w6.heap.size + 1, 8, none⟩ = some (.slice y.a y.zs.length y.c)) (by kernel_rfl) (SK.out _ rfl rfl) (fun hH => ?_)
     refine zTk 0 54 (.agg #[.int .i64 now, .slice (some ⟨g6, off6, none⟩) us.length c6']) rfl (fun w hS => by obtain ⟨s0, s1, q0, q1, q2, q3, q4, q5, q6, q7, q8⟩ := hS; go_simp) hH ?_; simp only [Act.put, zX, zY, zZ]
     refine zTk 2 56 (.agg #[.int .i64 y.p.src, .int .i64 y.p.dst, .int .i64 y.p.kind, .int .i64 y.p.id, .int .i64 y.p.hops, .bool y.p.whole, .int .i64 y.p.off, .bool y.p.more, .slice y.a y.zs.length y.c]) rfl (fun w hS => by obtain ⟨s0, s1, q0, q1, q2, q3, q4, q5, q6, q7, q8⟩ := hS; go_simp) hH ?_; simp only [Act.put, zX, zY, zZ]
     refine zTk 3 57 (.int .i64 cd) rfl (fun w hS => by go_simp) hH ?_; simp only [Act.put, zX, zY, zZ]
     refine zRd 1 (by kernel_rfl) rfl (fun K hK => ?_)
     go_simp
     (with_reducible refine (KC2.out _ ((Below.refl _ w7).drew)).mono ?_)
     rintro e w8 ⟨g8, c8', vs, rfl, C8, hvk, b8'⟩
     have b8 : Below w7.heap.size w7 w8 := ((Below.refl _ w7).drew).trans b8'
     have s8 := b8.size
     have C8' : CAns w8 w7.heap.size g8 c8' vs := C8
     have hvl : vs.length = us.length := map_len hvk
     go_simp
     refine hK.out _ _ (SK.out _ (b8.block _ (by omega)) (b8.block _ (by omega))) (fun hH => ?_)
     clear hK K C8 b8'
     (first | (simp only [Act.put, zX, zY, zZ]) | skip)
     have q2 : w8.heap[w.heap.size + 2]? = some (.cells #[.int .i64 0, .slice none 0 0] 27 (0, 0)) := (b8.block _ (by omega)).trans ((k7 _ (by omega)).trans T2.out)
     have q3 : w8.heap[w.heap.size + 3]? = some (.cells #[.int .i64 0, .int .i64 0, .int .i64 0, .int .i64 0, .int .i64 0, .bool false, .int .i64 0, .bool false, .slice none 0 0] 29 (0, 0)) := (b8.block _ (by omega)).trans ((k7 _ (by omega)).trans T3.out)
     have z0 : w8.cell? ⟨w.heap.size + 1 + 1, 0, none⟩ = some (.int .i64 0) := zCr q2
     have z1 : w8.cell? ⟨w.heap.size + 1 + 1, 1, none⟩ = some (.slice none 0 0) := zCr q2
     have fz : ∀ o, w8.frozen? ⟨w.heap.size + 1 + 1, o, none⟩ = false := fun o => zUf q2 o
     refine zRd 4 (by kernel_rfl) rfl (fun K hK => ?_)
     go_simp
     obtain ⟨w9, hw6⟩ : ∃ u, (w8.setCell ⟨w.heap.size + 1 + 1, 0, none⟩ (.int .i64 now)).setCell ⟨w.heap.size + 1 + 1, 1, none⟩ (.slice (some ⟨g8, 0, none⟩) us.length c8') = u := ⟨_, rfl⟩
     have f6 : ∀ b, b ≠ w.heap.size + 2 → w9.heap[b]? = w8.heap[b]? := fun b hb => by rw [← hw6]; exact (zHs hb).trans (zHs hb)
     have c6' : w9.heap[w.heap.size + 2]? = some (.cells #[.int .i64 now, .slice (some ⟨g8, 0, none⟩) us.length c8'] 27 (0, 0)) := by rw [← hw6]; exact set_at (o := 1) (set_at (o := 0) q2)
     have e6 : w9.os = w8.os ∧ w9.tape = w8.tape ∧ w9.output = w8.output ∧ w9.heap.size = w8.heap.size := by rw [← hw6]; exact ⟨by simp [World.setCell], by simp [World.setCell], by simp [World.setCell], by simp [World.setCell]⟩
     (first | rw [hw6] | skip)
     refine hK.out _ _ (SK.out _ ((f6 _ (by omega)).trans (b8.block _ (by omega))) ((f6 _ (by omega)).trans (b8.block _ (by omega)))) (fun hH => ?_)
     clear hK K hw6 z0 z1 fz
     (first | (simp only [Act.put, zX, zY, zZ]) | skip)
     have d3 := (f6 (w.heap.size + 3) (by omega)).trans q3
     have fy : ∀ o, w9.frozen? ⟨w.heap.size + 1 + 1 + 1, o, none⟩ = false := fun o => zUf d3 o
     have p0 : w9.cell? ⟨w.heap.size + 1 + 1 + 1, 0, none⟩ = some (.int .i64 0) := zCr d3
     have p1 : w9.cell? ⟨w.heap.size + 1 + 1 + 1, 1, none⟩ = some (.int .i64 0) := zCr d3
     have p2 : w9.cell? ⟨w.heap.size + 1 + 1 + 1, 2, none⟩ = some (.int .i64 0) := zCr d3
     have p3 : w9.cell? ⟨w.heap.size + 1 + 1 + 1, 3, none⟩ = some (.int .i64 0) := zCr d3
     have p4 : w9.cell? ⟨w.heap.size + 1 + 1 + 1, 4, none⟩ = some (.int .i64 0) := zCr d3
     have p5 : w9.cell? ⟨w.heap.size + 1 + 1 + 1, 5, none⟩ = some (.bool false) := zCr d3
     have p6 : w9.cell? ⟨w.heap.size + 1 + 1 + 1, 6, none⟩ = some (.int .i64 0) := zCr d3
     have p7 : w9.cell? ⟨w.heap.size + 1 + 1 + 1, 7, none⟩ = some (.bool false) := zCr d3
     have p8 : w9.cell? ⟨w.heap.size + 1 + 1 + 1, 8, none⟩ = some (.slice none 0 0) := zCr d3
     refine zRd 5 (by kernel_rfl) rfl (fun K hK => ?_)
     go_simp
     obtain ⟨w10, hw7⟩ : ∃ u, (((((((((w9.setCell ⟨w.heap.size + 1 + 1 + 1, 0, none⟩ (.int .i64 y.p.src)).setCell ⟨w.heap.size + 1 + 1 + 1, 1, none⟩ (.int .i64 y.p.dst)).setCell ⟨w.heap.size + 1 + 1 + 1, 2, none⟩ (.int .i64 y.p.kind)).setCell ⟨w.heap.size + 1 + 1 + 1, 3, none⟩ (.int .i64 y.p.id)).setCell ⟨w.heap.size + 1 + 1 + 1, 4, none⟩ (.int .i64 y.p.hops)).setCell ⟨w.heap.size + 1 + 1 + 1, 5, none⟩ (.bool y.p.whole)).setCell ⟨w.heap.size + 1 + 1 + 1, 6, none⟩ (.int .i64 y.p.off)).setCell ⟨w.heap.size + 1 + 1 + 1, 7, none⟩ (.bool y.p.more)).setCell ⟨w.heap.size + 1 + 1 + 1, 8, none⟩ (.slice y.a y.zs.length y.c)) = u := ⟨_, rfl⟩
     have f7 : ∀ b, b ≠ w.heap.size + 3 → w10.heap[b]? = w9.heap[b]? := fun b hb => by rw [← hw7]; exact box_far9 w9 _ b hb _ _ _ _ _ _ _ _ _
     have c7' : w10.heap[w.heap.size + 3]? = some (.cells #[.int .i64 y.p.src, .int .i64 y.p.dst, .int .i64 y.p.kind, .int .i64 y.p.id, .int .i64 y.p.hops, .bool y.p.whole, .int .i64 y.p.off, .bool y.p.more, .slice y.a y.zs.length y.c] 29 (0, 0)) := by rw [← hw7]; exact box_put9 _ _ _ _ _ _ _ _ _ d3
     have e7 : w10.os = w9.os ∧ w10.tape = w9.tape ∧ w10.output = w9.output ∧ w10.heap.size = w9.heap.size := by rw [← hw7]; exact ⟨by simp [World.setCell], by simp [World.setCell], by simp [World.setCell], box_size9 w9 _ _ _ _ _ _ _ _ _ _⟩
     (first | rw [hw7] | skip)
     refine hK.out _ _ (SK.out _ (((f7 _ (by omega)).trans (f6 _ (by omega))).trans (b8.block _ (by omega))) (((f7 _ (by omega)).trans (f6 _ (by omega))).trans (b8.block _ (by omega)))) (fun hH => ?_)
     clear hK K hw7 p0 p1 p2 p3 p4 p5 p6 p7 p8 fy
     (first | (simp only [Act.put, zX, zY, zZ]) | skip)
     refine zTk 6 6 (.int .i64 cd) rfl (fun w hS => by go_simp) hH ?_; simp only [Act.put, zX, zY, zZ]
     refine wpAnyH_done (by kernel_rfl) ?_ _
     have c6'' := (f7 (w.heap.size + 2) (by omega)).trans c6'
     have z0 : w10.cell? ⟨w.heap.size + 1 + 1, 0, none⟩ = some (.int .i64 now) := zCr c6''
     have z1 : w10.cell? ⟨w.heap.size + 1 + 1, 1, none⟩ = some (.slice (some ⟨g8, 0, none⟩) us.length c8') := zCr c6''
     have p0 : w10.cell? ⟨w.heap.size + 1 + 1 + 1, 0, none⟩ = some (.int .i64 y.p.src) := zCr c7'
     have p1 : w10.cell? ⟨w.heap.size + 1 + 1 + 1, 1, none⟩ = some (.int .i64 y.p.dst) := zCr c7'
     have p2 : w10.cell? ⟨w.heap.size + 1 + 1 + 1, 2, none⟩ = some (.int .i64 y.p.kind) := zCr c7'
     have p3 : w10.cell? ⟨w.heap.size + 1 + 1 + 1, 3, none⟩ = some (.int .i64 y.p.id) := zCr c7'
     have p4 : w10.cell? ⟨w.heap.size + 1 + 1 + 1, 4, none⟩ = some (.int .i64 y.p.hops) := zCr c7'
     have p5 : w10.cell? ⟨w.heap.size + 1 + 1 + 1, 5, none⟩ = some (.bool y.p.whole) := zCr c7'
     have p6 : w10.cell? ⟨w.heap.size + 1 + 1 + 1, 6, none⟩ = some (.int .i64 y.p.off) := zCr c7'
     have p7 : w10.cell? ⟨w.heap.size + 1 + 1 + 1, 7, none⟩ = some (.bool y.p.more) := zCr c7'
     have p8 : w10.cell? ⟨w.heap.size + 1 + 1 + 1, 8, none⟩ = some (.slice y.a y.zs.length y.c) := zCr c7'
     have kk : ∀ b, b ≠ w.heap.size + 2 → b ≠ w.heap.size + 3 → w10.heap[b]? = w8.heap[b]? := fun b h1 h2 => (f7 b h2).trans (f6 b h1)
     have ee : w10.os = w8.os ∧ w10.tape = w8.tape ∧ w10.output = w8.output ∧ w10.heap.size = w8.heap.size := ⟨e7.1.trans e6.1, e7.2.1.trans e6.2.1, e7.2.2.1.trans e6.2.2.1, e7.2.2.2.trans e6.2.2.2⟩
     have FIN : Hid (TakePostS now ss x.key w (.returned (.tuple #[.agg #[.int .i64 now, .slice (some ⟨g8, 0, none⟩) us.length c8'], y.val0, .int .i64 cd])) w10) := (by
      have h : CAns w10 w7.heap.size g8 c8' vs := ⟨own_kept C8'.own fun b hb => kk b (by have := (own_lt C8'.own b hb).1; omega) (by have := (own_lt C8'.own b hb).1; omega), C8'.forest.kept fun b hb => kk b (by have := (C8'.forest.blk b hb).1; omega) (by have := (C8'.forest.blk b hb).1; omega)⟩
      have D8 : DataB w8 w1.heap.size y := DY7.below b8
      have D10 : DataB w10 w.heap.size y := (D8.kept fun b hb => by
       have h9 := D8.blk b hb
       exact kk b (by omega) (by omega)).le (by omega)
      have hcap8 := own_caps C8'.own
      rw [hvl] at hcap8
      have BL : Below w.heap.size w w8 := B5.out.trans ((b6.mono (by omega)).trans ((b7.mono (by omega)).trans (b8.mono (by omega))))
      refine ⟨now, vs.map SV.key, some ⟨g8, 0, none⟩, c8', vs, y, cd, by rw [hvl], Or.inr ⟨HBO.out, rfl, HPK.out.trans (by rw [hvk])⟩, ⟨rfl, by rw [hvl]; exact hul, by rw [hvl]; exact hcap8.1, hcap8.2, Or.inr ⟨g8, rfl, h.ans.le (by omega)⟩, D10⟩, ⟨ee.1.trans BL.os, ee.2.1.trans BL.tape, ee.2.2.1.trans BL.output, by rw [ee.2.2.2]; exact BL.size, fun b hb => (kk b (by omega) (by omega)).trans (BL.block b hb)⟩⟩)
     clear hH SK kk ee e6 e7 f6 f7 c6'' c7' d3 q2 q3 HTK HPK HPA KC2 k7 SF7 DY7 N7 P7 C8' hvk hvl
     go_wp2
     refine bodyPost_ret (v := .tuple #[.agg #[.int .i64 now, .slice (some ⟨g8, 0, none⟩) us.length c8'], y.val0, .int .i64 cd]) (by simp [results, Tryz.results11, go_sem, RV.val0, Pk.val, z0, z1, p0, p1, p2, p3, p4, p5, p6, p7, p8]) rfl FIN.out
end Go.Proofs.YtjbkgmbakjnlhaaGreatDoor
