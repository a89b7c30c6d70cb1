import Derived.Test.YtjbkgmbakjnlhaaGreatDoorSPut
namespace Go.Proofs.YtjbkgmbakjnlhaaGreatDoor
set_option maxRecDepth 100000
open Go.RowKit
theorem flatS_one (ss : List SV) : ∀ u ∈ ss.flatMap SV.cells, u.oneCell' = true := by
 intro u hu
 obtain ⟨s, _, hs⟩ := List.mem_flatMap.1 hu
 simp [SV.cells, scells] at hs
 rcases hs with rfl | rfl | rfl <;> rfl
theorem join_data {L : List PB} {w w' : World} {e : Ending} {cd : Int} {jp : Pk} {jd : List Int} (h : JoinPost L w e w') (hJ : joinL L = (cd, (jp, jd))) (hb : ∀ x ∈ L, ∀ z ∈ x.2, 0 ≤ z ∧ z ≤ 255) :
  ∃ y : RV, e = .returned (.tuple #[.agg #[.int .i64 y.p.src, .int .i64 y.p.dst, .int .i64 y.p.kind, .int .i64 y.p.id, .int .i64 y.p.hops, .bool y.p.whole, .int .i64 y.p.off, .bool y.p.more, .slice y.a y.zs.length y.c], .int .i64 cd]) ∧ y.key = (jp, jd) ∧ DataB w' w.heap.size y ∧ Below w.heap.size w w' := by
 obtain ⟨a, c, h1, h2, h3⟩ := h
 have hs := join_small L
 have hr : ∀ z ∈ (joinL L).2.2, 0 ≤ z ∧ z ≤ 255 := by
  by_cases h0 : (joinL L).1 = 0
  ·exact join_range hb h0
  ·intro z hz
   exfalso
   have : (joinL L).2.2 = [] := by
    unfold joinL at h0 ⊢
    split
    ·rename_i ha
     rw [if_pos ha] at h0
     split
     ·rfl
     ·rename_i hd
      rw [if_neg hd] at h0
      cases he : endL L with
      | none => rfl
      | some e =>
       rw [he] at h0
       simp only at h0 ⊢
       cases hbb : bytesL L e.toNat with
       | none => rfl
       | some bs => rw [hbb] at h0; simp at h0
    ·rfl
   rw [this] at hz
   cases hz
 rw [hJ] at h1 h2 hs hr
 have hml : maxLen = 9223372036854775807 := rfl
 refine ⟨⟨jp, a, c, jd⟩, h1, rfl, ⟨?_, (show jd.length ≤ 1048576 by simp only at hs; omega), hr⟩, h3⟩
 rcases h2.2 with ⟨hv, hz⟩ | ⟨g', cap, cur, hv, hlo, hh, hcap, hcM, hsz, ht⟩
 ·simp only [Value.slice.injEq] at hv
  exact Or.inl ⟨hv.1, List.eq_nil_of_length_eq_zero hz, hv.2.2⟩
 ·simp only [Value.slice.injEq] at hv
  obtain ⟨rfl, _, rfl⟩ := hv
  exact Or.inr ⟨g', rfl, hlo, RowB.of_own h2, hcap, (show c ≤ 9223372036854775807 by omega)⟩
set_option maxHeartbeats 6400000 in
theorem l4Put_join (now : Int) (g c i lo : Nat) (ts : List SV) (s : SV) (x : RV) (w : World) (hC : CAns w lo g c ts) (hi : ts[i]? = some s) (hx : ROk w x) (hl : ts.length ≤ 4) (hs1 : 1 ≤ s.xs.length) (hbad : s.bad = false) (hin : ¬ isIn x s.xs) (h40 : s.xs.length ≠ 40) (hwt : waits s) (hal : alikeTo s x) :
  Calls Tryz.prog 36 #[.agg #[.int .i64 now, .slice (some ⟨g, 0, none⟩) ts.length c], .int .i64 i, .agg #[.int .i64 x.p.src, .int .i64 x.p.dst, .int .i64 x.p.kind, .int .i64 x.p.id, .int .i64 x.p.hops, .bool x.p.whole, .int .i64 x.p.off, .bool x.p.more, .slice x.a x.zs.length x.c]] w (PutPost now lo ts i s x.key w) := by
 have HC : Hid (CAns w lo g c ts) := hC
 have HI : Hid (ts[i]? = some s) := hi
 have HX : Hid (ROk w x) := hx
 have hlt := (List.getElem?_eq_some_iff.1 hi).1
 have hli : (i : Int) < (ts.length : Int) := by omega
 have hS := hC.ans.sl
 obtain ⟨c0, c1, c2⟩ := hS.elem i s hi
 have HSo : Hid (SOk w s) := hS.each s (List.mem_of_getElem? hi)
 obtain ⟨gL, hgL, hRL⟩ := HSo.out.at_
 have HRL : Hid (RL w gL s.xs) := hRL
 have hc1 := HSo.out.cap
 have hc2 := HSo.out.capM
 have hsl := HSo.out.len
 obtain ⟨n, hn⟩ : ∃ n, s.xs.length = n := ⟨_, rfl⟩
 obtain ⟨m, hm⟩ : ∃ m, ts.length = m := ⟨_, rfl⟩
 have HN : Hid (s.xs.length = n) := hn
 have HM : Hid (ts.length = m) := hm
 have HGL : Hid (s.a = some ⟨gL, 0, none⟩) := hgL
 rw [hgL, hn] at c0
 rw [hn] at hc1 hsl hs1
 rw [hm] at hl hlt hli ⊢
 have llo := own_lt hC.own g rfl
 have lg := llo.2
 have lw : lo ≤ w.heap.size := by omega
 have lL := hRL.lt
 have HBAD : Hid (s.bad = false) := hbad
 have HIN : Hid (¬ isIn x s.xs) := hin
 have H40 : Hid (s.xs.length ≠ 40) := h40
 have HPC := put_code hwt hal (by simpa [SV.key] using h40)
 have HJC : Hid (((joinL (s.key.1 ++ [x.key])).1 = 0 ∨ (joinL (s.key.1 ++ [x.key])).1 = 2 ∨ (joinL (s.key.1 ++ [x.key])).1 = 3)) := HPC.2
 have hn40 : n < 40 := by have := HPC.1; simp [SV.key] at this; omega
 clear hbad hin h40 hwt hal HPC
 obtain ⟨V, hV⟩ : ∃ V, (((w.alloc (.cells #[.int .i64 now, .slice (some ⟨g, 0, none⟩) m c] 27)).alloc (.cells #[.int .i64 x.p.src, .int .i64 x.p.dst, .int .i64 x.p.kind, .int .i64 x.p.id, .int .i64 x.p.hops, .bool x.p.whole, .int .i64 x.p.off, .bool x.p.more, .slice x.a x.zs.length x.c] 29)).alloc (.cells #[.int .i64 0, .slice none 0 0] 27)).alloc (.cells #[.int .i64 0, .int .i64 0, .int .i64 0, .int .i64 0, .int .i64 0, .bool false, .int .i64 0, .bool false, .slice none 0 0] 29) = V := ⟨_, rfl⟩
 have bV : Below w.heap.size w V := by rw [← hV]; exact (Joins.below_alloc3 _ _ _ _).trans ((zBa _ _).mono (by simp; omega))
 have sV : V.heap.size = w.heap.size + 4 := by rw [← hV]; simp
 obtain ⟨W, hW⟩ : ∃ W, V.alloc (.cells #[.slice (some ⟨gL, 0, none⟩) n s.c, .int .i64 s.since, .bool s.bad] 39) = W := ⟨_, rfl⟩
 have bvW : Below V.heap.size V W := by rw [← hW]; exact zBa _ _
 have bW : Below w.heap.size w W := bV.trans (bvW.mono bV.size)
 have sW : W.heap.size = w.heap.size + 5 := by rw [← hW]; simp; omega
 have x0' : V.heap[w.heap.size]? = some (.cells #[.int .i64 now, .slice (some ⟨g, 0, none⟩) m c] 27 (0, 0)) := by rw [← hV]; exact (zHa (by simp; omega)).trans ((zHa (by simp; omega)).trans ((zHa (by simp)).trans (heap_new _ _ _ rfl)))
 have x0 := (bvW.block _ (by omega)).trans x0'
 have x1 : W.heap[w.heap.size + 1]? = some (.cells #[.int .i64 x.p.src, .int .i64 x.p.dst, .int .i64 x.p.kind, .int .i64 x.p.id, .int .i64 x.p.hops, .bool x.p.whole, .int .i64 x.p.off, .bool x.p.more, .slice x.a x.zs.length x.c] 29 (0, 0)) := (bvW.block _ (by omega)).trans (by rw [← hV]; exact (zHa (by simp)).trans ((zHa (by simp)).trans (heap_new _ _ _ (by simp))))
 have x2 : W.heap[w.heap.size + 2]? = some (.cells #[.int .i64 0, .slice none 0 0] 27 (0, 0)) := (bvW.block _ (by omega)).trans (by rw [← hV]; exact (zHa (by simp)).trans (heap_new _ _ _ (by simp)))
 have x3 : W.heap[w.heap.size + 3]? = some (.cells #[.int .i64 0, .int .i64 0, .int .i64 0, .int .i64 0, .int .i64 0, .bool false, .int .i64 0, .bool false, .slice none 0 0] 29 (0, 0)) := (bvW.block _ (by omega)).trans (by rw [← hV]; exact heap_new _ _ _ (by simp))
 have x4 : W.heap[V.heap.size]? = some (.cells #[.slice (some ⟨gL, 0, none⟩) n s.c, .int .i64 s.since, .bool s.bad] 39 (0, 0)) := by rw [← hW]; exact heap_new _ _ _ rfl
 have vb : V.cell? ⟨w.heap.size, 1, none⟩ = some (.slice (some ⟨g, 0, none⟩) m c) := zCr x0'
 have v0 := (bV.cell (p := ⟨g, i * 3, none⟩) lg).trans c0
 have v1 := (bV.cell (p := ⟨g, i * 3 + 1, none⟩) lg).trans c1
 have v2 := (bV.cell (p := ⟨g, i * 3 + 2, none⟩) lg).trans c2
 have HW : Hid (Below w.heap.size w W) := bW
 have X0 : Hid (W.heap[w.heap.size]? = some (.cells #[.int .i64 now, .slice (some ⟨g, 0, none⟩) m c] 27 (0, 0))) := x0
 have X1 : Hid (W.heap[w.heap.size + 1]? = some (.cells #[.int .i64 x.p.src, .int .i64 x.p.dst, .int .i64 x.p.kind, .int .i64 x.p.id, .int .i64 x.p.hops, .bool x.p.whole, .int .i64 x.p.off, .bool x.p.more, .slice x.a x.zs.length x.c] 29 (0, 0))) := x1
 have X2 : Hid (W.heap[w.heap.size + 2]? = some (.cells #[.int .i64 0, .slice none 0 0] 27 (0, 0))) := x2
 have X3 : Hid (W.heap[w.heap.size + 3]? = some (.cells #[.int .i64 0, .int .i64 0, .int .i64 0, .int .i64 0, .int .i64 0, .bool false, .int .i64 0, .bool false, .slice none 0 0] 29 (0, 0))) := x3
 have X4 : Hid (W.heap[V.heap.size]? = some (.cells #[.slice (some ⟨gL, 0, none⟩) n s.c, .int .i64 s.since, .bool s.bad] 39 (0, 0))) := x4
 have y4 : W.cell? ⟨w.heap.size + 4, 2, none⟩ = some (.bool s.bad) := (by rw [← sV]; exact zCr x4)
 have y5 : W.cell? ⟨w.heap.size + 4, 0, none⟩ = some (.slice (some ⟨gL, 0, none⟩) n s.c) := (by rw [← sV]; exact zCr x4)
 have KTD : Hid (∀ U : World, Below w.heap.size w U → Calls Tryz.prog 71 #[.slice (some ⟨gL, 0, none⟩) n s.c, .agg #[.int .i64 x.p.src, .int .i64 x.p.dst, .int .i64 x.p.kind, .int .i64 x.p.id, .int .i64 x.p.hops, .bool x.p.whole, .int .i64 x.p.off, .bool x.p.more, .slice x.a x.zs.length x.c]] U (SaysB (isIn x s.xs) U)) := fun U hU => by
  have h := l4Told_raw gL s.c s.xs x U (HRL.out.below hU) (by rw [HN.out]; exact hsl) (HX.out.below hU)
  rw [HN.out] at h
  exact h
 unfold SaysB at KTD
 have KBD : Hid (∀ U : World, Below w.heap.size w U → Calls Tryz.prog 72 #[.agg #[.int .i64 now, .slice (some ⟨g, 0, none⟩) m c], .int .i64 i] U fun e w' => e = .returned (.agg #[.int .i64 now, .slice (some ⟨g, 0, none⟩) m c]) ∧ (∀ W', (∀ b, b < w.heap.size → W'.heap[b]? = w'.heap[b]?) → SLf W' g 0 (ts.set i (badS s))) ∧ Only (fun b => b = g) U w') := fun U hU => by
  have h := l4Bad_any now g c i lo ts s U (HC.out.below hU) HI.out (by rw [HN.out]; exact hs1) (by rw [HM.out]; omega)
  rw [HM.out] at h
  refine h.mono fun e w' ⟨h1, h2, h3⟩ => ⟨h1, fun W' hk => h2 W' fun b hb => hk b ?_, h3⟩
  rcases hb with hb | hb
  ·omega
  ·exact (HC.out.noG b hb).2
 have HSTAY : Hid (∀ W' : World, w.heap.size ≤ W'.heap.size → (∀ b, b < w.heap.size → W'.heap[b]? = w.heap[b]?) → SLf W' g 0 ts) := fun W' hs hk => by
  have h : CAns W' lo g c ts := ⟨own_kept HC.out.own fun b hb => hk b (own_lt HC.out.own b hb).2, HC.out.forest.kept fun b hb => hk b (HC.out.forest.blk b hb).2.1⟩
  exact h.ans.sl.off
 clear hC hi hx hS hRL hgL hn hm x0 x0' x1 x2 x3 x4 bW bV bvW
 go_enter Tryz.func36, Tryz.ntmps36
 go_upto_region 1 with fail
 (first | rw [hV] | skip)
 clear hV c0 c1 c2
 go_upto_region 2 with fail
 (first | rw [hW] | skip)
 clear hW v0 v1 v2 vb
 rw [HBAD.out] at y4
 have x0 : W.cell? ⟨w.heap.size + 1, 0, none⟩ = some (.int .i64 x.p.src) := zCr X1.out
 have x1 : W.cell? ⟨w.heap.size + 1, 1, none⟩ = some (.int .i64 x.p.dst) := zCr X1.out
 have x2 : W.cell? ⟨w.heap.size + 1, 2, none⟩ = some (.int .i64 x.p.kind) := zCr X1.out
 have x3 : W.cell? ⟨w.heap.size + 1, 3, none⟩ = some (.int .i64 x.p.id) := zCr X1.out
 have x4 : W.cell? ⟨w.heap.size + 1, 4, none⟩ = some (.int .i64 x.p.hops) := zCr X1.out
 have x5 : W.cell? ⟨w.heap.size + 1, 5, none⟩ = some (.bool x.p.whole) := zCr X1.out
 have x6 : W.cell? ⟨w.heap.size + 1, 6, none⟩ = some (.int .i64 x.p.off) := zCr X1.out
 have x7 : W.cell? ⟨w.heap.size + 1, 7, none⟩ = some (.bool x.p.more) := zCr X1.out
 have x8 : W.cell? ⟨w.heap.size + 1, 8, none⟩ = some (.slice x.a x.zs.length x.c) := zCr X1.out
 go_wp2_with fail
 refine (KTD.out _ HW.out).mono ?_
 rintro e w1 ⟨b, rfl, hb, b1⟩
 have hb' : b = false := by
  cases b with
  | false => rfl
  | true => exact absurd (hb.1 rfl) HIN.out
 subst hb'
 have B1 : Hid (Below w.heap.size w w1) := HW.out.trans (b1.mono (by omega))
 have s1 := b1.size
 have Y0 : Hid (w1.heap[w.heap.size]? = some (.cells #[.int .i64 now, .slice (some ⟨g, 0, none⟩) m c] 27 (0, 0))) := (b1.block _ (by omega)).trans X0.out
 have Y1 : Hid (w1.heap[w.heap.size + 1]? = some (.cells #[.int .i64 x.p.src, .int .i64 x.p.dst, .int .i64 x.p.kind, .int .i64 x.p.id, .int .i64 x.p.hops, .bool x.p.whole, .int .i64 x.p.off, .bool x.p.more, .slice x.a x.zs.length x.c] 29 (0, 0))) := (b1.block _ (by omega)).trans X1.out
 have Y2 : Hid (w1.heap[w.heap.size + 2]? = some (.cells #[.int .i64 0, .slice none 0 0] 27 (0, 0))) := (b1.block _ (by omega)).trans X2.out
 have Y3 : Hid (w1.heap[w.heap.size + 3]? = some (.cells #[.int .i64 0, .int .i64 0, .int .i64 0, .int .i64 0, .int .i64 0, .bool false, .int .i64 0, .bool false, .slice none 0 0] 29 (0, 0))) := (b1.block _ (by omega)).trans X3.out
 have Y4 : Hid (w1.heap[w.heap.size + 4]? = some (.cells #[.slice (some ⟨gL, 0, none⟩) n s.c, .int .i64 s.since, .bool s.bad] 39 (0, 0))) := (b1.block _ (by omega)).trans (by rw [← sV]; exact X4.out)
 clear y4 y5 KTD b1 hb X0 X1 X2 X3 X4 x0 x1 x2 x3 x4 x5 x6 x7 x8
 obtain ⟨ti, hti, hy0, hy1, hy2⟩ := info_parts Tryz.info9
 have hne : ((n : Int) == 40) = false := by simp; omega
 have y5 : w1.cell? ⟨w.heap.size + 4, 0, none⟩ = some (.slice (some ⟨gL, 0, none⟩) n s.c) := zCr Y4.out
 go_upto_region 8 with fail
 clear hne y5
 have KP : Hid (∀ U : World, Below w.heap.size w U → Calls Tryz.prog 66 #[.slice (some ⟨gL, 0, none⟩) n s.c] U fun e w' => ∃ g c ys, e = .returned (.slice (some ⟨g, 0, none⟩) n c) ∧ POut w' U.heap.size g c ys ∧ ys.map RV.key = s.xs.map RV.key ∧ Below U.heap.size U w') := fun U h => by
  have h1 := l4Pieces_any gL s.c s.xs U (HRL.out.below h) (by rw [HN.out]; exact hsl)
  rw [HN.out] at h1
  exact h1
 have KL : Hid (∀ U : World, Below w.heap.size w U → Calls Tryz.prog 33 #[.agg #[.int .i64 x.p.src, .int .i64 x.p.dst, .int .i64 x.p.kind, .int .i64 x.p.id, .int .i64 x.p.hops, .bool x.p.whole, .int .i64 x.p.off, .bool x.p.more, .slice x.a x.zs.length x.c]] U fun e w' => ∃ z : RV, e = .returned (.agg #[.int .i64 z.p.src, .int .i64 z.p.dst, .int .i64 z.p.kind, .int .i64 z.p.id, .int .i64 z.p.hops, .bool z.p.whole, .int .i64 z.p.off, .bool z.p.more, .slice z.a z.zs.length z.c]) ∧ z.key = x.key ∧ DataB w' U.heap.size z ∧ Below U.heap.size U w') := fun U h => by
  have h := l1Copy_rv x U (HX.out.below h)
  unfold RV.val Pk.val at h
  exact h
 have SK : Hid (∀ U : World, Below w1.heap.size w1 U → (fun U => U.cell? ⟨w.heap.size + 4, 0, none⟩ = some (.slice (some ⟨gL, 0, none⟩) n s.c) ∧ U.cell? ⟨w.heap.size + 1, 0, none⟩ = some (.int .i64 x.p.src) ∧ U.cell? ⟨w.heap.size + 1, 1, none⟩ = some (.int .i64 x.p.dst) ∧ U.cell? ⟨w.heap.size + 1, 2, none⟩ = some (.int .i64 x.p.kind) ∧ U.cell? ⟨w.heap.size + 1, 3, none⟩ = some (.int .i64 x.p.id) ∧ U.cell? ⟨w.heap.size + 1, 4, none⟩ = some (.int .i64 x.p.hops) ∧ U.cell? ⟨w.heap.size + 1, 5, none⟩ = some (.bool x.p.whole) ∧ U.cell? ⟨w.heap.size + 1, 6, none⟩ = some (.int .i64 x.p.off) ∧ U.cell? ⟨w.heap.size + 1, 7, none⟩ = some (.bool x.p.more) ∧ U.cell? ⟨w.heap.size + 1, 8, none⟩ = some (.slice x.a x.zs.length x.c)) U) := fun U h => by
  have e0 : ∀ o, U.cell? ⟨w.heap.size + 4, o, none⟩ = _ := fun o => zCr ((h.block _ (by omega)).trans Y4.out)
  have e1 : ∀ o, U.cell? ⟨w.heap.size + 1, o, none⟩ = _ := fun o => zCr ((h.block _ (by omega)).trans Y1.out)
  exact ⟨e0 0, e1 0, e1 1, e1 2, e1 3, e1 4, e1 5, e1 6, e1 7, e1 8⟩
 refine wp_region_held_drew (S := fun U => U.cell? ⟨w.heap.size + 4, 0, none⟩ = some (.slice (some ⟨gL, 0, none⟩) n s.c) ∧ U.cell? ⟨w.heap.size + 1, 0, none⟩ = some (.int .i64 x.p.src) ∧ U.cell? ⟨w.heap.size + 1, 1, none⟩ = some (.int .i64 x.p.dst) ∧ U.cell? ⟨w.heap.size + 1, 2, none⟩ = some (.int .i64 x.p.kind) ∧ U.cell? ⟨w.heap.size + 1, 3, none⟩ = some (.int .i64 x.p.id) ∧ U.cell? ⟨w.heap.size + 1, 4, none⟩ = some (.int .i64 x.p.hops) ∧ U.cell? ⟨w.heap.size + 1, 5, none⟩ = some (.bool x.p.whole) ∧ U.cell? ⟨w.heap.size + 1, 6, none⟩ = some (.int .i64 x.p.off) ∧ U.cell? ⟨w.heap.size + 1, 7, none⟩ = some (.bool x.p.more) ∧ U.cell? ⟨w.heap.size + 1, 8, none⟩ = some (.slice x.a x.zs.length x.c)) (by kernel_rfl) (SK.out _ ((Below.refl _ w1).drew)) (fun hH => ?_)
 refine zTk 0 36 (.pointer (some ⟨w.heap.size + 4, 0, none⟩)) rfl (fun w hS => by go_simp) hH ?_; simp only [Act.put, zX, zY, zZ]
 refine zTk 1 37 (.slice (some ⟨gL, 0, none⟩) n s.c) rfl (fun w hS => by obtain ⟨s0, q0, q1, q2, q3, q4, q5, q6, q7, q8⟩ := hS; go_simp) hH ?_; simp only [Act.put, zX, zY, zZ]
 refine zTk 3 39 (.agg #[.int .i64 x.p.src, .int .i64 x.p.dst, .int .i64 x.p.kind, .int .i64 x.p.id, .int .i64 x.p.hops, .bool x.p.whole, .int .i64 x.p.off, .bool x.p.more, .slice x.a x.zs.length x.c]) rfl (fun w hS => by obtain ⟨s0, q0, q1, q2, q3, q4, q5, q6, q7, q8⟩ := hS; go_simp) hH ?_; simp only [Act.put, zX, zY, zZ]
 refine zRd 2 (by kernel_rfl) rfl (fun K hK => ?_)
 go_simp
 (with_reducible refine (KP.out _ B1.out.drew).mono ?_)
 rintro e w2 ⟨gq, cq, ys, rfl, PO, hyk, b2'⟩
 have b2 : Below w1.heap.size w1 w2 := ((Below.refl _ w1).drew).trans b2'
 have s2 := b2.size
 have PO2 : POut w2 w1.heap.size gq cq ys := PO
 have hyl : ys.length = n := (map_len hyk).trans HN.out
 go_simp
 refine hK.out _ _ (SK.out _ b2) (fun hH => ?_)
 clear hK K PO b2'
 (first | (simp only [Act.put, zX, zY, zZ]) | skip)
 refine zRd 4 (by kernel_rfl) rfl (fun K hK => ?_)
 go_simp
 (with_reducible refine (KL.out _ (B1.out.trans (b2.mono (by omega)))).mono ?_)
 rintro e w3 ⟨z, rfl, hzk, DZ, b3⟩
 have B3 : Below w1.heap.size w1 w3 := b2.trans (b3.mono s2)
 have s3 := b3.size
 go_simp
 refine hK.out _ _ (SK.out _ B3) (fun hH => ?_)
 clear hK K
 (first | (simp only [Act.put, zX, zY, zZ]) | skip)
 refine zRd 5 (by kernel_rfl) rfl (fun K hK => ?_)
 go_simp
 obtain ⟨w4, hw4⟩ : ∃ w4, w3.alloc (.cells #[.int .i64 z.p.src, .int .i64 z.p.dst, .int .i64 z.p.kind, .int .i64 z.p.id, .int .i64 z.p.hops, .bool z.p.whole, .int .i64 z.p.off, .bool z.p.more, .slice z.a z.zs.length z.c] 29) = w4 := ⟨_, rfl⟩
 have b4 : Below w3.heap.size w3 w4 := by rw [← hw4]; exact zBa _ _
 have s4 : w4.heap.size = w3.heap.size + 1 := by rw [← hw4]; simp
 have n4 : w4.heap[w3.heap.size]? = some (.cells #[.int .i64 z.p.src, .int .i64 z.p.dst, .int .i64 z.p.kind, .int .i64 z.p.id, .int .i64 z.p.hops, .bool z.p.whole, .int .i64 z.p.off, .bool z.p.more, .slice z.a z.zs.length z.c] 29 (0, 0)) := by rw [← hw4]; exact heap_new _ _ _ rfl
 have B4 : Below w1.heap.size w1 w4 := B3.trans (b4.mono (by omega))
 (first | rw [hw4] | skip)
 refine hK.out _ _ (SK.out _ B4) (fun hH => ?_)
 clear hK K hw4
 (first | (simp only [Act.put, zX, zY, zZ]) | skip)
 refine zRd 6 (by kernel_rfl) rfl (fun K hK => ?_)
 have PO4 : POut w4 w1.heap.size gq cq ys := (PO2.below b3).below b4
 have RO4 : w4.ownsRow w1.heap.size 29 9 (.slice (some ⟨gq, 0, none⟩) n cq) n (ys.flatMap RV.cells) := (by have h := PO4.own; rw [hyl] at h; exact h)
 have DZ4 : DataB w4 w2.heap.size z := DZ.below b4
 refine step_append_d rfl (some 42) rfl (.tmp 38) (.tmp 41) 23 rfl w1.heap.size 29 ti _ 9 88 Tryz.underlying23 hti hy0 hy1 hy2 rfl (by decide) (.slice (some ⟨gq, 0, none⟩) n cq) n (ys.flatMap RV.cells) rfl RO4 ⟨w3.heap.size, 0, none⟩ 1 1 (RV.cells z) rfl rfl (fun j u hj => ?_) (rcells_one z) (by unfold maxLen; omega) (by omega) (by omega) ?_
 ·rw [Addr.add_lit, Nat.zero_add, zCr n4, ← Array.getElem?_toList]
  exact hj
 intro v5 w5 ho5 hg5 hn5
 obtain ⟨g5, c5, rfl⟩ : ∃ g5 c5, v5 = .slice (some ⟨g5, 0, none⟩) (n + 1) c5 := form_of ho5 (fun e => nomatch (hn5.1 e).1)
 have lgq := own_lt RO4 gq rfl
 have k5 : ∀ b, b < w4.heap.size → b ≠ gq → w5.heap[b]? = w4.heap[b]? := fun b hb hne => hg5.block b hb (fun e => hne (Option.some.inj e))
 have nb : ∀ lo' u, DataB w4 lo' u → DataB w5 lo' u := fun lo' u hu => hu.kept fun b hb => by
  obtain ⟨_, hlb, cu, hcu⟩ := hu.blk b hb
  refine k5 b hlb (fun e => ?_)
  obtain ⟨cu', hcu'⟩ := own_at RO4 gq rfl
  rw [e, hcu'] at hcu
  cases hcu
 have B5 : Below w1.heap.size w1 w5 := B4.grown hg5 (by omega) (fun j hj => by have h2 : gq = j := Option.some.inj hj; omega)
 have s5 : w4.heap.size ≤ w5.heap.size := hg5.size
 have SB5 : SlotB w5 w1.heap.size ⟨some ⟨g5, 0, none⟩, c5, ys ++ [z], s.since, s.bad⟩ := by
  have hcp := own_caps ho5
  refine ⟨⟨g5, rfl, (own_lt ho5 g5 rfl).1, ?_⟩, fun u hu => ?_, by simp; omega, by simp; omega, hcp.2⟩
  ·have := RowB.of_own ho5
   simpa using this
  ·rcases List.mem_append.1 hu with h1 | h1
   ·exact nb _ u (PO4.each u h1)
   ·rw [List.mem_singleton.1 h1]
    exact nb _ z (DZ4.le (by omega))
 refine hK.out _ _ (SK.out _ B5) (fun hH => ?_)
 clear hK K
 (first | (simp only [Act.put, zX, zY, zZ]) | skip)
 refine zTk 7 10 (.slice (some ⟨g5, 0, none⟩) (n + 1) c5) rfl (fun w hS => by go_simp) hH ?_; simp only [Act.put, zX, zY, zZ]
 refine wpAnyH_done (by kernel_rfl) ?_ _
 have HSB : Hid (SlotB w5 w1.heap.size ⟨some ⟨g5, 0, none⟩, c5, ys ++ [z], s.since, s.bad⟩) := SB5
 have hkeys : (ys ++ [z]).map RV.key = s.key.1 ++ [x.key] := by
  rw [List.map_append, hyk]
  show _ ++ [z.key] = _
  rw [hzk]
  rfl
 have KJ : Hid (Calls Tryz.prog 53 #[.slice (some ⟨g5, 0, none⟩) (n + 1) c5] w5 (JoinPost (s.key.1 ++ [x.key]) w5)) := (by
  obtain ⟨gj, hgj, hrl⟩ := SB5.rl
  cases hgj
  have h := specJoin_any g5 c5 (ys ++ [z]) w5 hrl (by simp; omega)
  rw [hkeys] at h
  have hlen : (ys ++ [z]).length = n + 1 := by rw [List.length_append, hyl]; rfl
  rw [hlen] at h
  exact h)
 have HRNG : Hid (∀ p ∈ s.key.1 ++ [x.key], ∀ z ∈ p.2, 0 ≤ z ∧ z ≤ 255) := fun p hp => by
  rw [← hkeys] at hp
  obtain ⟨u, hu, rfl⟩ := List.mem_map.1 hp
  exact (SB5.each u hu).byte
 have HB5 : Hid (Below w1.heap.size w1 w5) := B5
 have HKY : Hid ((ys ++ [z]).map RV.key = s.key.1 ++ [x.key]) := hkeys
 have HL5 : Hid ((ys ++ [z]).length = n + 1) := by rw [List.length_append, hyl]; rfl
 obtain ⟨cd, jp, jd, hJ⟩ : ∃ cd jp jd, joinL (s.key.1 ++ [x.key]) = (cd, (jp, jd)) := ⟨_, _, _, rfl⟩
 have HJ : Hid (joinL (s.key.1 ++ [x.key]) = (cd, (jp, jd))) := hJ
 have hcd : cd = 0 ∨ cd = 2 ∨ cd = 3 := by have := HJC.out; rw [hJ] at this; exact this
 clear hH SK PO2 PO4 RO4 DZ DZ4 b2 b3 b4 B3 B4 B5 SB5 ho5 hg5 hn5 nb k5 n4 KP KL hyk hzk hkeys hyl hJ lgq s2 s3 s4
 have ls5 : w1.heap.size ≤ w5.heap.size := HB5.out.size
 go_wp2_with fail
 refine KJ.out.mono ?_
 intro e w6 hP6
 obtain ⟨y, rfl, hyk, DY, b6⟩ := join_data hP6 HJ.out HRNG.out
 have HYK : Hid (y.key = (jp, jd)) := hyk
 have HDY : Hid (DataB w6 w5.heap.size y) := DY
 have HB6 : Hid (Below w1.heap.size w1 w6) := HB5.out.trans (b6.mono ls5)
 have HSB6 : Hid (SlotB w6 w1.heap.size ⟨some ⟨g5, 0, none⟩, c5, ys ++ [z], s.since, s.bad⟩) := HSB.out.below b6
 have ls6 := b6.size
 clear hyk DY b6 hP6 KJ HSB HB5 HRNG s5
 obtain ⟨w7, hw7⟩ : ∃ w7, w6.alloc (.cells #[.int .i64 y.p.src, .int .i64 y.p.dst, .int .i64 y.p.kind, .int .i64 y.p.id, .int .i64 y.p.hops, .bool y.p.whole, .int .i64 y.p.off, .bool y.p.more, .slice y.a y.zs.length y.c] 29) = w7 := ⟨_, rfl⟩
 have b7 : Below w6.heap.size w6 w7 := by rw [← hw7]; exact zBa _ _
 have s7 : w7.heap.size = w6.heap.size + 1 := by rw [← hw7]; simp
 have Z7 : Hid (w7.heap[w6.heap.size]? = some (.cells #[.int .i64 y.p.src, .int .i64 y.p.dst, .int .i64 y.p.kind, .int .i64 y.p.id, .int .i64 y.p.hops, .bool y.p.whole, .int .i64 y.p.off, .bool y.p.more, .slice y.a y.zs.length y.c] 29 (0, 0))) := by rw [← hw7]; exact heap_new _ _ _ rfl
 have B7 : Hid (Below w1.heap.size w1 w7) := HB6.out.trans (b7.mono (by omega))
 have BW7 : Hid (Below w.heap.size w w7) := B1.out.trans (B7.out.mono (by omega))
 have HD7 : Hid (DataB w7 w5.heap.size y) := HDY.out.below b7
 have HS7 : Hid (SlotB w7 w1.heap.size ⟨some ⟨g5, 0, none⟩, c5, ys ++ [z], s.since, s.bad⟩) := HSB6.out.below b7
 have V0 : Hid (w7.heap[w.heap.size]? = some (.cells #[.int .i64 now, .slice (some ⟨g, 0, none⟩) m c] 27 (0, 0))) := (B7.out.block _ (by omega)).trans Y0.out
 have V2 : Hid (w7.heap[w.heap.size + 2]? = some (.cells #[.int .i64 0, .slice none 0 0] 27 (0, 0))) := (B7.out.block _ (by omega)).trans Y2.out
 have V3 : Hid (w7.heap[w.heap.size + 3]? = some (.cells #[.int .i64 0, .int .i64 0, .int .i64 0, .int .i64 0, .int .i64 0, .bool false, .int .i64 0, .bool false, .slice none 0 0] 29 (0, 0))) := (B7.out.block _ (by omega)).trans Y3.out
 clear b7 HSB6 HDY HB6 Y0 Y1 Y2 Y3 Y4
 go_upto_region 11 with fail
 (first | rw [hw7] | skip)
 clear hw7
 have a0 : w7.cell? ⟨w.heap.size, 0, none⟩ = some (.int .i64 now) := zCr V0.out
 have a1 : w7.cell? ⟨w.heap.size, 1, none⟩ = some (.slice (some ⟨g, 0, none⟩) m c) := zCr V0.out
 rcases hcd with rfl | rfl | rfl
 ·have HP0 : Hid (putK (ts.map SV.key) i s.key x.key = ((ts.map SV.key).eraseIdx i, (jp, jd), 0)) := (put_goes HBAD.out HIN.out (by simpa [SV.key] using H40.out) (by rw [HJ.out])).trans (by rw [HJ.out])
  obtain ⟨tj, htj, hz0, hz1, hz2⟩ := info_parts Tryz.infoSlot
  obtain ⟨cur, hcur, hcc, hcs, htk⟩ : ∃ cur : Array Value, w.heap[g]? = some (.cells cur 39 (0, 0)) ∧ m ≤ c ∧ c ≤ 9223372036854775807 ∧ cur.toList.take (m * 3) = ts.flatMap SV.cells := by
   rcases HC.out.own.2 with ⟨hv, _⟩ | ⟨g', cap, cur, hv, _, h2, h3, h4, h5, h6⟩
   ·cases hv
   ·cases hv
    have := HM.out
    have hml : maxLen = 9223372036854775807 := rfl
    rw [HM.out] at h6
    exact ⟨cur, h2, by omega, by omega, h6⟩
  have HOLD : Hid (∀ (U : World), U.heap[g]? = w.heap[g]? → ∀ (j : Nat) (u : Value), (ts.flatMap SV.cells)[j]? = some u → U.cell? ⟨g, j, none⟩ = some u) := fun U hU j u hj => by
   have hlt := (List.getElem?_eq_some_iff.1 hj).1
   rw [flatS_len, HM.out] at hlt
   rw [zCr (hU.trans hcur)]
   rw [← htk, List.getElem?_take_of_lt hlt, Array.getElem?_toList] at hj
   exact hj
  clear hcur htk
  go_upto_region 12 with fail
  have SK : Hid (∀ U : World, U.heap[w.heap.size]? = w7.heap[w.heap.size]? → U.cell? ⟨w.heap.size, 1, none⟩ = some (.slice (some ⟨g, 0, none⟩) m c)) := fun U h => zCr (h.trans V0.out)
  refine wp_region_late (S := fun U => U.cell? ⟨w.heap.size, 1, none⟩ = some (.slice (some ⟨g, 0, none⟩) m c)) (by kernel_rfl) (SK.out _ rfl) (fun hH => ?_)
  refine zLk 1 52 (.pointer (some ⟨w.heap.size, 1, none⟩)) rfl (fun w hS => by go_simp) hH ?_; simp only [Act.put, zX, zY, zZ]
  refine zLk 2 53 (.slice (some ⟨g, 0, none⟩) m c) rfl (fun w hS => by have s0 := hS; go_simp) hH ?_; simp only [Act.put, zX, zY, zZ]
  refine zLk 3 54 (.int .i64 i) rfl (fun w hS => by go_simp) hH ?_; simp only [Act.put, zX, zY, zZ]
  refine zLk 4 55 (.slice (some ⟨g, 0, none⟩) i c) rfl (fun w hS => by go_simp; intro h; omega) hH ?_; simp only [Act.put, zX, zY, zZ]
  refine zLk 6 57 (.pointer (some ⟨w.heap.size, 1, none⟩)) rfl (fun w hS => by go_simp) hH ?_; simp only [Act.put, zX, zY, zZ]
  refine zLk 7 58 (.slice (some ⟨g, 0, none⟩) m c) rfl (fun w hS => by have s0 := hS; go_simp) hH ?_; simp only [Act.put, zX, zY, zZ]
  refine zLk 8 59 (.int .i64 i) rfl (fun w hS => by go_simp) hH ?_; simp only [Act.put, zX, zY, zZ]
  refine zLk 9 60 (.int .i64 (i + 1)) rfl (fun w hS => by go_simp; rw [IntKind.wrap_i64]; omega) hH ?_; simp only [Act.put, zX, zY, zZ]
  obtain ⟨ad, had⟩ : ∃ ad : Addr, (if c = i + 1 then some (Addr.mk g 0 none) else some (Addr.mk g ((i + 1) * 3) none)) = some ad := by
   by_cases h : c = i + 1
   ·exact ⟨_, if_pos h⟩
   ·exact ⟨_, if_neg h⟩
  refine zLk 10 61 (.slice (some ad) (m - (i + 1)) (c - (i + 1))) rfl (fun w hS => by rw [← had]; go_simp; intro h; omega) hH ?_; simp only [Act.put, zX, zY, zZ]
  refine late_one (i := 0) (by kernel_rfl) rfl (fun K hK => ?_)
  go_simp
  obtain ⟨w8, hw8⟩ : ∃ w8, (w7.alloc (.cells #[] 39)).drew = w8 := ⟨_, rfl⟩
  have b8 : Below w7.heap.size w7 w8 := by rw [← hw8]; exact (zBa _ _).drew
  have s8 : w8.heap.size = w7.heap.size + 1 := by rw [← hw8]; simp
  have n8 : w8.heap[w7.heap.size]? = some (.cells #[] 39 (0, 0)) := by rw [← hw8]; exact heap_new _ _ _ rfl
  (first | rw [hw8] | skip)
  refine hK.out _ _ (Or.inr (SK.out _ (b8.block _ (by omega)))) (fun hH1 => ?_)
  have hH := SK.out w8 (b8.block _ (by omega))
  clear hK K hH1 hw8
  (first | (simp only [Act.put, zX, zY, zZ]) | skip)
  have own8 : w8.ownsRow w7.heap.size 39 3 (.slice (some ⟨w6.heap.size + 1, 0, none⟩) 0 0) 0 [] := ⟨rfl, Or.inr ⟨w6.heap.size + 1, 0, #[], rfl, by omega, (s7 ▸ n8), Nat.le_refl _, by unfold maxLen; omega, rfl, rfl⟩⟩
  have lt7 : w.heap.size + 5 ≤ w7.heap.size := by omega
  have hsplit : ts.flatMap SV.cells = (ts.take i).flatMap SV.cells ++ (ts.drop i).flatMap SV.cells := by rw [← List.flatMap_append, List.take_append_drop]
  have hl1 : ((ts.take i).flatMap SV.cells).length = i * 3 := by rw [flatS_len, List.length_take, HM.out, Nat.min_eq_left (by omega)]
  refine late_one (i := 5) (by kernel_rfl) rfl (fun K hK => ?_)
  refine step_append_d rfl (some 56) rfl (.tmp 51) (.tmp 55) 25 rfl w7.heap.size 39 tj _ 3 40 Tryz.underlying25 htj hz0 hz1 hz2 rfl (by decide) (.slice (some ⟨w6.heap.size + 1, 0, none⟩) 0 0) 0 [] rfl own8 ⟨g, 0, none⟩ i c ((ts.take i).flatMap SV.cells) rfl hl1 (fun j u hj => ?_) (flatS_one _) (by unfold maxLen; omega) (by omega) (by omega) ?_
  ·rw [Addr.add_lit, Nat.zero_add]
   refine HOLD.out w8 ((b8.block _ (by omega)).trans (BW7.out.block _ lg)) j u ?_
   rw [hsplit, List.getElem?_append_left (List.getElem?_eq_some_iff.1 hj).1]
   exact hj
  intro v9 w9 ho9 hg9 hn9
  simp only [Nat.zero_add, List.nil_append] at ho9
  obtain ⟨g9, c9, rfl⟩ : ∃ g9 c9, v9 = .slice (some ⟨g9, 0, none⟩) i c9 := form_of ho9 (fun e => nomatch (hn9.1 e).1)
  have lg9 := own_lt ho9 g9 rfl
  have k9 : ∀ b, b < w7.heap.size → w9.heap[b]? = w7.heap[b]? := fun b hb => (hg9.block b (by omega) (fun e => by have h2 : b = w6.heap.size + 1 := Option.some.inj e; omega)).trans (b8.block b hb)
  have fr9 : w9.os = w7.os ∧ w9.tape = w7.tape ∧ w9.output = w7.output := ⟨hg9.os.trans b8.os, hg9.tape.trans b8.tape, hg9.output.trans b8.output⟩
  have s9 : w8.heap.size ≤ w9.heap.size := hg9.size
  refine hK.out _ _ (Or.inr (SK.out _ (k9 _ (by omega)))) (fun hH1 => ?_)
  have hH := SK.out w9 (k9 _ (by omega))
  clear hK K hH1
  (first | (simp only [Act.put, zX, zY, zZ]) | skip)
  have hl2 : ((ts.drop (i + 1)).flatMap SV.cells).length = (m - (i + 1)) * 3 := by rw [flatS_len, List.length_drop, HM.out]
  have hsp2 : ts.flatMap SV.cells = (ts.take (i + 1)).flatMap SV.cells ++ (ts.drop (i + 1)).flatMap SV.cells := by rw [← List.flatMap_append, List.take_append_drop]
  have hl3 : ((ts.take (i + 1)).flatMap SV.cells).length = (i + 1) * 3 := by rw [flatS_len, List.length_take, HM.out, Nat.min_eq_left (by omega)]
  refine late_one (i := 11) (by kernel_rfl) rfl (fun K hK => ?_)
  refine step_append_d rfl (some 62) rfl (.tmp 56) (.tmp 61) 25 rfl w7.heap.size 39 tj _ 3 40 Tryz.underlying25 htj hz0 hz1 hz2 rfl (by decide) (.slice (some ⟨g9, 0, none⟩) i c9) i ((ts.take i).flatMap SV.cells) rfl ho9 ad (m - (i + 1)) (c - (i + 1)) ((ts.drop (i + 1)).flatMap SV.cells) rfl hl2 (fun j u hj => ?_) (flatS_one _) (by unfold maxLen; omega) (by omega) (by omega) ?_
  ·have hjl := (List.getElem?_eq_some_iff.1 hj).1
   rw [hl2] at hjl
   rw [if_neg (by omega)] at had
   obtain rfl := Option.some.inj had
   rw [Addr.add_lit]
   refine HOLD.out w9 ((k9 _ (by omega)).trans (BW7.out.block _ lg)) ((i + 1) * 3 + j) u ?_
   rw [hsp2, List.getElem?_append_right (by omega), hl3, show (i + 1) * 3 + j - (i + 1) * 3 = j by omega]
   exact hj
  intro v10 w10 ho10 hg10 hn10
  obtain ⟨k, hk⟩ : ∃ k, i + (m - (i + 1)) = k := ⟨_, rfl⟩
  have hers : (ts.take i).flatMap SV.cells ++ (ts.drop (i + 1)).flatMap SV.cells = (ts.eraseIdx i).flatMap SV.cells := by rw [List.eraseIdx_eq_take_drop_succ, List.flatMap_append]
  rw [hk, hers] at ho10
  obtain ⟨g10, c10, rfl⟩ : ∃ g10 c10, v10 = .slice (some ⟨g10, 0, none⟩) k c10 := form_of ho10 (fun e => nomatch (hn10.1 e).1)
  have hkl : (ts.eraseIdx i).length = k := by have h := ho10.1; rw [flatS_len] at h; omega
  have HKL : Hid ((ts.eraseIdx i).length = k) := hkl
  have HOW : Hid (w10.ownsRow w7.heap.size 39 3 (.slice (some ⟨g10, 0, none⟩) k c10) k ((ts.eraseIdx i).flatMap SV.cells)) := ho10
  have lg10 := own_lt ho10 g10 rfl
  have k10 : ∀ b, b < w7.heap.size → w10.heap[b]? = w7.heap[b]? := fun b hb => (hg10.block b (by omega) (fun e => by have h2 : b = g9 := Option.some.inj e; omega)).trans (k9 b hb)
  have fr10 : w10.os = w7.os ∧ w10.tape = w7.tape ∧ w10.output = w7.output := ⟨hg10.os.trans fr9.1, hg10.tape.trans fr9.2.1, hg10.output.trans fr9.2.2⟩
  have s10 : w9.heap.size ≤ w10.heap.size := hg10.size
  refine hK.out _ _ (Or.inr (SK.out _ (k10 _ (by omega)))) (fun hH1 => ?_)
  have hH := SK.out w10 (k10 _ (by omega))
  clear hK K hH1 ho9 hg9 hn9 ho10 hg10 hn10 own8 b8 n8
  (first | (simp only [Act.put, zX, zY, zZ]) | skip)
  refine zLk 12 63 (.pointer (some ⟨w.heap.size, 1, none⟩)) rfl (fun w hS => by go_simp) hH ?_; simp only [Act.put, zX, zY, zZ]
  have d0 := (k10 (w.heap.size) (by omega)).trans V0.out
  have fd : ∀ o, w10.frozen? ⟨w.heap.size, o, none⟩ = false := fun o => zUf d0 o
  have da : w10.cell? ⟨w.heap.size, 1, none⟩ = some (.slice (some ⟨g, 0, none⟩) m c) := zCr d0
  refine late_one (i := 13) (by kernel_rfl) rfl (fun K hK => ?_)
  go_simp
  refine hK.out _ _ (Or.inl (by kernel_rfl)) (fun hH1 => ?_)
  clear hK K hH1 hH
  refine late_done (by kernel_rfl) ?_ _
  obtain ⟨w11, hw11⟩ : ∃ w11, w10.setCell ⟨w.heap.size, 1, none⟩ (.slice (some ⟨g10, 0, none⟩) k c10) = w11 := ⟨_, rfl⟩
  have f11 : ∀ b, b ≠ w.heap.size → w11.heap[b]? = w10.heap[b]? := fun b hb => by rw [← hw11]; exact zHs hb
  have c11 : w11.heap[w.heap.size]? = some (.cells #[.int .i64 now, .slice (some ⟨g10, 0, none⟩) k c10] 27 (0, 0)) := by rw [← hw11]; exact set_at (o := 1) d0
  have e11 : w11.os = w10.os ∧ w11.tape = w10.tape ∧ w11.output = w10.output ∧ w11.heap.size = w10.heap.size := by rw [← hw11]; exact ⟨by simp [World.setCell], by simp [World.setCell], by simp [World.setCell], by simp [World.setCell]⟩
  have s11 := e11.2.2.2
  (first | rw [hk] | skip)
  (first | rw [hw11] | skip)
  clear hw11 fd da d0 a0 a1
  have z11 := (f11 (w6.heap.size) (by omega)).trans ((k10 _ (by omega)).trans Z7.out)
  go_upto_region 13 with fail
  have SK2 : Hid (∀ U : World, U.heap[w.heap.size]? = w11.heap[w.heap.size]? → U.heap[w6.heap.size]? = w11.heap[w6.heap.size]? → (fun U => U.cell? ⟨w.heap.size, 0, none⟩ = some (.int .i64 now) ∧ U.cell? ⟨w.heap.size, 1, none⟩ = some (.slice (some ⟨g10, 0, none⟩) k c10) ∧ U.cell? ⟨w6.heap.size, 0, none⟩ = some (.int .i64 y.p.src) ∧ U.cell? ⟨w6.heap.size, 1, none⟩ = some (.int .i64 y.p.dst) ∧ U.cell? ⟨w6.heap.size, 2, none⟩ = some (.int .i64 y.p.kind) ∧ U.cell? ⟨w6.heap.size, 3, none⟩ = some (.int .i64 y.p.id) ∧ U.cell? ⟨w6.heap.size, 4, none⟩ = some (.int .i64 y.p.hops) ∧ U.cell? ⟨w6.heap.size, 5, none⟩ = some (.bool y.p.whole) ∧ U.cell? ⟨w6.heap.size, 6, none⟩ = some (.int .i64 y.p.off) ∧ U.cell? ⟨w6.heap.size, 7, none⟩ = some (.bool y.p.more) ∧ U.cell? ⟨w6.heap.size, 8, none⟩ = some (.slice y.a y.zs.length y.c)) U) := fun U h0 h1 => by
   have e0 : ∀ o, U.cell? ⟨w.heap.size, o, none⟩ = _ := fun o => zCr (h0.trans c11)
   have e1 : ∀ o, U.cell? ⟨w6.heap.size, o, none⟩ = _ := fun o => zCr (h1.trans z11)
   exact ⟨e0 0, e0 1, e1 0, e1 1, e1 2, e1 3, e1 4, e1 5, e1 6, e1 7, e1 8⟩
  refine wp_region_held_drew (S := fun U => U.cell? ⟨w.heap.size, 0, none⟩ = some (.int .i64 now) ∧ U.cell? ⟨w.heap.size, 1, none⟩ = some (.slice (some ⟨g10, 0, none⟩) k c10) ∧ U.cell? ⟨w6.heap.size, 0, none⟩ = some (.int .i64 y.p.src) ∧ U.cell? ⟨w6.heap.size, 1, none⟩ = some (.int .i64 y.p.dst) ∧ U.cell? ⟨w6.heap.size, 2, none⟩ = some (.int .i64 y.p.kind) ∧ U.cell? ⟨w6.heap.size, 3, none⟩ = some (.int .i64 y.p.id) ∧ U.cell? ⟨w6.heap.size, 4, none⟩ = some (.int .i64 y.p.hops) ∧ U.cell? ⟨w6.heap.size, 5, none⟩ = some (.bool y.p.whole) ∧ U.cell? ⟨w6.heap.size, 6, none⟩ = some (.int .i64 y.p.off) ∧ U.cell? ⟨w6.heap.size, 7, none⟩ = some (.bool y.p.more) ∧ U.cell? ⟨w6.heap.size, 8, none⟩ = some (.slice y.a y.zs.length y.c)) (by kernel_rfl) (SK2.out _ rfl rfl) (fun hH => ?_)
  refine zTk 0 64 (.agg #[.int .i64 now, .slice (some ⟨g10, 0, none⟩) k c10]) rfl (fun w hS => by obtain ⟨s0, s1, q0, q1, q2, q3, q4, q5, q6, q7, q8⟩ := hS; go_simp) hH ?_; simp only [Act.put, zX, zY, zZ]
  refine zTk 1 65 (.agg #[.int .i64 y.p.src, .int .i64 y.p.dst, .int .i64 y.p.kind, .int .i64 y.p.id, .int .i64 y.p.hops, .bool y.p.whole, .int .i64 y.p.off, .bool y.p.more, .slice y.a y.zs.length y.c]) rfl (fun w hS => by obtain ⟨s0, s1, q0, q1, q2, q3, q4, q5, q6, q7, q8⟩ := hS; go_simp) hH ?_; simp only [Act.put, zX, zY, zZ]
  have q2 : w11.heap[w.heap.size + 2]? = some (.cells #[.int .i64 0, .slice none 0 0] 27 (0, 0)) := (f11 _ (by omega)).trans ((k10 _ (by omega)).trans V2.out)
  have q3 : w11.heap[w.heap.size + 3]? = some (.cells #[.int .i64 0, .int .i64 0, .int .i64 0, .int .i64 0, .int .i64 0, .bool false, .int .i64 0, .bool false, .slice none 0 0] 29 (0, 0)) := (f11 _ (by omega)).trans ((k10 _ (by omega)).trans V3.out)
  have z0 : w11.cell? ⟨w.heap.size + 1 + 1, 0, none⟩ = some (.int .i64 0) := zCr q2
  have z1 : w11.cell? ⟨w.heap.size + 1 + 1, 1, none⟩ = some (.slice none 0 0) := zCr q2
  have fz : ∀ o, w11.frozen? ⟨w.heap.size + 1 + 1, o, none⟩ = false := fun o => zUf q2 o
  refine zRd 2 (by kernel_rfl) rfl (fun K hK => ?_)
  go_simp
  obtain ⟨w12, hw12⟩ : ∃ w12, ((w11.setCell ⟨w.heap.size + 1 + 1, 0, none⟩ (.int .i64 now)).setCell ⟨w.heap.size + 1 + 1, 1, none⟩ (.slice (some ⟨g10, 0, none⟩) k c10)).drew = w12 := ⟨_, rfl⟩
  have f12 : ∀ b, b ≠ w.heap.size + 2 → w12.heap[b]? = w11.heap[b]? := fun b hb => by rw [← hw12]; exact (zHs hb).trans (zHs hb)
  have c12 : w12.heap[w.heap.size + 2]? = some (.cells #[.int .i64 now, .slice (some ⟨g10, 0, none⟩) k c10] 27 (0, 0)) := by rw [← hw12]; exact set_at (o := 1) (set_at (o := 0) q2)
  have e12 : w12.os = w11.os ∧ w12.tape = w11.tape ∧ w12.output = w11.output ∧ w12.heap.size = w11.heap.size := by
   have hd := draw1 ((w11.setCell ⟨w.heap.size + 1 + 1, 0, none⟩ (.int .i64 now)).setCell ⟨w.heap.size + 1 + 1, 1, none⟩ (.slice (some ⟨g10, 0, none⟩) k c10))
   rw [← hw12]
   exact ⟨hd.os, hd.tape, hd.output, by simp [World.setCell]⟩
  (first | rw [hw12] | skip)
  refine hK.out _ _ (SK2.out _ (f12 _ (by omega)) (f12 _ (by omega))) (fun hH => ?_)
  clear hK K hw12 z0 z1 fz
  (first | (simp only [Act.put, zX, zY, zZ]) | skip)
  have d3 := (f12 (w.heap.size + 3) (by omega)).trans q3
  have fy : ∀ o, w12.frozen? ⟨w.heap.size + 1 + 1 + 1, o, none⟩ = false := fun o => zUf d3 o
  have p0 : w12.cell? ⟨w.heap.size + 1 + 1 + 1, 0, none⟩ = some (.int .i64 0) := zCr d3
  have p1 : w12.cell? ⟨w.heap.size + 1 + 1 + 1, 1, none⟩ = some (.int .i64 0) := zCr d3
  have p2 : w12.cell? ⟨w.heap.size + 1 + 1 + 1, 2, none⟩ = some (.int .i64 0) := zCr d3
  have p3 : w12.cell? ⟨w.heap.size + 1 + 1 + 1, 3, none⟩ = some (.int .i64 0) := zCr d3
  have p4 : w12.cell? ⟨w.heap.size + 1 + 1 + 1, 4, none⟩ = some (.int .i64 0) := zCr d3
  have p5 : w12.cell? ⟨w.heap.size + 1 + 1 + 1, 5, none⟩ = some (.bool false) := zCr d3
  have p6 : w12.cell? ⟨w.heap.size + 1 + 1 + 1, 6, none⟩ = some (.int .i64 0) := zCr d3
  have p7 : w12.cell? ⟨w.heap.size + 1 + 1 + 1, 7, none⟩ = some (.bool false) := zCr d3
  have p8 : w12.cell? ⟨w.heap.size + 1 + 1 + 1, 8, none⟩ = some (.slice none 0 0) := zCr d3
  refine zRd 3 (by kernel_rfl) rfl (fun K hK => ?_)
  go_simp
  obtain ⟨w13, hw13⟩ : ∃ w13, (((((((((w12.setCell ⟨w.heap.size + 1 + 1 + 1, 0, none⟩ (.int .i64 y.p.src)).setCell ⟨w.heap.size + 1 + 1 + 1, 1, none⟩ (.int .i64 y.p.dst)).setCell ⟨w.heap.size + 1 + 1 + 1, 2, none⟩ (.int .i64 y.p.kind)).setCell ⟨w.heap.size + 1 + 1 + 1, 3, none⟩ (.int .i64 y.p.id)).setCell ⟨w.heap.size + 1 + 1 + 1, 4, none⟩ (.int .i64 y.p.hops)).setCell ⟨w.heap.size + 1 + 1 + 1, 5, none⟩ (.bool y.p.whole)).setCell ⟨w.heap.size + 1 + 1 + 1, 6, none⟩ (.int .i64 y.p.off)).setCell ⟨w.heap.size + 1 + 1 + 1, 7, none⟩ (.bool y.p.more)).setCell ⟨w.heap.size + 1 + 1 + 1, 8, none⟩ (.slice y.a y.zs.length y.c)) = w13 := ⟨_, rfl⟩
  have f13 : ∀ b, b ≠ w.heap.size + 3 → w13.heap[b]? = w12.heap[b]? := fun b hb => by rw [← hw13]; exact box_far9 w12 _ b hb _ _ _ _ _ _ _ _ _
  have c13 : w13.heap[w.heap.size + 3]? = some (.cells #[.int .i64 y.p.src, .int .i64 y.p.dst, .int .i64 y.p.kind, .int .i64 y.p.id, .int .i64 y.p.hops, .bool y.p.whole, .int .i64 y.p.off, .bool y.p.more, .slice y.a y.zs.length y.c] 29 (0, 0)) := by rw [← hw13]; exact box_put9 _ _ _ _ _ _ _ _ _ d3
  have e13 : w13.os = w12.os ∧ w13.tape = w12.tape ∧ w13.output = w12.output ∧ w13.heap.size = w12.heap.size := by rw [← hw13]; exact ⟨by simp [World.setCell], by simp [World.setCell], by simp [World.setCell], box_size9 w12 _ _ _ _ _ _ _ _ _ _⟩
  (first | rw [hw13] | skip)
  refine hK.out _ _ (SK2.out _ ((f13 _ (by omega)).trans (f12 _ (by omega))) ((f13 _ (by omega)).trans (f12 _ (by omega)))) (fun hH => ?_)
  clear hK K hw13 p0 p1 p2 p3 p4 p5 p6 p7 p8 fy
  (first | (simp only [Act.put, zX, zY, zZ]) | skip)
  refine zTk 4 8 (.int .i64 0) rfl (fun w hS => by go_simp) hH ?_; simp only [Act.put, zX, zY, zZ]
  refine wpAnyH_done (by kernel_rfl) ?_ _
  have c12' := (f13 (w.heap.size + 2) (by omega)).trans c12
  have z0 : w13.cell? ⟨w.heap.size + 1 + 1, 0, none⟩ = some (.int .i64 now) := zCr c12'
  have z1 : w13.cell? ⟨w.heap.size + 1 + 1, 1, none⟩ = some (.slice (some ⟨g10, 0, none⟩) k c10) := zCr c12'
  have p0 : w13.cell? ⟨w.heap.size + 1 + 1 + 1, 0, none⟩ = some (.int .i64 y.p.src) := zCr c13
  have p1 : w13.cell? ⟨w.heap.size + 1 + 1 + 1, 1, none⟩ = some (.int .i64 y.p.dst) := zCr c13
  have p2 : w13.cell? ⟨w.heap.size + 1 + 1 + 1, 2, none⟩ = some (.int .i64 y.p.kind) := zCr c13
  have p3 : w13.cell? ⟨w.heap.size + 1 + 1 + 1, 3, none⟩ = some (.int .i64 y.p.id) := zCr c13
  have p4 : w13.cell? ⟨w.heap.size + 1 + 1 + 1, 4, none⟩ = some (.int .i64 y.p.hops) := zCr c13
  have p5 : w13.cell? ⟨w.heap.size + 1 + 1 + 1, 5, none⟩ = some (.bool y.p.whole) := zCr c13
  have p6 : w13.cell? ⟨w.heap.size + 1 + 1 + 1, 6, none⟩ = some (.int .i64 y.p.off) := zCr c13
  have p7 : w13.cell? ⟨w.heap.size + 1 + 1 + 1, 7, none⟩ = some (.bool y.p.more) := zCr c13
  have p8 : w13.cell? ⟨w.heap.size + 1 + 1 + 1, 8, none⟩ = some (.slice y.a y.zs.length y.c) := zCr c13
  have FIN : Hid (PutPost now lo ts i s x.key w (.returned (.tuple #[.agg #[.int .i64 now, .slice (some ⟨g10, 0, none⟩) k c10], y.val0, .int .i64 0])) w13) := (by
   have kk : ∀ b, b < w7.heap.size → b ≠ w.heap.size → b ≠ w.heap.size + 2 → b ≠ w.heap.size + 3 → w13.heap[b]? = w7.heap[b]? := fun b hb h0 h2 h3 => (f13 b h3).trans ((f12 b h2).trans ((f11 b h0).trans (k10 b hb)))
   have kw : ∀ b, b < w.heap.size → w13.heap[b]? = w.heap[b]? := fun b hb => (kk b (by omega) (by omega) (by omega) (by omega)).trans (BW7.out.block b hb)
   have OW13 : w13.ownsRow w7.heap.size 39 3 (.slice (some ⟨g10, 0, none⟩) k c10) k ((ts.eraseIdx i).flatMap SV.cells) := own_kept HOW.out fun b hb => by
    have h9 : b = g10 := (Option.some.inj hb).symm
    exact (f13 b (by omega)).trans ((f12 b (by omega)).trans (f11 b (by omega)))
   have hso : ∀ u ∈ ts, SOk w13 u := HC.out.soksB fun b hb => kw b (HC.out.noG b hb).2
   have FO : Forest w13 lo ts := HC.out.forest.kept fun b hb => kw b (HC.out.noG b hb).2
   have CA : CAns w13 lo g10 c10 (ts.eraseIdx i) := ⟨by rw [HKL.out]; exact Joins.ownsRow_le OW13 (by omega), FO.sub (List.eraseIdx_sublist ts i)⟩
   have D13 : DataB w13 lo y := (HD7.out.kept fun b hb => by
    have h9 := HD7.out.blk b hb
    exact kk b (by omega) (by omega) (by omega) (by omega)).le (by omega)
   have BL : Below lo w w13 := ⟨e13.1.trans (e12.1.trans (e11.1.trans (fr10.1.trans BW7.out.os))), e13.2.1.trans (e12.2.1.trans (e11.2.1.trans (fr10.2.1.trans BW7.out.tape))), e13.2.2.1.trans (e12.2.2.1.trans (e11.2.2.1.trans (fr10.2.2.trans BW7.out.output))), by have := e13.2.2.2; have := e12.2.2.2; have := BW7.out.size; omega, fun b hb => kw b (by omega)⟩
   refine ⟨g10, 0, c10, ts.eraseIdx i, y, 0, by rw [HKL.out], CA.ans.sl.off, D13, HP0.out.trans ?_, by rw [HKL.out]; omega, BL⟩
   rw [map_erase, HYK.out])
  clear hH SK SK2 c13 c12 c12' f13 f12 f11 d3 q2 q3 k10 k9 e13 e12 e11 fr10 fr9
  go_wp2
  refine bodyPost_ret (v := .tuple #[.agg #[.int .i64 now, .slice (some ⟨g10, 0, none⟩) k c10], y.val0, .int .i64 0]) (by simp [results, Tryz.results36, go_sem, RV.val0, Pk.val, z0, z1, p0, p1, p2, p3, p4, p5, p6, p7, p8]) rfl FIN.out
 ·have HP2 : Hid (putK (ts.map SV.key) i s.key x.key = ((ts.map SV.key).set i (spoilK s.key), zeroPB, 4)) := put_spoils HBAD.out HIN.out (by simpa [SV.key] using H40.out) (by rw [HJ.out]; show (2 : Int) ≠ 0; decide) (by rw [HJ.out]; show (2 : Int) ≠ 3; decide)
  go_wp2_with fail
  refine (KBD.out _ BW7.out).mono ?_
  rintro e w8 ⟨rfl, hslf, b2⟩
  have sz2 := b2.size
  have q2 : w8.heap[w.heap.size + 2]? = some (.cells #[.int .i64 0, .slice none 0 0] 27 (0, 0)) := (b2.block _ (by omega) (by omega)).trans V2.out
  have q3 : w8.heap[w.heap.size + 3]? = some (.cells #[.int .i64 0, .int .i64 0, .int .i64 0, .int .i64 0, .int .i64 0, .bool false, .int .i64 0, .bool false, .slice none 0 0] 29 (0, 0)) := (b2.block _ (by omega) (by omega)).trans V3.out
  have z0 : w8.cell? ⟨w.heap.size + 1 + 1, 0, none⟩ = some (.int .i64 0) := zCr q2
  have z1 : w8.cell? ⟨w.heap.size + 1 + 1, 1, none⟩ = some (.slice none 0 0) := zCr q2
  have fz : ∀ o, w8.frozen? ⟨w.heap.size + 1 + 1, o, none⟩ = false := fun o => zUf q2 o
  have fy : ∀ o, w8.frozen? ⟨w.heap.size + 1 + 1 + 1, o, none⟩ = false := fun o => zUf q3 o
  have lz2 := lt_of_block q2
  have lz3 := lt_of_block q3
  have p0 : w8.cell? ⟨w.heap.size + 1 + 1 + 1, 0, none⟩ = some (.int .i64 0) := zCr q3
  have p1 : w8.cell? ⟨w.heap.size + 1 + 1 + 1, 1, none⟩ = some (.int .i64 0) := zCr q3
  have p2 : w8.cell? ⟨w.heap.size + 1 + 1 + 1, 2, none⟩ = some (.int .i64 0) := zCr q3
  have p3 : w8.cell? ⟨w.heap.size + 1 + 1 + 1, 3, none⟩ = some (.int .i64 0) := zCr q3
  have p4 : w8.cell? ⟨w.heap.size + 1 + 1 + 1, 4, none⟩ = some (.int .i64 0) := zCr q3
  have p5 : w8.cell? ⟨w.heap.size + 1 + 1 + 1, 5, none⟩ = some (.bool false) := zCr q3
  have p6 : w8.cell? ⟨w.heap.size + 1 + 1 + 1, 6, none⟩ = some (.int .i64 0) := zCr q3
  have p7 : w8.cell? ⟨w.heap.size + 1 + 1 + 1, 7, none⟩ = some (.bool false) := zCr q3
  have p8 : w8.cell? ⟨w.heap.size + 1 + 1 + 1, 8, none⟩ = some (.slice none 0 0) := zCr q3
  have FIN : Hid (∀ W', (∀ b, b ≠ w.heap.size + 2 → b ≠ w.heap.size + 3 → W'.heap[b]? = w8.heap[b]?) → W'.os = w8.os → W'.tape = w8.tape → W'.output = w8.output → W'.heap.size = w8.heap.size → PutPost now lo ts i s x.key w (.returned (.tuple #[.agg #[.int .i64 now, .slice (some ⟨g, 0, none⟩) m c], zeroV, .int .i64 4])) W') := fun W' hk h1 h2 h3 h5 => by
   have hk' : ∀ b, b < w.heap.size → W'.heap[b]? = w8.heap[b]? := fun b hb => hk b (by omega) (by omega)
   have hm : (ts.set i (badS s)).length = m := by rw [List.length_set]; exact HM.out
   have BL : Below lo w w8 := (BW7.out.mono lw).trans (b2.below (fun b hb => by omega) (Nat.le_trans lw BW7.out.size))
   refine ⟨g, 0, c, ts.set i (badS s), zeroRV, 4, by rw [hm]; rfl, hslf W' hk', zeroRV_data _ _, (HP2.out).trans (by rw [List.map_set, badS_key]; rfl), by rw [hm]; exact hl, ⟨h1.trans BL.os, h2.trans BL.tape, h3.trans BL.output, by rw [h5]; exact BL.size, fun b hb => (hk b (by omega) (by omega)).trans (BL.block b hb)⟩⟩
  clear hslf b2 q2 q3
  go_wp2
  refine bodyPost_ret (v := .tuple #[.agg #[.int .i64 now, .slice (some ⟨g, 0, none⟩) m c], zeroV, .int .i64 4]) (by simp [results, Tryz.results36, go_sem, zeroV, z0, z1, p0, p1, p2, p3, p4, p5, p6, p7, p8]) rfl (FIN.out _ (fun b h1 h2 => put29_far w8 _ _ b h1 h2 _ _ _ _ _ _ _ _ _ _ _) ?_ ?_ ?_ (put29_size w8 _ _ _ _ _ _ _ _ _ _ _ _ _))
  all_goals simp [World.setCell]
 ·have HP3 : Hid (putK (ts.map SV.key) i s.key x.key = ((ts.map SV.key).set i (s.key.1 ++ [x.key], s.key.2.1, s.key.2.2), zeroPB, 3)) := put_grows HBAD.out HIN.out (by simpa [SV.key] using H40.out) (by rw [HJ.out])
  obtain ⟨cur, hcur, hcs⟩ : ∃ cur : Array Value, w.heap[g]? = some (.cells cur 39 (0, 0)) ∧ i * 3 + 2 < cur.size := by
   rcases HC.out.own.2 with ⟨hv, _⟩ | ⟨g', cap, cur, hv, _, h2, h3, _, h5, _⟩
   ·cases hv
   ·cases hv
    have := HM.out
    exact ⟨cur, h2, by omega⟩
  have g7 := (BW7.out.block g lg).trans hcur
  have HG7 : Hid (w7.heap[g]? = some (.cells cur 39 (0, 0))) := g7
  have HCR : Hid (w.heap[g]? = some (.cells cur 39 (0, 0))) := hcur
  have fg : ∀ o, w7.frozen? ⟨g, o, none⟩ = false := fun o => zUf g7 o
  obtain ⟨ug, hug⟩ : ∃ u, w7.cell? ⟨g, i * 3, none⟩ = some u := by
   rw [zCr g7]
   exact ⟨_, Array.getElem?_eq_getElem (by omega)⟩
  obtain ⟨w8, hw8⟩ : ∃ w8, w7.setCell ⟨g, i * 3, none⟩ (.slice (some ⟨g5, 0, none⟩) (n + 1) c5) = w8 := ⟨_, rfl⟩
  have f8 : ∀ b, b ≠ g → w8.heap[b]? = w7.heap[b]? := fun b hb => by rw [← hw8]; exact zHs hb
  have c8 : w8.heap[g]? = some (.cells (cur.setIfInBounds (i * 3) (.slice (some ⟨g5, 0, none⟩) (n + 1) c5)) 39 (0, 0)) := by rw [← hw8]; exact set_at g7
  have e8 : w8.os = w7.os ∧ w8.tape = w7.tape ∧ w8.output = w7.output ∧ w8.heap.size = w7.heap.size := by rw [← hw8]; exact ⟨by simp [World.setCell], by simp [World.setCell], by simp [World.setCell], by simp [World.setCell]⟩
  have s8 : w8.heap.size = w7.heap.size := e8.2.2.2
  have q0 := (f8 (w.heap.size) (by omega)).trans V0.out
  have q2 : w8.heap[w.heap.size + 2]? = some (.cells #[.int .i64 0, .slice none 0 0] 27 (0, 0)) := (f8 _ (by omega)).trans V2.out
  have q3 : w8.heap[w.heap.size + 3]? = some (.cells #[.int .i64 0, .int .i64 0, .int .i64 0, .int .i64 0, .int .i64 0, .bool false, .int .i64 0, .bool false, .slice none 0 0] 29 (0, 0)) := (f8 _ (by omega)).trans V3.out
  have b0 : w8.cell? ⟨w.heap.size, 0, none⟩ = some (.int .i64 now) := zCr q0
  have b1 : w8.cell? ⟨w.heap.size, 1, none⟩ = some (.slice (some ⟨g, 0, none⟩) m c) := zCr q0
  have z0 : w8.cell? ⟨w.heap.size + 1 + 1, 0, none⟩ = some (.int .i64 0) := zCr q2
  have z1 : w8.cell? ⟨w.heap.size + 1 + 1, 1, none⟩ = some (.slice none 0 0) := zCr q2
  have fz : ∀ o, w8.frozen? ⟨w.heap.size + 1 + 1, o, none⟩ = false := fun o => zUf q2 o
  have fy : ∀ o, w8.frozen? ⟨w.heap.size + 1 + 1 + 1, o, none⟩ = false := fun o => zUf q3 o
  have lz2 := lt_of_block q2
  have lz3 := lt_of_block q3
  have p0 : w8.cell? ⟨w.heap.size + 1 + 1 + 1, 0, none⟩ = some (.int .i64 0) := zCr q3
  have p1 : w8.cell? ⟨w.heap.size + 1 + 1 + 1, 1, none⟩ = some (.int .i64 0) := zCr q3
  have p2 : w8.cell? ⟨w.heap.size + 1 + 1 + 1, 2, none⟩ = some (.int .i64 0) := zCr q3
  have p3 : w8.cell? ⟨w.heap.size + 1 + 1 + 1, 3, none⟩ = some (.int .i64 0) := zCr q3
  have p4 : w8.cell? ⟨w.heap.size + 1 + 1 + 1, 4, none⟩ = some (.int .i64 0) := zCr q3
  have p5 : w8.cell? ⟨w.heap.size + 1 + 1 + 1, 5, none⟩ = some (.bool false) := zCr q3
  have p6 : w8.cell? ⟨w.heap.size + 1 + 1 + 1, 6, none⟩ = some (.int .i64 0) := zCr q3
  have p7 : w8.cell? ⟨w.heap.size + 1 + 1 + 1, 7, none⟩ = some (.bool false) := zCr q3
  have p8 : w8.cell? ⟨w.heap.size + 1 + 1 + 1, 8, none⟩ = some (.slice none 0 0) := zCr q3
  have FIN : Hid (∀ W', (∀ b, b ≠ w.heap.size + 2 → b ≠ w.heap.size + 3 → W'.heap[b]? = w8.heap[b]?) → W'.os = w8.os → W'.tape = w8.tape → W'.output = w8.output → W'.heap.size = w8.heap.size → PutPost now lo ts i s x.key w (.returned (.tuple #[.agg #[.int .i64 now, .slice (some ⟨g, 0, none⟩) m c], zeroV, .int .i64 3])) W') := fun W' hk h1 h2 h3 h5 => by
   have hm : (ts.set i ⟨some ⟨g5, 0, none⟩, c5, ys ++ [z], s.since, s.bad⟩).length = m := by rw [List.length_set]; exact HM.out
   have hk7 : ∀ b, b < w.heap.size → b ≠ g → W'.heap[b]? = w.heap[b]? := fun b hb hne => (hk b (by omega) (by omega)).trans ((f8 b hne).trans (BW7.out.block b hb))
   have hso : ∀ u ∈ ts, SOk W' u := HC.out.soksB fun b hb => hk7 b (HC.out.noG b hb).2 (HC.out.noG b hb).1
   have hst : SOk W' ⟨some ⟨g5, 0, none⟩, c5, ys ++ [z], s.since, s.bad⟩ := (HS7.out.kept fun b hb => by
    have h9 := (HS7.out.blk b hb).1
    exact (hk b (by omega) (by omega)).trans (f8 b (by omega))).sok
   have hgs : ∀ (o : Nat) v, w.cell? ⟨g, o, none⟩ = some v → cur[o]? = some v := fun o v hv => (zCr HCR.out).symm.trans hv
   obtain ⟨e0', e1', e2'⟩ := HC.out.ans.sl.elem i s HI.out
   have SF : SLf W' g 0 (ts.set i ⟨some ⟨g5, 0, none⟩, c5, ys ++ [z], s.since, s.bad⟩) := by
    refine SLf.put HC.out.ans.sl HCR.out ((hk g (by omega) (by omega)).trans c8) (fun o ho => ?_) ?_ ?_ ?_ hso hst
    ·rw [Array.getElem?_setIfInBounds_ne (by omega)]
    ·rw [Array.getElem?_setIfInBounds_self_of_lt (by omega), HL5.out]
    ·rw [Array.getElem?_setIfInBounds_ne (by omega)]
     exact hgs _ _ e1'
    ·rw [Array.getElem?_setIfInBounds_ne (by omega)]
     exact hgs _ _ e2'
   have BL : Below lo w W' := ⟨h1.trans (e8.1.trans BW7.out.os), h2.trans (e8.2.1.trans BW7.out.tape), h3.trans (e8.2.2.1.trans BW7.out.output), by have := BW7.out.size; omega, fun b hb => hk7 b (by omega) (by omega)⟩
   refine ⟨g, 0, c, ts.set i ⟨some ⟨g5, 0, none⟩, c5, ys ++ [z], s.since, s.bad⟩, zeroRV, 3, by rw [hm]; rfl, SF, zeroRV_data _ _, HP3.out.trans ?_, by rw [hm]; exact hl, BL⟩
   rw [List.map_set, ← HKY.out]
   rfl
  clear g7 hcur c8 f8 q0 q2 q3 KBD
  go_upto_region 17 with fail
  (first | rw [hw8] | skip)
  clear hw8 hug fg a0 a1
  go_wp2
  refine bodyPost_ret (v := .tuple #[.agg #[.int .i64 now, .slice (some ⟨g, 0, none⟩) m c], zeroV, .int .i64 3]) (by simp [results, Tryz.results36, go_sem, zeroV, z0, z1, p0, p1, p2, p3, p4, p5, p6, p7, p8]) rfl (FIN.out _ (fun b h1 h2 => put29_far w8 _ _ b h1 h2 _ _ _ _ _ _ _ _ _ _ _) ?_ ?_ ?_ (put29_size w8 _ _ _ _ _ _ _ _ _ _ _ _ _))
  all_goals simp [World.setCell]
end Go.Proofs.YtjbkgmbakjnlhaaGreatDoor
