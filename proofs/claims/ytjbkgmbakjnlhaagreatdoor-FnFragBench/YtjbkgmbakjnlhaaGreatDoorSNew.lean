import Derived.Test.YtjbkgmbakjnlhaaGreatDoorPartAb
import Derived.Test.YtjbkgmbakjnlhaaGreatDoorPartAt
namespace Go.Proofs.YtjbkgmbakjnlhaaGreatDoor
set_option maxRecDepth 100000
open Go.RowKit
theorem three_one' (u v z : Value) (h1 : u.oneCell' = true) (h2 : v.oneCell' = true) (h3 : z.oneCell' = true) : ∀ x ∈ [u, v, z], x.oneCell' = true := by
 intro x hx
 simp at hx
 rcases hx with rfl | rfl | rfl <;> assumption
theorem SLf.more {w' : World} {g' off' : Nat} {ts : List SV} {t : SV} (hlt : g' < w'.heap.size) (hcc : ∀ (j : Nat) (u : Value), (ts.flatMap SV.cells ++ t.cells)[j]? = some u → w'.cell? ⟨g', off' + j, none⟩ = some u) (ho : ∀ s ∈ ts, SOk w' s) (ht : SOk w' t) : SLf w' g' off' (ts ++ [t]) := by
 refine ⟨hlt, fun k x hx => ?_, fun x hx => ?_⟩
 ·have e : ts.flatMap SV.cells ++ t.cells = (ts ++ [t]).flatMap SV.cells := by simp
  have hc := hcc
  rw [e] at hc
  have c : ∀ j v, j < 3 → x.cells[j]? = some v → w'.cell? ⟨g', off' + (k * 3 + j), none⟩ = some v := fun j v hj hv => hc _ _ ((flatS_at _ k j x hx hj).trans hv)
  exact ⟨by have := c 0 _ (by omega) rfl; simpa using this, by have := c 1 _ (by omega) rfl; rw [Nat.add_assoc]; exact this, by have := c 2 _ (by omega) rfl; rw [Nat.add_assoc]; exact this⟩
 ·rcases List.mem_append.1 hx with h1 | h1
  ·exact ho x h1
  ·rw [List.mem_singleton.1 h1]; exact ht
set_option maxHeartbeats 6400000 in
theorem l4New_any (now : Int) (g c lo : Nat) (ts : List SV) (x : RV) (w : World) (hC : CAns w lo g c ts) (hx : ROk w x) (hl : ts.length ≤ 4) :
  Calls Tryz.prog 35 #[.agg #[.int .i64 now, .slice (some ⟨g, 0, none⟩) ts.length c], .agg #[.int .i64 x.p.src, .int .i64 x.p.dst, .int .i64 x.p.kind, .int .i64 x.p.id, .int .i64 x.p.hops, .bool x.p.whole, .int .i64 x.p.off, .bool x.p.more, .slice x.a x.zs.length x.c]] w fun e w' => ∃ g' off' c' us, e = .returned (.agg #[.int .i64 now, .slice (some ⟨g', off', none⟩) us.length c']) ∧ SLf w' g' off' us ∧ us.map SV.key = roomK (ts.map SV.key) ++ [([x.key], now, false)] ∧ us.length ≤ 4 ∧ Below lo w w' := by
 obtain ⟨ti, hti, hy0, hy1, hy2⟩ := info_parts Tryz.infoSlot
 have HC : Hid (CAns w lo g c ts) := hC
 have HX : Hid (ROk w x) := hx
 obtain ⟨cur, hgz, llo, hcap, hcm, hcs, htk⟩ : ∃ cur : Array Value, w.heap[g]? = some (.cells cur 39 (0, 0)) ∧ lo ≤ g ∧ ts.length ≤ c ∧ c ≤ 9223372036854775807 ∧ cur.size = c * 3 ∧ cur.toList.take (ts.length * 3) = ts.flatMap SV.cells := by
  rcases hC.own.2 with ⟨hv, _⟩ | ⟨g', cap, cur, hv, h1, h2, h3, h4, h5, h6⟩
  ·cases hv
  ·cases hv
   exact ⟨cur, h2, h1, h3, by unfold maxLen at h4; omega, h5, h6⟩
 have lg := lt_of_block hgz
 have HG : Hid (w.heap[g]? = some (.cells cur 39 (0, 0))) := hgz
 have HS : Hid (cur.size = c * 3) := hcs
 have HOLD : Hid (∀ (j : Nat) (u : Value), (ts.flatMap SV.cells)[j]? = some u → cur[j]? = some u) := fun j u hj => by
  have hlt := (List.getElem?_eq_some_iff.1 hj).1
  rw [flatS_len] at hlt
  rw [← htk, List.getElem?_take_of_lt hlt, Array.getElem?_toList] at hj
  exact hj
 have KL : Hid (∀ W : World, Below w.heap.size w W → Calls Tryz.prog 33 #[.agg #[.int .i64 x.p.src, .int .i64 x.p.dst, .int .i64 x.p.kind, .int .i64 x.p.id, .int .i64 x.p.hops, .bool x.p.whole, .int .i64 x.p.off, .bool x.p.more, .slice x.a x.zs.length x.c]] W fun e w' => ∃ z : RV, e = .returned (.agg #[.int .i64 z.p.src, .int .i64 z.p.dst, .int .i64 z.p.kind, .int .i64 z.p.id, .int .i64 z.p.hops, .bool z.p.whole, .int .i64 z.p.off, .bool z.p.more, .slice z.a z.zs.length z.c]) ∧ z.key = x.key ∧ DataB w' W.heap.size z ∧ Below W.heap.size W w') := fun W hW => by
  have h := l1Copy_rv x W (HX.out.below hW)
  unfold RV.val Pk.val at h
  exact h
 obtain ⟨n, hn⟩ : ∃ n, ts.length = n := ⟨_, rfl⟩
 have HN : Hid (ts.length = n) := hn
 rw [hn] at hcap hl ⊢
 clear hC hx hgz htk hn hcs
 by_cases h4 : n = 4
 ·have h4' : n = 4 := h4
  subst h4
  go_enter Tryz.func35, Tryz.ntmps35
  go_upto_region 3 with fail
  obtain ⟨W, hW⟩ : ∃ W, ((w.alloc (.cells #[.int .i64 now, .slice (some ⟨g, 3, none⟩) 3 (c - 1)] 27)).alloc (.cells #[.int .i64 x.p.src, .int .i64 x.p.dst, .int .i64 x.p.kind, .int .i64 x.p.id, .int .i64 x.p.hops, .bool x.p.whole, .int .i64 x.p.off, .bool x.p.more, .slice x.a x.zs.length x.c] 29)).alloc (.cells #[.int .i64 0, .slice none 0 0] 27) = W := ⟨_, rfl⟩
  have bW : Below w.heap.size w W := by rw [← hW]; exact Joins.below_alloc3 _ _ _ _
  have sW : W.heap.size = w.heap.size + 3 := by rw [← hW]; simp
  have a0 : W.heap[w.heap.size]? = some (.cells #[.int .i64 now, .slice (some ⟨g, 3, none⟩) 3 (c - 1)] 27 (0, 0)) := by rw [← hW]; exact (zHa (by simp; omega)).trans ((zHa (by simp)).trans (heap_new _ _ _ rfl))
  have a1 : W.heap[w.heap.size + 1]? = some (.cells #[.int .i64 x.p.src, .int .i64 x.p.dst, .int .i64 x.p.kind, .int .i64 x.p.id, .int .i64 x.p.hops, .bool x.p.whole, .int .i64 x.p.off, .bool x.p.more, .slice x.a x.zs.length x.c] 29 (0, 0)) := by rw [← hW]; exact (zHa (by simp)).trans (heap_new _ _ _ (by simp))
  have a2 : W.heap[w.heap.size + 2]? = some (.cells #[.int .i64 0, .slice none 0 0] 27 (0, 0)) := by rw [← hW]; exact heap_new _ _ _ (by simp)
  (first | rw [hW] | skip)
  clear hW
  have SK : Hid (∀ U : World, U.heap[w.heap.size]? = W.heap[w.heap.size]? → U.heap[w.heap.size + 1]? = W.heap[w.heap.size + 1]? → (fun W => W.cell? ⟨w.heap.size, 0, none⟩ = some (.int .i64 now) ∧ W.cell? ⟨w.heap.size, 1, none⟩ = some (.slice (some ⟨g, 3, none⟩) 3 (c - 1)) ∧ W.cell? ⟨w.heap.size + 1, 0, none⟩ = some (.int .i64 x.p.src) ∧ W.cell? ⟨w.heap.size + 1, 1, none⟩ = some (.int .i64 x.p.dst) ∧ W.cell? ⟨w.heap.size + 1, 2, none⟩ = some (.int .i64 x.p.kind) ∧ W.cell? ⟨w.heap.size + 1, 3, none⟩ = some (.int .i64 x.p.id) ∧ W.cell? ⟨w.heap.size + 1, 4, none⟩ = some (.int .i64 x.p.hops) ∧ W.cell? ⟨w.heap.size + 1, 5, none⟩ = some (.bool x.p.whole) ∧ W.cell? ⟨w.heap.size + 1, 6, none⟩ = some (.int .i64 x.p.off) ∧ W.cell? ⟨w.heap.size + 1, 7, none⟩ = some (.bool x.p.more) ∧ W.cell? ⟨w.heap.size + 1, 8, none⟩ = some (.slice x.a x.zs.length x.c)) U) := fun U h0 h1 => by
   have e0 : ∀ o, U.cell? ⟨w.heap.size, o, none⟩ = _ := fun o => zCr (h0.trans a0)
   have e1 : ∀ o, U.cell? ⟨w.heap.size + 1, o, none⟩ = _ := fun o => zCr (h1.trans a1)
   exact ⟨e0 0, e0 1, e1 0, e1 1, e1 2, e1 3, e1 4, e1 5, e1 6, e1 7, e1 8⟩
  refine wp_region_late (S := fun W => W.cell? ⟨w.heap.size, 0, none⟩ = some (.int .i64 now) ∧ W.cell? ⟨w.heap.size, 1, none⟩ = some (.slice (some ⟨g, 3, none⟩) 3 (c - 1)) ∧ W.cell? ⟨w.heap.size + 1, 0, none⟩ = some (.int .i64 x.p.src) ∧ W.cell? ⟨w.heap.size + 1, 1, none⟩ = some (.int .i64 x.p.dst) ∧ W.cell? ⟨w.heap.size + 1, 2, none⟩ = some (.int .i64 x.p.kind) ∧ W.cell? ⟨w.heap.size + 1, 3, none⟩ = some (.int .i64 x.p.id) ∧ W.cell? ⟨w.heap.size + 1, 4, none⟩ = some (.int .i64 x.p.hops) ∧ W.cell? ⟨w.heap.size + 1, 5, none⟩ = some (.bool x.p.whole) ∧ W.cell? ⟨w.heap.size + 1, 6, none⟩ = some (.int .i64 x.p.off) ∧ W.cell? ⟨w.heap.size + 1, 7, none⟩ = some (.bool x.p.more) ∧ W.cell? ⟨w.heap.size + 1, 8, none⟩ = some (.slice x.a x.zs.length x.c)) (by kernel_rfl) (SK.out _ rfl rfl) (fun hH => ?_)
  refine zLk 0 13 (.pointer (some ⟨w.heap.size, 1, none⟩)) rfl (fun w hS => by go_simp) hH ?_; simp only [Act.put, zX, zY, zZ]
  refine zLk 1 14 (.slice (some ⟨g, 3, none⟩) 3 (c - 1)) rfl (fun w hS => by obtain ⟨s0, s1, q0, q1, q2, q3, q4, q5, q6, q7, q8⟩ := hS; go_simp) hH ?_; simp only [Act.put, zX, zY, zZ]
  refine zLk 2 15 (.agg #[.int .i64 x.p.src, .int .i64 x.p.dst, .int .i64 x.p.kind, .int .i64 x.p.id, .int .i64 x.p.hops, .bool x.p.whole, .int .i64 x.p.off, .bool x.p.more, .slice x.a x.zs.length x.c]) rfl (fun w hS => by obtain ⟨s0, s1, q0, q1, q2, q3, q4, q5, q6, q7, q8⟩ := hS; go_simp) hH ?_; simp only [Act.put, zX, zY, zZ]
  refine zLk 5 18 (.pointer (some ⟨w.heap.size, 0, none⟩)) rfl (fun w hS => by go_simp) hH ?_; simp only [Act.put, zX, zY, zZ]
  refine zLk 6 19 (.int .i64 now) rfl (fun w hS => by obtain ⟨s0, s1, q0, q1, q2, q3, q4, q5, q6, q7, q8⟩ := hS; go_simp) hH ?_; simp only [Act.put, zX, zY, zZ]
  refine late_one (i := 3) (by kernel_rfl) rfl (fun K hK => ?_)
  refine step_call rfl 16 rfl 33 #[.agg #[.int .i64 x.p.src, .int .i64 x.p.dst, .int .i64 x.p.kind, .int .i64 x.p.id, .int .i64 x.p.hops, .bool x.p.whole, .int .i64 x.p.off, .bool x.p.more, .slice x.a x.zs.length x.c]] (by go_simp) ((KL.out _ bW.drew).mono ?_)
  rintro e w1 ⟨z, rfl, hzk, dz, b1⟩
  have b1' : Below W.heap.size W w1 := ((Below.refl _ W).drew).trans (b1.mono (Nat.le_refl _))
  have s1 := b1'.size
  have dz1 : DataB w1 W.heap.size z := dz
  refine ⟨_, rfl, hK.out _ _ (Or.inr (SK.out _ (b1'.block _ (by omega)) (b1'.block _ (by omega)))) (fun hH1 => ?_)⟩
  have hH := SK.out w1 (b1'.block _ (by omega)) (b1'.block _ (by omega))
  clear hK K hH1 b1 dz
  simp only [Act.put, zX, zY, zZ]
  refine late_one (i := 4) (by kernel_rfl) rfl (fun K hK => ?_)
  go_simp
  obtain ⟨w2, hw2⟩ : ∃ w2, w1.alloc (.cells #[.int .i64 z.p.src, .int .i64 z.p.dst, .int .i64 z.p.kind, .int .i64 z.p.id, .int .i64 z.p.hops, .bool z.p.whole, .int .i64 z.p.off, .bool z.p.more, .slice z.a z.zs.length z.c] 29) = w2 := ⟨_, rfl⟩
  have b2 : Below w1.heap.size w1 w2 := by rw [← hw2]; exact zBa _ _
  have s2 : w2.heap.size = w1.heap.size + 1 := by rw [← hw2]; simp
  have n2 : w2.heap[w1.heap.size]? = some (.cells #[.int .i64 z.p.src, .int .i64 z.p.dst, .int .i64 z.p.kind, .int .i64 z.p.id, .int .i64 z.p.hops, .bool z.p.whole, .int .i64 z.p.off, .bool z.p.more, .slice z.a z.zs.length z.c] 29 (0, 0)) := by rw [← hw2]; exact heap_new _ _ _ rfl
  have B2 : Below W.heap.size W w2 := b1'.trans (b2.mono s1)
  (first | rw [hw2] | skip)
  refine hK.out _ _ (Or.inr (SK.out _ (B2.block _ (by omega)) (B2.block _ (by omega)))) (fun hH1 => ?_)
  have hH := SK.out w2 (B2.block _ (by omega)) (B2.block _ (by omega))
  clear hK K hH1 hw2
  (first | (simp only [Act.put, zX, zY, zZ]) | skip)
  refine zLk 7 20 (.agg #[.slice (some ⟨w1.heap.size, 0, none⟩) 1 1, .int .i64 now, .bool false]) rfl (fun w hS => by go_simp) hH ?_; simp only [Act.put, zX, zY, zZ]
  refine late_one (i := 8) (by kernel_rfl) rfl (fun K hK => ?_)
  go_simp
  obtain ⟨w3, hw3⟩ : ∃ w3, w2.alloc (.cells #[.slice (some ⟨w1.heap.size, 0, none⟩) 1 1, .int .i64 now, .bool false] 39) = w3 := ⟨_, rfl⟩
  have b3 : Below w2.heap.size w2 w3 := by rw [← hw3]; exact zBa _ _
  have s3 : w3.heap.size = w2.heap.size + 1 := by rw [← hw3]; simp
  have n3 : w3.heap[w2.heap.size]? = some (.cells #[.slice (some ⟨w1.heap.size, 0, none⟩) 1 1, .int .i64 now, .bool false] 39 (0, 0)) := by rw [← hw3]; exact heap_new _ _ _ rfl
  have B3 : Below W.heap.size W w3 := B2.trans (b3.mono B2.size)
  (first | rw [hw3] | skip)
  refine hK.out _ _ (Or.inr (SK.out _ (B3.block _ (by omega)) (B3.block _ (by omega)))) (fun hH1 => ?_)
  have hH := SK.out w3 (B3.block _ (by omega)) (B3.block _ (by omega))
  clear hK K hH1 hw3
  (first | (simp only [Act.put, zX, zY, zZ]) | skip)
  have g3 : w3.heap[g]? = some (.cells cur 39 (0, 0)) := (B3.block _ (by omega)).trans ((bW.block _ lg).trans HG.out)
  have cg : ∀ o, w3.cell? ⟨g, o, none⟩ = cur[o]? := fun o => zCr g3
  refine late_one (i := 9) (by kernel_rfl) rfl (fun K hK => ?_)
  obtain ⟨t0, tr, hts⟩ : ∃ t0 tr, ts = t0 :: tr := by
   cases hq : ts with
   | nil => have := HN.out; rw [hq] at this; simp at this
   | cons a r => exact ⟨a, r, rfl⟩
  have htl : ts.tail = tr := by rw [hts]; rfl
  have htr : tr.length = 3 := by have := HN.out; rw [hts] at this; simp at this; omega
  refine step_append_off rfl (some 22) rfl (.tmp 14) (.tmp 21) 25 rfl 39 ti _ 3 40 Tryz.underlying25 hti hy0 hy1 hy2 rfl (by decide) g 3 3 ((c - 1)) (tr.flatMap SV.cells) rfl (by rw [flatS_len, htr]) (fun j u hj => by rw [cg]; refine HOLD.out _ u ?_; rw [hts, List.flatMap_cons, List.getElem?_append_right (by rw [SV.cells_len]; omega), SV.cells_len, show 3 + j - 3 = j by omega]; exact hj) (by omega) ⟨w1.heap.size + 1, 0, none⟩ 1 1 [.slice (some ⟨w1.heap.size, 0, none⟩) 1 1, .int .i64 now, .bool false] rfl rfl (fun j u hj => ?_) (three_one' _ _ _ rfl rfl rfl) (fun hr j hj => ⟨?_, zUf g3 _⟩) (by omega) (by unfold maxLen; omega) (by omega) ?_
  ·rw [Addr.add_lit, Nat.zero_add, zCr (s2 ▸ n3), ← Array.getElem?_toList]
   exact hj
  ·rw [cg]
   have hj' : j < 3 := hj
   have := HS.out
   rw [Array.getElem?_eq_getElem (by omega)]
   rfl
  intro g4 off4 c4 w4 A4 hc4 hc5
  have ng4 : g4 ≠ w.heap.size ∧ g4 ≠ w.heap.size + 2 := by rcases A4.at_ with h | h <;> omega
  have zt : DataB w3 W.heap.size z := (dz1.below b2).below b3
  have k4 : ∀ b, b < w.heap.size → b ≠ g → w4.heap[b]? = w.heap[b]? := fun b hb hne => (A4.kept b (by omega) hne).trans ((B3.block b (by omega)).trans (bW.block b hb))
  have FS : Hid (∀ W', (∀ b, b ≠ w.heap.size → b ≠ w.heap.size + 2 → W'.heap[b]? = w4.heap[b]?) → W'.heap.size = w4.heap.size → SLf W' g4 off4 (tr ++ [⟨some ⟨w1.heap.size, 0, none⟩, 1, [z], now, false⟩])) := fun W' hk hsz => by
   have hso : ∀ s ∈ ts, SOk W' s := HC.out.soks fun b hb hne => (hk b (by omega) (by omega)).trans (k4 b hb hne)
   have n2' : W'.heap[w1.heap.size]? = some (.cells #[.int .i64 z.p.src, .int .i64 z.p.dst, .int .i64 z.p.kind, .int .i64 z.p.id, .int .i64 z.p.hops, .bool z.p.whole, .int .i64 z.p.off, .bool z.p.more, .slice z.a z.zs.length z.c] 29 (0, 0)) := (hk _ (by omega) (by omega)).trans ((A4.kept _ (by omega) (by omega)).trans ((b3.block _ (by omega)).trans n2))
   have zd : DataB W' W.heap.size z := zt.kept fun b hb => by
    have h1 := zt.blk b hb
    exact (hk b (by omega) (by omega)).trans (A4.kept b (by omega) (by omega))
   have hst : SOk W' ⟨some ⟨w1.heap.size, 0, none⟩, 1, [z], now, false⟩ := by
    refine ⟨⟨w1.heap.size, rfl, lt_of_block n2', fun k y hy => ?_, fun y hy => ?_⟩, by simp, by simp, by simp⟩
    ·have hk : k = 0 := by have := (List.getElem?_eq_some_iff.1 hy).1; simp at this; omega
     subst hk
     obtain rfl : z = y := by simpa using hy
     have e : ∀ o, W'.cell? ⟨w1.heap.size, o, none⟩ = _ := fun o => zCr n2'
     exact ⟨(by simpa using e 0), (by simpa using e 1), (by simpa using e 2), (by simpa using e 3), (by simpa using e 4), (by simpa using e 5), (by simpa using e 6), (by simpa using e 7), (by simpa using e 8)⟩
    ·rw [List.mem_singleton.1 hy]
     exact zd.rok
   exact SLf.more (by rw [hsz]; exact A4.lt) (fun j u hj => (World.cell?_of_block (w := w4) (a := ⟨g4, off4 + j, none⟩) (hk g4 ng4.1 ng4.2)).trans (A4.cells j u hj)) (fun s hs => hso s (by rw [hts]; exact List.mem_cons_of_mem _ hs)) hst
  have FK : Hid ((tr ++ [⟨some ⟨w1.heap.size, 0, none⟩, 1, [z], now, false⟩] : List SV).map SV.key = roomK (ts.map SV.key) ++ [([x.key], now, false)]) := by
   rw [List.map_append]
   unfold roomK
   rw [List.length_map, HN.out, if_pos h4' , hts]
   show _ ++ [([z.key], now, false)] = _
   rw [hzk]
   rfl
  have FL : Hid ((tr ++ [⟨some ⟨w1.heap.size, 0, none⟩, 1, [z], now, false⟩] : List SV).length = 3 + 1) := by rw [List.length_append]; simp; exact htr
  have a0' : w4.heap[w.heap.size]? = some (.cells #[.int .i64 now, .slice (some ⟨g, 3, none⟩) 3 (c - 1)] 27 (0, 0)) := (A4.kept _ (by omega) (by omega)).trans ((B3.block _ (by omega)).trans a0)
  have a2' : w4.heap[w.heap.size + 2]? = some (.cells #[.int .i64 0, .slice none 0 0] 27 (0, 0)) := (A4.kept _ (by omega) (by omega)).trans ((B3.block _ (by omega)).trans a2)
  have B4 : Hid (Below lo w w4) := ((bW.mono (by omega)).trans (B3.mono (by omega))).trans (A4.below llo (by omega))
  refine hK.out _ _ (Or.inr (SK.out _ ((A4.kept _ (by omega) (by omega)).trans (B3.block _ (by omega))) ((A4.kept _ (by omega) (by omega)).trans (B3.block _ (by omega))))) (fun hH1 => ?_)
  have hH := SK.out w4 ((A4.kept _ (by omega) (by omega)).trans (B3.block _ (by omega))) ((A4.kept _ (by omega) (by omega)).trans (B3.block _ (by omega)))
  have s4 : w3.heap.size ≤ w4.heap.size := A4.size
  clear hK K hH1 A4 b1' b2 b3 B2 B3 n2 n3 zt k4 g3 cg dz1 hts htl
  simp only [Act.put, zX, zY, zZ]
  refine zLk 10 23 (.pointer (some ⟨w.heap.size, 1, none⟩)) rfl (fun w hS => by go_simp) hH ?_; simp only [Act.put, zX, zY, zZ]
  have z0 : w4.cell? ⟨w.heap.size, 0, none⟩ = some (.int .i64 now) := zCr a0'
  have z1 : w4.cell? ⟨w.heap.size, 1, none⟩ = some (.slice (some ⟨g, 3, none⟩) 3 ((c - 1))) := zCr a0'
  have z2 : w4.cell? ⟨w.heap.size + 1 + 1, 0, none⟩ = some (.int .i64 0) := zCr a2'
  have z3 : w4.cell? ⟨w.heap.size + 1 + 1, 1, none⟩ = some (.slice none 0 0) := zCr a2'
  have fz : ∀ o, w4.frozen? ⟨w.heap.size, o, none⟩ = false := fun o => zUf a0' o
  have fz2 : ∀ o, w4.frozen? ⟨w.heap.size + 1 + 1, o, none⟩ = false := fun o => zUf a2' o
  refine late_one (i := 11) (by kernel_rfl) rfl (fun K hK => ?_)
  go_simp
  refine hK.out _ _ (Or.inl (by kernel_rfl)) (fun hH1 => ?_)
  clear hK K hH1 hH
  refine late_done (by kernel_rfl) ?_ _
  go_wp2
  refine bodyPost_ret (v := .agg #[.int .i64 now, .slice (some ⟨g4, off4, none⟩) (3 + 1) c4]) (by simp [results, Tryz.results35, go_sem, z2, z3]) rfl ⟨g4, off4, c4, _, by rw [FL.out], FS.out _ (fun b h1 h2 => (zHs h2).trans ((zHs h2).trans (zHs h1))) (by simp [World.setCell]), FK.out, by rw [FL.out]; omega, ?_⟩
  exact Below.setCell (Below.setCell (Below.setCell B4.out (by simp only; omega) _) (by simp only; omega) _) (by simp only; omega) _
 ·have h4' : ¬ n = 4 := h4
  have hne : ((n : Int) == 4) = false := by simp; omega
  go_enter Tryz.func35, Tryz.ntmps35
  go_upto_region 3 with fail
  obtain ⟨W, hW⟩ : ∃ W, ((w.alloc (.cells #[.int .i64 now, .slice (some ⟨g, 0, none⟩) n c] 27)).alloc (.cells #[.int .i64 x.p.src, .int .i64 x.p.dst, .int .i64 x.p.kind, .int .i64 x.p.id, .int .i64 x.p.hops, .bool x.p.whole, .int .i64 x.p.off, .bool x.p.more, .slice x.a x.zs.length x.c] 29)).alloc (.cells #[.int .i64 0, .slice none 0 0] 27) = W := ⟨_, rfl⟩
  have bW : Below w.heap.size w W := by rw [← hW]; exact Joins.below_alloc3 _ _ _ _
  have sW : W.heap.size = w.heap.size + 3 := by rw [← hW]; simp
  have a0 : W.heap[w.heap.size]? = some (.cells #[.int .i64 now, .slice (some ⟨g, 0, none⟩) n c] 27 (0, 0)) := by rw [← hW]; exact (zHa (by simp; omega)).trans ((zHa (by simp)).trans (heap_new _ _ _ rfl))
  have a1 : W.heap[w.heap.size + 1]? = some (.cells #[.int .i64 x.p.src, .int .i64 x.p.dst, .int .i64 x.p.kind, .int .i64 x.p.id, .int .i64 x.p.hops, .bool x.p.whole, .int .i64 x.p.off, .bool x.p.more, .slice x.a x.zs.length x.c] 29 (0, 0)) := by rw [← hW]; exact (zHa (by simp)).trans (heap_new _ _ _ (by simp))
  have a2 : W.heap[w.heap.size + 2]? = some (.cells #[.int .i64 0, .slice none 0 0] 27 (0, 0)) := by rw [← hW]; exact heap_new _ _ _ (by simp)
  (first | rw [hW] | skip)
  clear hW
  have SK : Hid (∀ U : World, U.heap[w.heap.size]? = W.heap[w.heap.size]? → U.heap[w.heap.size + 1]? = W.heap[w.heap.size + 1]? → (fun W => W.cell? ⟨w.heap.size, 0, none⟩ = some (.int .i64 now) ∧ W.cell? ⟨w.heap.size, 1, none⟩ = some (.slice (some ⟨g, 0, none⟩) n c) ∧ W.cell? ⟨w.heap.size + 1, 0, none⟩ = some (.int .i64 x.p.src) ∧ W.cell? ⟨w.heap.size + 1, 1, none⟩ = some (.int .i64 x.p.dst) ∧ W.cell? ⟨w.heap.size + 1, 2, none⟩ = some (.int .i64 x.p.kind) ∧ W.cell? ⟨w.heap.size + 1, 3, none⟩ = some (.int .i64 x.p.id) ∧ W.cell? ⟨w.heap.size + 1, 4, none⟩ = some (.int .i64 x.p.hops) ∧ W.cell? ⟨w.heap.size + 1, 5, none⟩ = some (.bool x.p.whole) ∧ W.cell? ⟨w.heap.size + 1, 6, none⟩ = some (.int .i64 x.p.off) ∧ W.cell? ⟨w.heap.size + 1, 7, none⟩ = some (.bool x.p.more) ∧ W.cell? ⟨w.heap.size + 1, 8, none⟩ = some (.slice x.a x.zs.length x.c)) U) := fun U h0 h1 => by
   have e0 : ∀ o, U.cell? ⟨w.heap.size, o, none⟩ = _ := fun o => zCr (h0.trans a0)
   have e1 : ∀ o, U.cell? ⟨w.heap.size + 1, o, none⟩ = _ := fun o => zCr (h1.trans a1)
   exact ⟨e0 0, e0 1, e1 0, e1 1, e1 2, e1 3, e1 4, e1 5, e1 6, e1 7, e1 8⟩
  refine wp_region_late (S := fun W => W.cell? ⟨w.heap.size, 0, none⟩ = some (.int .i64 now) ∧ W.cell? ⟨w.heap.size, 1, none⟩ = some (.slice (some ⟨g, 0, none⟩) n c) ∧ W.cell? ⟨w.heap.size + 1, 0, none⟩ = some (.int .i64 x.p.src) ∧ W.cell? ⟨w.heap.size + 1, 1, none⟩ = some (.int .i64 x.p.dst) ∧ W.cell? ⟨w.heap.size + 1, 2, none⟩ = some (.int .i64 x.p.kind) ∧ W.cell? ⟨w.heap.size + 1, 3, none⟩ = some (.int .i64 x.p.id) ∧ W.cell? ⟨w.heap.size + 1, 4, none⟩ = some (.int .i64 x.p.hops) ∧ W.cell? ⟨w.heap.size + 1, 5, none⟩ = some (.bool x.p.whole) ∧ W.cell? ⟨w.heap.size + 1, 6, none⟩ = some (.int .i64 x.p.off) ∧ W.cell? ⟨w.heap.size + 1, 7, none⟩ = some (.bool x.p.more) ∧ W.cell? ⟨w.heap.size + 1, 8, none⟩ = some (.slice x.a x.zs.length x.c)) (by kernel_rfl) (SK.out _ rfl rfl) (fun hH => ?_)
  refine zLk 0 13 (.pointer (some ⟨w.heap.size, 1, none⟩)) rfl (fun w hS => by go_simp) hH ?_; simp only [Act.put, zX, zY, zZ]
  refine zLk 1 14 (.slice (some ⟨g, 0, none⟩) n c) rfl (fun w hS => by obtain ⟨s0, s1, q0, q1, q2, q3, q4, q5, q6, q7, q8⟩ := hS; go_simp) hH ?_; simp only [Act.put, zX, zY, zZ]
  refine zLk 2 15 (.agg #[.int .i64 x.p.src, .int .i64 x.p.dst, .int .i64 x.p.kind, .int .i64 x.p.id, .int .i64 x.p.hops, .bool x.p.whole, .int .i64 x.p.off, .bool x.p.more, .slice x.a x.zs.length x.c]) rfl (fun w hS => by obtain ⟨s0, s1, q0, q1, q2, q3, q4, q5, q6, q7, q8⟩ := hS; go_simp) hH ?_; simp only [Act.put, zX, zY, zZ]
  refine zLk 5 18 (.pointer (some ⟨w.heap.size, 0, none⟩)) rfl (fun w hS => by go_simp) hH ?_; simp only [Act.put, zX, zY, zZ]
  refine zLk 6 19 (.int .i64 now) rfl (fun w hS => by obtain ⟨s0, s1, q0, q1, q2, q3, q4, q5, q6, q7, q8⟩ := hS; go_simp) hH ?_; simp only [Act.put, zX, zY, zZ]
  refine late_one (i := 3) (by kernel_rfl) rfl (fun K hK => ?_)
  refine step_call rfl 16 rfl 33 #[.agg #[.int .i64 x.p.src, .int .i64 x.p.dst, .int .i64 x.p.kind, .int .i64 x.p.id, .int .i64 x.p.hops, .bool x.p.whole, .int .i64 x.p.off, .bool x.p.more, .slice x.a x.zs.length x.c]] (by go_simp) ((KL.out _ bW.drew).mono ?_)
  rintro e w1 ⟨z, rfl, hzk, dz, b1⟩
  have b1' : Below W.heap.size W w1 := ((Below.refl _ W).drew).trans (b1.mono (Nat.le_refl _))
  have s1 := b1'.size
  have dz1 : DataB w1 W.heap.size z := dz
  refine ⟨_, rfl, hK.out _ _ (Or.inr (SK.out _ (b1'.block _ (by omega)) (b1'.block _ (by omega)))) (fun hH1 => ?_)⟩
  have hH := SK.out w1 (b1'.block _ (by omega)) (b1'.block _ (by omega))
  clear hK K hH1 b1 dz
  simp only [Act.put, zX, zY, zZ]
  refine late_one (i := 4) (by kernel_rfl) rfl (fun K hK => ?_)
  go_simp
  obtain ⟨w2, hw2⟩ : ∃ w2, w1.alloc (.cells #[.int .i64 z.p.src, .int .i64 z.p.dst, .int .i64 z.p.kind, .int .i64 z.p.id, .int .i64 z.p.hops, .bool z.p.whole, .int .i64 z.p.off, .bool z.p.more, .slice z.a z.zs.length z.c] 29) = w2 := ⟨_, rfl⟩
  have b2 : Below w1.heap.size w1 w2 := by rw [← hw2]; exact zBa _ _
  have s2 : w2.heap.size = w1.heap.size + 1 := by rw [← hw2]; simp
  have n2 : w2.heap[w1.heap.size]? = some (.cells #[.int .i64 z.p.src, .int .i64 z.p.dst, .int .i64 z.p.kind, .int .i64 z.p.id, .int .i64 z.p.hops, .bool z.p.whole, .int .i64 z.p.off, .bool z.p.more, .slice z.a z.zs.length z.c] 29 (0, 0)) := by rw [← hw2]; exact heap_new _ _ _ rfl
  have B2 : Below W.heap.size W w2 := b1'.trans (b2.mono s1)
  (first | rw [hw2] | skip)
  refine hK.out _ _ (Or.inr (SK.out _ (B2.block _ (by omega)) (B2.block _ (by omega)))) (fun hH1 => ?_)
  have hH := SK.out w2 (B2.block _ (by omega)) (B2.block _ (by omega))
  clear hK K hH1 hw2
  (first | (simp only [Act.put, zX, zY, zZ]) | skip)
  refine zLk 7 20 (.agg #[.slice (some ⟨w1.heap.size, 0, none⟩) 1 1, .int .i64 now, .bool false]) rfl (fun w hS => by go_simp) hH ?_; simp only [Act.put, zX, zY, zZ]
  refine late_one (i := 8) (by kernel_rfl) rfl (fun K hK => ?_)
  go_simp
  obtain ⟨w3, hw3⟩ : ∃ w3, w2.alloc (.cells #[.slice (some ⟨w1.heap.size, 0, none⟩) 1 1, .int .i64 now, .bool false] 39) = w3 := ⟨_, rfl⟩
  have b3 : Below w2.heap.size w2 w3 := by rw [← hw3]; exact zBa _ _
  have s3 : w3.heap.size = w2.heap.size + 1 := by rw [← hw3]; simp
  have n3 : w3.heap[w2.heap.size]? = some (.cells #[.slice (some ⟨w1.heap.size, 0, none⟩) 1 1, .int .i64 now, .bool false] 39 (0, 0)) := by rw [← hw3]; exact heap_new _ _ _ rfl
  have B3 : Below W.heap.size W w3 := B2.trans (b3.mono B2.size)
  (first | rw [hw3] | skip)
  refine hK.out _ _ (Or.inr (SK.out _ (B3.block _ (by omega)) (B3.block _ (by omega)))) (fun hH1 => ?_)
  have hH := SK.out w3 (B3.block _ (by omega)) (B3.block _ (by omega))
  clear hK K hH1 hw3
  (first | (simp only [Act.put, zX, zY, zZ]) | skip)
  have g3 : w3.heap[g]? = some (.cells cur 39 (0, 0)) := (B3.block _ (by omega)).trans ((bW.block _ lg).trans HG.out)
  have cg : ∀ o, w3.cell? ⟨g, o, none⟩ = cur[o]? := fun o => zCr g3
  refine late_one (i := 9) (by kernel_rfl) rfl (fun K hK => ?_)
  refine step_append_off rfl (some 22) rfl (.tmp 14) (.tmp 21) 25 rfl 39 ti _ 3 40 Tryz.underlying25 hti hy0 hy1 hy2 rfl (by decide) g 0 n (c) (ts.flatMap SV.cells) rfl (by rw [flatS_len, HN.out]) (fun j u hj => by rw [cg, Nat.zero_add]; exact HOLD.out j u hj) (by omega) ⟨w1.heap.size + 1, 0, none⟩ 1 1 [.slice (some ⟨w1.heap.size, 0, none⟩) 1 1, .int .i64 now, .bool false] rfl rfl (fun j u hj => ?_) (three_one' _ _ _ rfl rfl rfl) (fun hr j hj => ⟨?_, zUf g3 _⟩) (by omega) (by unfold maxLen; omega) (by omega) ?_
  ·rw [Addr.add_lit, Nat.zero_add, zCr (s2 ▸ n3), ← Array.getElem?_toList]
   exact hj
  ·rw [cg]
   have hj' : j < 3 := hj
   have := HS.out
   rw [Array.getElem?_eq_getElem (by omega)]
   rfl
  intro g4 off4 c4 w4 A4 hc4 hc5
  have ng4 : g4 ≠ w.heap.size ∧ g4 ≠ w.heap.size + 2 := by rcases A4.at_ with h | h <;> omega
  have zt : DataB w3 W.heap.size z := (dz1.below b2).below b3
  have k4 : ∀ b, b < w.heap.size → b ≠ g → w4.heap[b]? = w.heap[b]? := fun b hb hne => (A4.kept b (by omega) hne).trans ((B3.block b (by omega)).trans (bW.block b hb))
  have FS : Hid (∀ W', (∀ b, b ≠ w.heap.size → b ≠ w.heap.size + 2 → W'.heap[b]? = w4.heap[b]?) → W'.heap.size = w4.heap.size → SLf W' g4 off4 (ts ++ [⟨some ⟨w1.heap.size, 0, none⟩, 1, [z], now, false⟩])) := fun W' hk hsz => by
   have hso : ∀ s ∈ ts, SOk W' s := HC.out.soks fun b hb hne => (hk b (by omega) (by omega)).trans (k4 b hb hne)
   have n2' : W'.heap[w1.heap.size]? = some (.cells #[.int .i64 z.p.src, .int .i64 z.p.dst, .int .i64 z.p.kind, .int .i64 z.p.id, .int .i64 z.p.hops, .bool z.p.whole, .int .i64 z.p.off, .bool z.p.more, .slice z.a z.zs.length z.c] 29 (0, 0)) := (hk _ (by omega) (by omega)).trans ((A4.kept _ (by omega) (by omega)).trans ((b3.block _ (by omega)).trans n2))
   have zd : DataB W' W.heap.size z := zt.kept fun b hb => by
    have h1 := zt.blk b hb
    exact (hk b (by omega) (by omega)).trans (A4.kept b (by omega) (by omega))
   have hst : SOk W' ⟨some ⟨w1.heap.size, 0, none⟩, 1, [z], now, false⟩ := by
    refine ⟨⟨w1.heap.size, rfl, lt_of_block n2', fun k y hy => ?_, fun y hy => ?_⟩, by simp, by simp, by simp⟩
    ·have hk : k = 0 := by have := (List.getElem?_eq_some_iff.1 hy).1; simp at this; omega
     subst hk
     obtain rfl : z = y := by simpa using hy
     have e : ∀ o, W'.cell? ⟨w1.heap.size, o, none⟩ = _ := fun o => zCr n2'
     exact ⟨(by simpa using e 0), (by simpa using e 1), (by simpa using e 2), (by simpa using e 3), (by simpa using e 4), (by simpa using e 5), (by simpa using e 6), (by simpa using e 7), (by simpa using e 8)⟩
    ·rw [List.mem_singleton.1 hy]
     exact zd.rok
   exact SLf.more (by rw [hsz]; exact A4.lt) (fun j u hj => (World.cell?_of_block (w := w4) (a := ⟨g4, off4 + j, none⟩) (hk g4 ng4.1 ng4.2)).trans (A4.cells j u hj)) (fun s hs => hso s (hs)) hst
  have FK : Hid ((ts ++ [⟨some ⟨w1.heap.size, 0, none⟩, 1, [z], now, false⟩] : List SV).map SV.key = roomK (ts.map SV.key) ++ [([x.key], now, false)]) := by
   rw [List.map_append]
   unfold roomK
   rw [List.length_map, HN.out, if_neg h4']
   show _ ++ [([z.key], now, false)] = _
   rw [hzk]
  have FL : Hid ((ts ++ [⟨some ⟨w1.heap.size, 0, none⟩, 1, [z], now, false⟩] : List SV).length = n + 1) := by rw [List.length_append]; simp; exact HN.out
  have a0' : w4.heap[w.heap.size]? = some (.cells #[.int .i64 now, .slice (some ⟨g, 0, none⟩) n c] 27 (0, 0)) := (A4.kept _ (by omega) (by omega)).trans ((B3.block _ (by omega)).trans a0)
  have a2' : w4.heap[w.heap.size + 2]? = some (.cells #[.int .i64 0, .slice none 0 0] 27 (0, 0)) := (A4.kept _ (by omega) (by omega)).trans ((B3.block _ (by omega)).trans a2)
  have B4 : Hid (Below lo w w4) := ((bW.mono (by omega)).trans (B3.mono (by omega))).trans (A4.below llo (by omega))
  refine hK.out _ _ (Or.inr (SK.out _ ((A4.kept _ (by omega) (by omega)).trans (B3.block _ (by omega))) ((A4.kept _ (by omega) (by omega)).trans (B3.block _ (by omega))))) (fun hH1 => ?_)
  have hH := SK.out w4 ((A4.kept _ (by omega) (by omega)).trans (B3.block _ (by omega))) ((A4.kept _ (by omega) (by omega)).trans (B3.block _ (by omega)))
  have s4 : w3.heap.size ≤ w4.heap.size := A4.size
  clear hK K hH1 A4 b1' b2 b3 B2 B3 n2 n3 zt k4 g3 cg dz1
  simp only [Act.put, zX, zY, zZ]
  refine zLk 10 23 (.pointer (some ⟨w.heap.size, 1, none⟩)) rfl (fun w hS => by go_simp) hH ?_; simp only [Act.put, zX, zY, zZ]
  have z0 : w4.cell? ⟨w.heap.size, 0, none⟩ = some (.int .i64 now) := zCr a0'
  have z1 : w4.cell? ⟨w.heap.size, 1, none⟩ = some (.slice (some ⟨g, 0, none⟩) n (c)) := zCr a0'
  have z2 : w4.cell? ⟨w.heap.size + 1 + 1, 0, none⟩ = some (.int .i64 0) := zCr a2'
  have z3 : w4.cell? ⟨w.heap.size + 1 + 1, 1, none⟩ = some (.slice none 0 0) := zCr a2'
  have fz : ∀ o, w4.frozen? ⟨w.heap.size, o, none⟩ = false := fun o => zUf a0' o
  have fz2 : ∀ o, w4.frozen? ⟨w.heap.size + 1 + 1, o, none⟩ = false := fun o => zUf a2' o
  refine late_one (i := 11) (by kernel_rfl) rfl (fun K hK => ?_)
  go_simp
  refine hK.out _ _ (Or.inl (by kernel_rfl)) (fun hH1 => ?_)
  clear hK K hH1 hH
  refine late_done (by kernel_rfl) ?_ _
  go_wp2
  refine bodyPost_ret (v := .agg #[.int .i64 now, .slice (some ⟨g4, off4, none⟩) (n + 1) c4]) (by simp [results, Tryz.results35, go_sem, z2, z3]) rfl ⟨g4, off4, c4, _, by rw [FL.out], FS.out _ (fun b h1 h2 => (zHs h2).trans ((zHs h2).trans (zHs h1))) (by simp [World.setCell]), FK.out, by rw [FL.out]; omega, ?_⟩
  exact Below.setCell (Below.setCell (Below.setCell B4.out (by simp only; omega) _) (by simp only; omega) _) (by simp only; omega) _
end Go.Proofs.YtjbkgmbakjnlhaaGreatDoor
