import Derived.Test.YtjbkgmbakjnlhaaGreatDoorPartAo
import Derived.Test.YtjbkgmbakjnlhaaGreatDoorPartAd
namespace Go.Proofs.YtjbkgmbakjnlhaaGreatDoor
set_option maxRecDepth 100000
open Go.RowKit
theorem take_flat (xs : List RV) : (xs.flatMap RV.cells).take 9 = (xs.take 1).flatMap RV.cells := by
  cases xs with
  | nil => rfl
  | cons x r =>
    have hl : x.cells.length = 9 := rfl
    rw [List.flatMap_cons, List.take_append_of_le_length (by omega), List.take_of_length_le (by omega)]
    simp
theorem SlotB.spoil {w : World} {lo : Nat} {s : SV} (h : SlotB w lo s) : SlotB w lo (spoilS s) := by
  obtain ⟨gL, h1, h2, h3⟩ := h.at_
  refine ⟨⟨gL, h1, h2, ?_⟩, fun y hy => h.each y (List.mem_of_mem_take hy), ?_, ?_, (show (1 : Nat) ≤ 9223372036854775807 by decide)⟩
  · have := h3.less 9
    rw [take_flat] at this
    exact this
  · show (s.xs.take 1).length ≤ 1048576
    rw [List.length_take]; omega
  · show (s.xs.take 1).length ≤ 1
    rw [List.length_take]; omega
theorem spoil_blks (s : SV) : List.Sublist (spoilS s).blks s.blks := by
  unfold SV.blks
  exact List.Sublist.append (List.Sublist.refl _) (sub_flat (List.take_sublist 1 s.xs))
theorem nodup_of_mem {ss : List SV} {s : SV} (h : (ss.flatMap SV.blks).Nodup) (hs : s ∈ ss) : s.blks.Nodup := by
  refine h.sublist ?_
  have : List.Sublist [s] ss := List.singleton_sublist.2 hs
  simpa using sub_flat (f := SV.blks) this
structure Put1 (sb : Nat) (o : Obj) (w w' : World) : Prop where
  at_ : w'.heap[sb]? = some o
  far : ∀ b, b ≠ sb → w'.heap[b]? = w.heap[b]?
  os : w'.os = w.os
  tape : w'.tape = w.tape
  output : w'.output = w.output
  size : w'.heap.size = w.heap.size
theorem spoil_put (sb : Nat) (s : SV) (w : World) (hb : w.heap[sb]? = some s.box) (hx : 1 ≤ s.xs.length) (hc : s.xs.length ≤ s.c) (hcm : s.c ≤ 9223372036854775807) (gL : Nat) (ha : s.a = some ⟨gL, 0, none⟩) :
    Calls Tryz.prog 99 #[.pointer (some ⟨sb, 0, none⟩)] w fun e w' => e = .returned (.tuple #[]) ∧ Put1 sb (spoilS s).box w w' := by
  refine (spoil_any sb s w hb hx hc hcm gL ha).mono ?_
  rintro e w1 ⟨h1, h2⟩
  refine ⟨h1, ?_, ?_, ?_, ?_, ?_, ?_⟩
  · rw [h2]
    have h3 := set_at (o := 2) (v := .bool true) (set_at (o := 0) (v := .slice s.a 1 1) hb)
    refine h3.trans ?_
    have hl : (spoilS s).xs.length = 1 := by show (s.xs.take 1).length = 1; rw [List.length_take]; omega
    unfold SV.box
    rw [hl]
    rfl
  · intro b hb
    rw [h2]
    exact (zHs hb).trans (zHs hb)
  · rw [h2]; simp [World.setCell]
  · rw [h2]; simp [World.setCell]
  · rw [h2]; simp [World.setCell]
  · rw [h2]; simp [World.setCell]
theorem OpenB.apart {w : World} {lo ob mb : Nat} {ov : Value} {now : Int} {es : List Ent} (h : OpenB w lo ob mb ov now es) {e : Ent} (he : e ∈ es) : ∀ b ∈ (es.map Ent.s).flatMap SV.blks, b ≠ e.b := fun b hb e1 => by
  obtain ⟨_, _, cur, t, h1, h2⟩ := h.forest.blk b hb
  rw [e1, h.slot e he] at h1
  cases h1
  rcases h2 with h2 | h2 <;> cases h2
set_option maxHeartbeats 6400000 in
theorem settleSpoils (lo ob mb i : Nat) (ov : Value) (now : Int) (es : List Ent) (k : K4) (e0 : Ent) (w : World) (h : OpenB w lo ob mb ov now es) (hi : es[i]? = some e0) (hk : e0.k = k)
 (hx : 1 ≤ e0.s.xs.length) :
    Calls Tryz.prog 70 #[.pointer (some ⟨ob, 0, none⟩), kval k, oSpoils] w fun e w' => e = .returned zeroV ∧ OpenB w' lo ob mb ov now (es.set i ⟨e0.k, e0.b, spoilS e0.s⟩) ∧ Only (fun b => b = e0.b) w w' := by
  have a1 := asSpoilsOpens
  have a2 := asSpoilsGrows
  have a3 := asSpoilsSpoils
  unfold oSpoils
  have H0 : Hid (OpenB w lo ob mb ov now es) := h
  have HI : Hid (es[i]? = some e0) := hi
  have he0 := List.mem_of_getElem? hi
  have hsb := h.slot e0 he0
  have lob := lt_of_block h.box
  have lmb := h.map_.lt
  have lsb := lt_of_block hsb
  have x2 : w.cell? ⟨ob, 2, none⟩ = some (.map (some mb)) := zCr h.box
  have LK0 := fun (u : World) (hu : MapIs u mb (es.map fun e => (e.k, e.b))) => lookup_k4 hu k
  have hs : slotVal (slotOf k (es.map fun e => (e.k, e.b))) = .pointer (some ⟨e0.b, 0, none⟩) := by
    rw [slotOf_some (List.mem_map.2 ⟨e0, he0, by rw [hk]⟩) (by rw [List.map_map]; exact h.keys)]
    rfl
  rw [hs] at LK0
  unfold kval at LK0 ⊢
  obtain ⟨W, hW⟩ : ∃ W, ((w.alloc (.cells #[.int .i64 k.1, .int .i64 k.2.1, .int .i64 k.2.2.1, .int .i64 k.2.2.2] 103)).alloc (.cells #[.int .i64 0, .int .i64 0, .int .i64 0, .int .i64 0, .int .i64 0, .bool false, .int .i64 0, .bool false, .slice none 0 0] 29)).alloc (.cells #[] 155) = W := ⟨_, rfl⟩
  have bW : Below w.heap.size w W := by rw [← hW]; exact Joins.below_alloc3 _ _ _ _
  have sW : W.heap.size = w.heap.size + 3 := by rw [← hW]; simp
  have z0 : W.heap[w.heap.size + 1]? = some (.cells #[.int .i64 0, .int .i64 0, .int .i64 0, .int .i64 0, .int .i64 0, .bool false, .int .i64 0, .bool false, .slice none 0 0] 29 (0, 0)) := by rw [← hW]; exact (zHa (by simp)).trans (heap_new _ _ _ (by simp))
  have KA : KeyAt W w.heap.size k := by
    rw [← hW]
    exact KeyAt.of_block ((zHa (by simp; omega)).trans ((zHa (by simp)).trans (heap_new _ _ _ rfl)))
  have y2 : W.cell? ⟨ob, 2, none⟩ = some (.map (some mb)) := (bW.cell (p := ⟨ob, 2, none⟩) lob).trans x2
  have OW : Hid (OpenB W lo ob mb ov now es) := h.below bW
  have hsW : W.heap[e0.b]? = some e0.s.box := (bW.block _ lsb).trans hsb
  clear h hi hk hs x2 hsb
  obtain ⟨gL, hgL, _, _⟩ := (OW.out.forest.each e0.s (List.mem_map.2 ⟨e0, he0, rfl⟩)).at_
  have HS0 : Hid (SlotB W lo e0.s) := OW.out.forest.each e0.s (List.mem_map.2 ⟨e0, he0, rfl⟩)
  have KP : Hid (∀ U : World, U.heap[e0.b]? = some e0.s.box → Calls Tryz.prog 99 #[.pointer (some ⟨e0.b, 0, none⟩)] U fun e w' => e = .returned (.tuple #[]) ∧ Put1 e0.b (spoilS e0.s).box U w') := fun U hU => spoil_put e0.b e0.s U hU hx HS0.out.cap HS0.out.capM gL hgL
  go_enter Tryz.func70, Tryz.ntmps70
  go_wp2
  (first | rw [hW] | skip)
  clear hW a1 a2 a3
  refine wp_region_held_drew (S := fun W => KeyAt W w.heap.size k ∧ W.cell? ⟨ob, 2, none⟩ = some (.map (some mb)) ∧ MapIs W mb (es.map fun (e : Ent) => (e.k, e.b))) (by kernel_rfl) ⟨KA, y2, OW.out.map_.kept rfl⟩ (fun hH => ?_)
  refine zTk 0 38 (.pointer (some ⟨ob, 0, none⟩)) rfl (fun w hS => by go_simp) hH ?_; simp only [Act.put, zX, zY, zZ]
  refine zTk 1 39 (.pointer (some ⟨ob, 0, none⟩)) rfl (fun w hS => by go_simp) hH ?_; simp only [Act.put, zX, zY, zZ]
  refine zTk 2 40 (.pointer (some ⟨ob, 2, none⟩)) rfl (fun w hS => by go_simp) hH ?_; simp only [Act.put, zX, zY, zZ]
  refine zTk 3 41 (.map (some mb)) rfl (fun w hS => by obtain ⟨⟨s0, s1, s2, s3⟩, s4, s5⟩ := hS; go_simp) hH ?_; simp only [Act.put, zX, zY, zZ]
  refine zTk 4 42 (.agg #[.int .i64 k.1, .int .i64 k.2.1, .int .i64 k.2.2.1, .int .i64 k.2.2.2]) rfl (fun w hS => by obtain ⟨⟨s0, s1, s2, s3⟩, s4, s5⟩ := hS; go_simp) hH ?_; simp only [Act.put, zX, zY, zZ]
  refine zTk 5 43 (.pointer (some ⟨e0.b, 0, none⟩)) rfl (fun w hS => by obtain ⟨⟨s0, s1, s2, s3⟩, s4, s5⟩ := hS; have hlk := LK0 w s5; go_simp) hH ?_; simp only [Act.put, zX, zY, zZ]
  refine zRd 6 (by kernel_rfl) rfl (fun K hK => ?_)
  go_simp
  have hsD : W.drew.heap[e0.b]? = some e0.s.box := hsW
  (with_reducible refine (KP.out W.drew hsD).mono ?_)
  rintro e w1 ⟨rfl, e1⟩
  have hm1 : w1.heap[e0.b]? = some (spoilS e0.s).box := e1.at_
  have far1 : ∀ b, b ≠ e0.b → w1.heap[b]? = W.heap[b]? := fun b hb => e1.far b hb
  have pl1 : w1.os = W.os ∧ w1.tape = W.tape ∧ w1.output = W.output ∧ w1.heap.size = W.heap.size := ⟨e1.os, e1.tape, e1.output, e1.size⟩
  have hm9 : ∃ es' c, W.heap[mb]? = some (.map es' c) := by
    obtain ⟨es', c, h1, _⟩ := OW.out.map_
    exact ⟨es', c, h1⟩
  have nmb : mb ≠ e0.b := fun e => by
    obtain ⟨es', c, h1⟩ := hm9
    rw [e, hsW] at h1
    cases h1
  have nob : ob ≠ e0.b := fun e => by
    have h1 := OW.out.box
    rw [e, hsW] at h1
    cases h1
  go_simp
  refine hK.out _ _ ⟨KA.kept (far1 _ (by omega)), (cell_keep (far1 _ nob)).trans y2, OW.out.map_.kept (far1 _ nmb)⟩ (fun hH => ?_)
  clear hK K
  refine wpAnyH_done (by kernel_rfl) ?_ _
  have z1 : w1.heap[w.heap.size + 1]? = some (.cells #[.int .i64 0, .int .i64 0, .int .i64 0, .int .i64 0, .int .i64 0, .bool false, .int .i64 0, .bool false, .slice none 0 0] 29 (0, 0)) := (far1 _ (by omega)).trans z0
  have q0 : w1.cell? ⟨w.heap.size + 1, 0, none⟩ = some (.int .i64 0) := zCr z1
  have q1 : w1.cell? ⟨w.heap.size + 1, 1, none⟩ = some (.int .i64 0) := zCr z1
  have q2 : w1.cell? ⟨w.heap.size + 1, 2, none⟩ = some (.int .i64 0) := zCr z1
  have q3 : w1.cell? ⟨w.heap.size + 1, 3, none⟩ = some (.int .i64 0) := zCr z1
  have q4 : w1.cell? ⟨w.heap.size + 1, 4, none⟩ = some (.int .i64 0) := zCr z1
  have q5 : w1.cell? ⟨w.heap.size + 1, 5, none⟩ = some (.bool false) := zCr z1
  have q6 : w1.cell? ⟨w.heap.size + 1, 6, none⟩ = some (.int .i64 0) := zCr z1
  have q7 : w1.cell? ⟨w.heap.size + 1, 7, none⟩ = some (.bool false) := zCr z1
  have q8 : w1.cell? ⟨w.heap.size + 1, 8, none⟩ = some (.slice none 0 0) := zCr z1
  have fz : ∀ o, w1.frozen? ⟨w.heap.size + 1, o, none⟩ = false := fun o => zUf z1 o
  have HB : Hid (∀ W', Below (w.heap.size + 1) w1 W' → OpenB W' lo ob mb ov now (es.set i ⟨e0.k, e0.b, spoilS e0.s⟩) ∧ Only (fun b => b = e0.b) w W') := fun W' b9 => by
    have kk : ∀ b, b < w.heap.size → b ≠ e0.b → W'.heap[b]? = w.heap[b]? := fun b hb hn => (b9.block b (by omega)).trans ((far1 b hn).trans (bW.block b hb))
    have kf : ∀ b ∈ (es.map Ent.s).flatMap SV.blks, W'.heap[b]? = w.heap[b]? := fun b hb => kk b (H0.out.forest.blk b hb).2.1 (H0.out.apart he0 b hb)
    have hfi : (es.map Ent.s)[i]? = some e0.s := by rw [List.getElem?_map, HI.out]; rfl
    have FO : Forest W' lo ((es.map Ent.s).set i (spoilS e0.s)) := H0.out.forest.set hfi kf ((H0.out.forest.each e0.s (List.mem_of_getElem? hfi)).kept fun b hb => kf b (List.mem_flatMap.2 ⟨e0.s, List.mem_of_getElem? hfi, hb⟩)).spoil ((nodup_of_mem H0.out.forest.nd (List.mem_of_getElem? hfi)).sublist (spoil_blks e0.s)) (fun b hb => Or.inl ((spoil_blks e0.s).subset hb))
    refine ⟨H0.out.setSlot HI.out ((b9.block _ (by omega)).trans hm1) kk FO, ?_⟩
    exact ⟨b9.os.trans (pl1.1.trans bW.os), b9.tape.trans (pl1.2.1.trans bW.tape), b9.output.trans (pl1.2.2.1.trans bW.output), Nat.le_trans bW.size (by have := b9.size; omega), kk⟩
  have lz : w.heap.size + 1 < w1.heap.size := lt_of_block z1
  clear z0 z1 hm1 far1 pl1 hm9 hH LK0
  go_wp2
  refine bodyPost_ret (v := zeroV) (by simp [results, Tryz.results70, go_sem, zeroV, q0, q1, q2, q3, q4, q5, q6, q7, q8]) rfl ⟨rfl, HB.out _ ?_⟩
  exact below_far9 (o := 0) (Below.refl _ w1) (Nat.le_refl _) _ _ _ _ _ _ _ _ _
set_option maxHeartbeats 6400000 in
theorem settleGrows (lo ob mb i : Nat) (ov : Value) (now : Int) (es : List Ent) (k : K4) (e0 : Ent) (t : SV) (w : World) (h : OpenB w lo ob mb ov now es) (hi : es[i]? = some e0) (hk : e0.k = k)
 (ht : SlotB w lo t) (hsi : t.since = e0.s.since) (hba : t.bad = e0.s.bad) (hn : t.blks.Nodup) (hd : ∀ b ∈ t.blks, b ∈ e0.s.blks ∨ b ∉ (es.map Ent.s).flatMap SV.blks) :
    Calls Tryz.prog 70 #[.pointer (some ⟨ob, 0, none⟩), kval k, oGrows (.slice t.a t.xs.length t.c)] w fun e w' => e = .returned zeroV ∧ OpenB w' lo ob mb ov now (es.set i ⟨e0.k, e0.b, t⟩) ∧ Only (fun b => b = e0.b) w w' := by
  have a1 := asGrowsOpens t.a t.xs.length t.c
  have a2 := asGrowsGrows t.a t.xs.length t.c
  have HT : Hid (SlotB w lo t) := ht
  have HN : Hid (t.blks.Nodup) := hn
  have HD : Hid (∀ b ∈ t.blks, b ∈ e0.s.blks ∨ b ∉ (es.map Ent.s).flatMap SV.blks) := hd
  have HSB : Hid (t.since = e0.s.since ∧ t.bad = e0.s.bad) := ⟨hsi, hba⟩
  clear ht hn hd hsi hba
  unfold oGrows
  have H0 : Hid (OpenB w lo ob mb ov now es) := h
  have HI : Hid (es[i]? = some e0) := hi
  have he0 := List.mem_of_getElem? hi
  have hsb := h.slot e0 he0
  have lob := lt_of_block h.box
  have lmb := h.map_.lt
  have lsb := lt_of_block hsb
  have x2 : w.cell? ⟨ob, 2, none⟩ = some (.map (some mb)) := zCr h.box
  have LK0 := fun (u : World) (hu : MapIs u mb (es.map fun e => (e.k, e.b))) => lookup_k4 hu k
  have hs : slotVal (slotOf k (es.map fun e => (e.k, e.b))) = .pointer (some ⟨e0.b, 0, none⟩) := by
    rw [slotOf_some (List.mem_map.2 ⟨e0, he0, by rw [hk]⟩) (by rw [List.map_map]; exact h.keys)]
    rfl
  rw [hs] at LK0
  unfold kval at LK0 ⊢
  obtain ⟨W, hW⟩ : ∃ W, ((w.alloc (.cells #[.int .i64 k.1, .int .i64 k.2.1, .int .i64 k.2.2.1, .int .i64 k.2.2.2] 103)).alloc (.cells #[.int .i64 0, .int .i64 0, .int .i64 0, .int .i64 0, .int .i64 0, .bool false, .int .i64 0, .bool false, .slice none 0 0] 29)).alloc (.cells #[.slice t.a t.xs.length t.c] 159) = W := ⟨_, rfl⟩
  have bW : Below w.heap.size w W := by rw [← hW]; exact Joins.below_alloc3 _ _ _ _
  have sW : W.heap.size = w.heap.size + 3 := by rw [← hW]; simp
  have z0 : W.heap[w.heap.size + 1]? = some (.cells #[.int .i64 0, .int .i64 0, .int .i64 0, .int .i64 0, .int .i64 0, .bool false, .int .i64 0, .bool false, .slice none 0 0] 29 (0, 0)) := by rw [← hW]; exact (zHa (by simp)).trans (heap_new _ _ _ (by simp))
  have KA : KeyAt W w.heap.size k := by
    rw [← hW]
    exact KeyAt.of_block ((zHa (by simp; omega)).trans ((zHa (by simp)).trans (heap_new _ _ _ rfl)))
  have y2 : W.cell? ⟨ob, 2, none⟩ = some (.map (some mb)) := (bW.cell (p := ⟨ob, 2, none⟩) lob).trans x2
  have OW : Hid (OpenB W lo ob mb ov now es) := h.below bW
  have hsW : W.heap[e0.b]? = some e0.s.box := (bW.block _ lsb).trans hsb
  clear h hi hk hs x2 hsb
  have g0 : W.heap[w.heap.size + 2]? = some (.cells #[.slice t.a t.xs.length t.c] 159 (0, 0)) := by rw [← hW]; exact heap_new _ _ _ (by simp)
  have g1 : W.cell? ⟨w.heap.size + 2, 0, none⟩ = some (.slice t.a t.xs.length t.c) := zCr g0
  have c0 : W.cell? ⟨e0.b, 0, none⟩ = some (.slice e0.s.a e0.s.xs.length e0.s.c) := zCr hsW
  have fzb : ∀ o, W.frozen? ⟨e0.b, o, none⟩ = false := fun o => zUf hsW o
  have nmb : mb ≠ e0.b := fun e => by
    obtain ⟨es', c, h1, _⟩ := OW.out.map_
    rw [e, hsW] at h1
    cases h1
  have nob : ob ≠ e0.b := fun e => by
    have h1 := OW.out.box
    rw [e, hsW] at h1
    cases h1
  have HW1 : Hid (Put1 e0.b t.box W (W.setCell ⟨e0.b, 0, none⟩ (.slice t.a t.xs.length t.c)).drew) := (show Put1 _ _ _ _ from ⟨by
    have h3 := set_at (o := 0) (v := .slice t.a t.xs.length t.c) hsW
    refine (show _ = _ from h3).trans ?_
    unfold SV.box
    rw [HSB.out.1, HSB.out.2]
    rfl, fun b hb => zHs hb, rfl, rfl, rfl, by simp [World.setCell]⟩)
  go_enter Tryz.func70, Tryz.ntmps70
  go_wp2
  (first | rw [hW] | skip)
  clear hW a1 a2
  refine wp_region_held_drew (S := fun W => (KeyAt W w.heap.size k ∧ W.cell? ⟨ob, 2, none⟩ = some (.map (some mb)) ∧ MapIs W mb (es.map fun (e : Ent) => (e.k, e.b))) ∧ W.cell? ⟨w.heap.size + 2, 0, none⟩ = some (.slice t.a t.xs.length t.c)) (by kernel_rfl) ⟨⟨KA, y2, OW.out.map_.kept rfl⟩, g1⟩ (fun hH => ?_)
  refine zTk 0 25 (.pointer (some ⟨ob, 0, none⟩)) rfl (fun w hS => by go_simp) hH ?_; simp only [Act.put, zX, zY, zZ]
  refine zTk 1 26 (.pointer (some ⟨ob, 0, none⟩)) rfl (fun w hS => by go_simp) hH ?_; simp only [Act.put, zX, zY, zZ]
  refine zTk 2 27 (.pointer (some ⟨ob, 2, none⟩)) rfl (fun w hS => by go_simp) hH ?_; simp only [Act.put, zX, zY, zZ]
  refine zTk 3 28 (.map (some mb)) rfl (fun w hS => by obtain ⟨⟨⟨s0, s1, s2, s3⟩, s4, s5⟩, s6⟩ := hS; go_simp) hH ?_; simp only [Act.put, zX, zY, zZ]
  refine zTk 4 29 (.agg #[.int .i64 k.1, .int .i64 k.2.1, .int .i64 k.2.2.1, .int .i64 k.2.2.2]) rfl (fun w hS => by obtain ⟨⟨⟨s0, s1, s2, s3⟩, s4, s5⟩, s6⟩ := hS; go_simp) hH ?_; simp only [Act.put, zX, zY, zZ]
  refine zTk 5 30 (.pointer (some ⟨e0.b, 0, none⟩)) rfl (fun w hS => by obtain ⟨⟨⟨s0, s1, s2, s3⟩, s4, s5⟩, s6⟩ := hS; have hlk := LK0 w s5; go_simp) hH ?_; simp only [Act.put, zX, zY, zZ]
  refine zTk 6 31 (.pointer (some ⟨w.heap.size + 2, 0, none⟩)) rfl (fun w hS => by go_simp) hH ?_; simp only [Act.put, zX, zY, zZ]
  refine zTk 7 32 (.slice t.a t.xs.length t.c) rfl (fun w hS => by obtain ⟨⟨⟨s0, s1, s2, s3⟩, s4, s5⟩, s6⟩ := hS; go_simp) hH ?_; simp only [Act.put, zX, zY, zZ]
  refine zTk 8 33 (.pointer (some ⟨e0.b, 0, none⟩)) rfl (fun w hS => by go_simp) hH ?_; simp only [Act.put, zX, zY, zZ]
  refine zTk 9 34 (.pointer (some ⟨e0.b, 0, none⟩)) rfl (fun w hS => by go_simp) hH ?_; simp only [Act.put, zX, zY, zZ]
  refine zRd 10 (by kernel_rfl) rfl (fun K hK => ?_)
  go_simp
  obtain ⟨w1, hw1⟩ : ∃ w1, w1 = (W.setCell ⟨e0.b, 0, none⟩ (.slice t.a t.xs.length t.c)).drew := ⟨_, rfl⟩
  rw [← hw1] at HW1
  have e1 := HW1.out
  (first | rw [← hw1] | skip)
  have hm1 : w1.heap[e0.b]? = some t.box := e1.at_
  have far1 : ∀ b, b ≠ e0.b → w1.heap[b]? = W.heap[b]? := fun b hb => e1.far b hb
  have pl1 : w1.os = W.os ∧ w1.tape = W.tape ∧ w1.output = W.output ∧ w1.heap.size = W.heap.size := ⟨e1.os, e1.tape, e1.output, e1.size⟩
  refine hK.out _ _ ⟨⟨KA.kept (far1 _ (by omega)), (cell_keep (far1 _ nob)).trans y2, OW.out.map_.kept (far1 _ nmb)⟩, (cell_keep (far1 _ (by omega))).trans g1⟩ (fun hH => ?_)
  clear hK K
  refine wpAnyH_done (by kernel_rfl) ?_ _
  have hm9 : True := trivial
  have z1 : w1.heap[w.heap.size + 1]? = some (.cells #[.int .i64 0, .int .i64 0, .int .i64 0, .int .i64 0, .int .i64 0, .bool false, .int .i64 0, .bool false, .slice none 0 0] 29 (0, 0)) := (far1 _ (by omega)).trans z0
  clear e1 HW1 hw1 c0 fzb g0 g1
  have q0 : w1.cell? ⟨w.heap.size + 1, 0, none⟩ = some (.int .i64 0) := zCr z1
  have q1 : w1.cell? ⟨w.heap.size + 1, 1, none⟩ = some (.int .i64 0) := zCr z1
  have q2 : w1.cell? ⟨w.heap.size + 1, 2, none⟩ = some (.int .i64 0) := zCr z1
  have q3 : w1.cell? ⟨w.heap.size + 1, 3, none⟩ = some (.int .i64 0) := zCr z1
  have q4 : w1.cell? ⟨w.heap.size + 1, 4, none⟩ = some (.int .i64 0) := zCr z1
  have q5 : w1.cell? ⟨w.heap.size + 1, 5, none⟩ = some (.bool false) := zCr z1
  have q6 : w1.cell? ⟨w.heap.size + 1, 6, none⟩ = some (.int .i64 0) := zCr z1
  have q7 : w1.cell? ⟨w.heap.size + 1, 7, none⟩ = some (.bool false) := zCr z1
  have q8 : w1.cell? ⟨w.heap.size + 1, 8, none⟩ = some (.slice none 0 0) := zCr z1
  have fz : ∀ o, w1.frozen? ⟨w.heap.size + 1, o, none⟩ = false := fun o => zUf z1 o
  have HB : Hid (∀ W', Below (w.heap.size + 1) w1 W' → OpenB W' lo ob mb ov now (es.set i ⟨e0.k, e0.b, t⟩) ∧ Only (fun b => b = e0.b) w W') := fun W' b9 => by
    have kk : ∀ b, b < w.heap.size → b ≠ e0.b → W'.heap[b]? = w.heap[b]? := fun b hb hn => (b9.block b (by omega)).trans ((far1 b hn).trans (bW.block b hb))
    have kf : ∀ b ∈ (es.map Ent.s).flatMap SV.blks, W'.heap[b]? = w.heap[b]? := fun b hb => kk b (H0.out.forest.blk b hb).2.1 (H0.out.apart he0 b hb)
    have hfi : (es.map Ent.s)[i]? = some e0.s := by rw [List.getElem?_map, HI.out]; rfl
    have hbt : ∀ b ∈ t.blks, W'.heap[b]? = w.heap[b]? := fun b hb => by
      obtain ⟨_, h1, cur, ty, h2, h3⟩ := HT.out.blk b hb
      refine kk b h1 (fun e => ?_)
      rw [e, H0.out.slot e0 he0] at h2
      cases h2
      rcases h3 with h3 | h3 <;> cases h3
    have FO : Forest W' lo ((es.map Ent.s).set i t) := H0.out.forest.set hfi kf (HT.out.kept hbt) HN.out HD.out
    refine ⟨H0.out.setSlot HI.out ((b9.block _ (by omega)).trans hm1) kk FO, ?_⟩
    exact ⟨b9.os.trans (pl1.1.trans bW.os), b9.tape.trans (pl1.2.1.trans bW.tape), b9.output.trans (pl1.2.2.1.trans bW.output), Nat.le_trans bW.size (by have := b9.size; omega), kk⟩
  have lz : w.heap.size + 1 < w1.heap.size := lt_of_block z1
  clear z0 z1 hm1 far1 pl1 hm9 hH LK0
  go_wp2
  refine bodyPost_ret (v := zeroV) (by simp [results, Tryz.results70, go_sem, zeroV, q0, q1, q2, q3, q4, q5, q6, q7, q8]) rfl ⟨rfl, HB.out _ ?_⟩
  exact below_far9 (o := 0) (Below.refl _ w1) (Nat.le_refl _) _ _ _ _ _ _ _ _ _
end Go.Proofs.YtjbkgmbakjnlhaaGreatDoor
namespace Go.Proofs.YtjbkgmbakjnlhaaGreatDoor
set_option maxRecDepth 100000
open Go.RowKit
theorem room_sub (es : List Ent) : List.Sublist (roomL es) es := by
 unfold roomL
 split
 ·exact List.tail_sublist es
 ·exact List.Sublist.refl _
theorem OpenB.noPart {w : World} {lo ob mb : Nat} {ov : Value} {now : Int} {es : List Ent} (h : OpenB w lo ob mb ov now es) {b : Nat} {cur : Array Value} {t : TypeId} (hb : w.heap[b]? = some (.cells cur t (0, 0)))
  (ht : t = 39 ∨ t = 5 ∨ t = 29) : ¬ OPart ob mb ov b := by
 rintro (rfl | rfl | h1)
 ·rw [h.box] at hb
  cases hb
  rcases ht with h | h | h <;> cases h
 ·obtain ⟨l, c, h1, _⟩ := h.map_
  rw [h1] at hb
  cases hb
 ·obtain ⟨cu, h2⟩ := h.order_at b h1
  rw [h2] at hb
  cases hb
  rcases ht with h | h | h <;> cases h
set_option maxHeartbeats 6400000 in
theorem settleOpens (lo ob mb sb : Nat) (ov : Value) (now : Int) (es : List Ent) (k : K4) (t : SV) (w : World) (h : OpenB w lo ob mb ov now es) (hk : ∀ e ∈ es, e.k ≠ k) (hsb : ∀ e ∈ es, e.b ≠ sb) (hl : es.length ≤ 1000) (hs : w.heap[sb]? = some t.box) (hlo : lo ≤ sb) (hf : Forest w lo ((es.map Ent.s) ++ [t])) :
  Calls Tryz.prog 70 #[.pointer (some ⟨ob, 0, none⟩), kval k, oOpens sb] w fun e w' => e = .returned zeroV ∧ ∃ ov', OpenB w' lo ob mb ov' now (roomL es ++ [⟨k, sb, t⟩]) ∧ Only (OPart ob mb ov) w w' := by
 have a1 := asOpensOpens (some ⟨sb, 0, none⟩)
 unfold oOpens kval
 have H0 : Hid (OpenB w lo ob mb ov now es) := h
 have HP : Hid (∀ b, OPart ob mb ov b → b < w.heap.size) := fun b hb => by
  rcases hb with rfl | rfl | hb
  ·exact lt_of_block h.box
  ·exact h.map_.lt
  ·exact (own_lt h.order b hb).2
 have lob := lt_of_block h.box
 have lsb := lt_of_block hs
 obtain ⟨W, hW⟩ : ∃ W, ((w.alloc (.cells #[.int .i64 k.1, .int .i64 k.2.1, .int .i64 k.2.2.1, .int .i64 k.2.2.2] 103)).alloc (.cells #[.int .i64 0, .int .i64 0, .int .i64 0, .int .i64 0, .int .i64 0, .bool false, .int .i64 0, .bool false, .slice none 0 0] 29)).alloc (.cells #[.pointer (some ⟨sb, 0, none⟩)] 151) = W := ⟨_, rfl⟩
 have bW : Below w.heap.size w W := by rw [← hW]; exact Joins.below_alloc3 _ _ _ _
 have sW : W.heap.size = w.heap.size + 3 := by rw [← hW]; simp
 have z0 : W.heap[w.heap.size + 1]? = some (.cells #[.int .i64 0, .int .i64 0, .int .i64 0, .int .i64 0, .int .i64 0, .bool false, .int .i64 0, .bool false, .slice none 0 0] 29 (0, 0)) := by rw [← hW]; exact (zHa (by simp)).trans (heap_new _ _ _ (by simp))
 have g0 : W.heap[w.heap.size + 2]? = some (.cells #[.pointer (some ⟨sb, 0, none⟩)] 151 (0, 0)) := by rw [← hW]; exact heap_new _ _ _ (by simp)
 have KA : KeyAt W w.heap.size k := by
  rw [← hW]
  exact KeyAt.of_block ((zHa (by simp; omega)).trans ((zHa (by simp)).trans (heap_new _ _ _ rfl)))
 have OW : Hid (OpenB W lo ob mb ov now es) := h.below bW
 have KM : Hid (Calls Tryz.prog 98 #[.pointer (some ⟨ob, 0, none⟩)] W (RoomPost lo ob mb ov now (roomL es) W)) := makeRoom_any lo ob mb ov now es W OW.out hl
 have KU : Hid (∀ (U : World) (ov' : Value), OpenB U lo ob mb ov' now (roomL es) → U.heap[sb]? = some t.box → Forest U lo (((roomL es).map Ent.s) ++ [t]) → Calls Tryz.prog 60 #[.pointer (some ⟨ob, 0, none⟩), .agg #[.int .i64 k.1, .int .i64 k.2.1, .int .i64 k.2.2.1, .int .i64 k.2.2.2], .pointer (some ⟨sb, 0, none⟩)] U fun e w' => ∃ ov2, e = .returned (.tuple #[]) ∧ OpenB w' lo ob mb ov2 now (roomL es ++ [⟨k, sb, t⟩]) ∧ Only (OPart ob mb ov') U w') := fun U ov' h1 h2 h3 => putLast_any lo ob mb ov' now (roomL es) k sb t U h1 (fun e he => hk e ((room_sub es).subset he)) (fun e he => hsb e ((room_sub es).subset he)) (Nat.le_trans (room_sub es).length_le hl) h2 hlo h3
 have HF0 : Hid (Forest w lo ((es.map Ent.s) ++ [t])) := hf
 have HF : Hid (Forest W lo ((es.map Ent.s) ++ [t])) := hf.below bW
 have HS : Hid (W.heap[sb]? = some t.box) := (bW.block _ lsb).trans hs
 clear h hk hsb hs hf
 go_enter Tryz.func70, Tryz.ntmps70
 go_wp2_with fail
 (first | rw [hW] | skip)
 refine KM.out.mono ?_
 rintro e w1 ⟨ov', rfl, o1, n1, l1⟩
 clear hW
 have PP : ∀ b, OPart ob mb ov' b → OPart ob mb ov b := fun b hb => by
  rcases hb with h | h | h
  ·exact Or.inl h
  ·exact Or.inr (Or.inl h)
  ·exact Or.inr (Or.inr (l1 b h))
 have far1 : ∀ b, b < W.heap.size → w.heap.size ≤ b → w1.heap[b]? = W.heap[b]? := fun b hb hw => n1.block b hb (fun h => by have := HP.out b h; omega)
 have HS1 : w1.heap[sb]? = some t.box := (n1.block sb (by omega) (OW.out.noPart HS.out (Or.inl rfl))).trans HS.out
 have HF1 : Forest w1 lo (((roomL es).map Ent.s) ++ [t]) := by
  have h2 : Forest w1 lo ((es.map Ent.s) ++ [t]) := HF.out.kept fun b hb => by
   obtain ⟨_, h3, cu, ty, h4, h5⟩ := HF.out.blk b hb
   exact n1.block b h3 (OW.out.noPart h4 (h5.elim (fun h => Or.inr (Or.inl h)) (fun h => Or.inr (Or.inr h))))
  exact h2.sub (List.Sublist.append ((room_sub es).map _) (List.Sublist.refl _))
 have K1 : KeyAt w1 w.heap.size k := KA.kept (far1 _ (by omega) (by omega))
 obtain ⟨k0, k1, k2, k3⟩ := K1
 have g1 : w1.cell? ⟨w.heap.size + 2, 0, none⟩ = some (.pointer (some ⟨sb, 0, none⟩)) := zCr ((far1 _ (by omega) (by omega)).trans g0)
 have z1 : w1.heap[w.heap.size + 1]? = some (.cells #[.int .i64 0, .int .i64 0, .int .i64 0, .int .i64 0, .int .i64 0, .bool false, .int .i64 0, .bool false, .slice none 0 0] 29 (0, 0)) := (far1 _ (by omega) (by omega)).trans z0
 have O1 : Hid (OpenB w1 lo ob mb ov' now (roomL es)) := o1
 have s1 := n1.size
 clear o1 a1
 go_wp2_with fail
 refine (KU.out w1 ov' O1.out HS1 HF1).mono ?_
 rintro e w2 ⟨ov2, rfl, o2, n2⟩
 have n2' : Only (OPart ob mb ov) w1 w2 := n2.mono PP
 have z2 : w2.heap[w.heap.size + 1]? = some (.cells #[.int .i64 0, .int .i64 0, .int .i64 0, .int .i64 0, .int .i64 0, .bool false, .int .i64 0, .bool false, .slice none 0 0] 29 (0, 0)) := (n2'.block _ (by omega) (fun h => by have := HP.out _ h; omega)).trans z1
 have O2 : Hid (OpenB w2 lo ob mb ov2 now (roomL es ++ [⟨k, sb, t⟩])) := o2
 have q0 : w2.cell? ⟨w.heap.size + 1, 0, none⟩ = some (.int .i64 0) := zCr z2
 have q1 : w2.cell? ⟨w.heap.size + 1, 1, none⟩ = some (.int .i64 0) := zCr z2
 have q2 : w2.cell? ⟨w.heap.size + 1, 2, none⟩ = some (.int .i64 0) := zCr z2
 have q3 : w2.cell? ⟨w.heap.size + 1, 3, none⟩ = some (.int .i64 0) := zCr z2
 have q4 : w2.cell? ⟨w.heap.size + 1, 4, none⟩ = some (.int .i64 0) := zCr z2
 have q5 : w2.cell? ⟨w.heap.size + 1, 5, none⟩ = some (.bool false) := zCr z2
 have q6 : w2.cell? ⟨w.heap.size + 1, 6, none⟩ = some (.int .i64 0) := zCr z2
 have q7 : w2.cell? ⟨w.heap.size + 1, 7, none⟩ = some (.bool false) := zCr z2
 have q8 : w2.cell? ⟨w.heap.size + 1, 8, none⟩ = some (.slice none 0 0) := zCr z2
 have fz : ∀ o, w2.frozen? ⟨w.heap.size + 1, o, none⟩ = false := fun o => zUf z2 o
 have lz : w.heap.size + 1 < w2.heap.size := lt_of_block z2
 have HB : Hid (∀ W', Only (fun b => b = w.heap.size + 1) w2 W' → ∃ ov', OpenB W' lo ob mb ov' now (roomL es ++ [⟨k, sb, t⟩]) ∧ Only (OPart ob mb ov) w W') := fun W' b9 => by
  have nk : ∀ {b : Nat} {ob' : Obj}, w2.heap[b]? = some ob' → b ≠ w.heap.size + 1 → W'.heap[b]? = w2.heap[b]? := fun {b ob'} hb hn => b9.block b (lt_of_block hb) hn
  refine ⟨ov2, o2.kept (nk o2.box (by omega)) ?_ (fun x hx => ?_) (fun e he => nk (o2.slot e he) ?_) (fun b hb => ?_), ?_⟩
  ·obtain ⟨l, c, h1, _⟩ := o2.map_
   exact nk h1 (by have := H0.out.map_.lt; omega)
  ·obtain ⟨cu, h1⟩ := o2.order_at x hx
   refine nk h1 (fun e => ?_)
   rw [e, z2] at h1
   cases h1
  ·intro e1
   have h1 := o2.slot e he
   rw [e1, z2] at h1
   cases h1
  ·obtain ⟨_, h1, cu, ty, h2, h3⟩ := o2.forest.blk b hb
   refine nk h2 ?_
   obtain ⟨s, hs, hb'⟩ := List.mem_flatMap.1 hb
   have hs' : s ∈ (es.map Ent.s) ++ [t] := by
    rw [List.map_append] at hs
    rcases List.mem_append.1 hs with h4 | h4
    ·exact List.mem_append_left _ (((room_sub es).map _).subset h4)
    ·exact List.mem_append_right _ h4
   intro e1
   have h5 := HF0.out.blk b (List.mem_flatMap.2 ⟨s, hs', hb'⟩)
   omega
  ·exact ⟨b9.os.trans (n2.os.trans (n1.os.trans bW.os)), b9.tape.trans (n2.tape.trans (n1.tape.trans bW.tape)), b9.output.trans (n2.output.trans (n1.output.trans bW.output)), Nat.le_trans bW.size (Nat.le_trans n1.size (Nat.le_trans n2.size b9.size)), fun b hb hn => (b9.block b (by have := n2.size; omega) (by omega)).trans ((n2'.block b (by omega) hn).trans ((n1.block b (by omega) hn).trans (bW.block b hb)))⟩
 clear z0 z1 z2 g0 g1 k0 k1 k2 k3 HS1 HF1 o2 n2 n2' n1 l1 PP far1 KA
 go_wp2
 refine bodyPost_ret (v := zeroV) (by simp [results, Tryz.results70, go_sem, zeroV, q0, q1, q2, q3, q4, q5, q6, q7, q8]) rfl ⟨rfl, HB.out _ ?_⟩
 have h9 := below_far9 (o := 0) (Below.refl (w.heap.size + 1) w2) (Nat.le_refl _) (.int .i64 0) (.int .i64 0) (.int .i64 0) (.int .i64 0) (.int .i64 0) (.bool false) (.int .i64 0) (.bool false) (.slice none 0 0)
 exact ⟨h9.os, h9.tape, h9.output, h9.size, fun b _ hn => heap_far9 w2 (w.heap.size + 1) 0 b hn _ _ _ _ _ _ _ _ _⟩
end Go.Proofs.YtjbkgmbakjnlhaaGreatDoor
namespace Go.Proofs.YtjbkgmbakjnlhaaGreatDoor
set_option maxRecDepth 100000
open Go.RowKit
theorem mOpens (x : Value) (w : World) : Sem.run Tryz.prog (method 314 151 x "loop.example/ternfrag/impl.refused") w = .ok (140, x) w := by kernel_rfl
theorem cOpens (x : Value) (w : World) : Sem.run Tryz.prog (callFunc 140 #[x]) w = .ok (.enter 140 #[x]) w := by kernel_rfl
theorem mStays (x : Value) (w : World) : Sem.run Tryz.prog (method 314 152 x "loop.example/ternfrag/impl.refused") w = .ok (141, x) w := by kernel_rfl
theorem cStays (x : Value) (w : World) : Sem.run Tryz.prog (callFunc 141 #[x]) w = .ok (.enter 141 #[x]) w := by kernel_rfl
theorem mGrows (x : Value) (w : World) : Sem.run Tryz.prog (method 314 159 x "loop.example/ternfrag/impl.refused") w = .ok (143, x) w := by kernel_rfl
theorem cGrows (x : Value) (w : World) : Sem.run Tryz.prog (callFunc 143 #[x]) w = .ok (.enter 143 #[x]) w := by kernel_rfl
theorem mSpoils (x : Value) (w : World) : Sem.run Tryz.prog (method 314 155 x "loop.example/ternfrag/impl.refused") w = .ok (142, x) w := by kernel_rfl
theorem cSpoils (x : Value) (w : World) : Sem.run Tryz.prog (callFunc 142 #[x]) w = .ok (.enter 142 #[x]) w := by kernel_rfl
theorem mGoes (x : Value) (w : World) : Sem.run Tryz.prog (method 314 162 x "loop.example/ternfrag/impl.refused") w = .ok (144, x) w := by kernel_rfl
theorem cGoes (x : Value) (w : World) : Sem.run Tryz.prog (callFunc 144 #[x]) w = .ok (.enter 144 #[x]) w := by kernel_rfl
end Go.Proofs.YtjbkgmbakjnlhaaGreatDoor
namespace Go.Proofs.YtjbkgmbakjnlhaaGreatDoor
set_option maxRecDepth 100000
theorem bytes_len {L : List PB} : ∀ (n : Nat) (bs : List Int), bytesL L n = some bs → bs.length = n
 | 0, bs, h => by
  simp only [bytesL, Option.some.injEq] at h
  subst h
  rfl
 | n + 1, bs, h => by
  unfold bytesL at h
  cases h1 : bytesL L n with
  | none => rw [h1] at h; simp at h
  | some cs =>
   cases h2 : L.find? (fun x => hasB x n) with
   | none => rw [h1, h2] at h; simp at h
   | some x =>
    rw [h1, h2] at h
    simp only [Option.some.injEq] at h
    subst h
    rw [List.length_append, bytes_len n cs h1]
    rfl
theorem ok_parts {p : Pk} {len : Nat} (h : okB p len = true) : (0 ≤ p.src ∧ p.src ≤ 65535) ∧ (0 ≤ p.dst ∧ p.dst ≤ 65535) ∧ (1 ≤ p.kind ∧ p.kind ≤ 7) ∧ (0 ≤ p.id ∧ p.id ≤ 255) ∧ (1 ≤ p.hops ∧ p.hops ≤ 64) ∧ 0 ≤ p.off ∧ (len : Int) ≤ 128 - p.off := by
 simp only [okB, headB, offB, inB, Bool.and_eq_true, decide_eq_true_eq] at h
 omega
theorem join_parts {L : List PB} (h : (joinL L).1 = 0) : ∃ e bs, alikeL L = true ∧ endL L = some e ∧ bytesL L e.toNat = some bs ∧ joinL L = (0, (headL L, bs)) := by
 unfold joinL at h ⊢
 cases ha : alikeL L with
 | false => rw [ha] at h; simp at h
 | true =>
  rw [ha, if_pos rfl] at h
  rw [if_pos rfl]
  cases hd : disagreeL L with
  | true => rw [hd] at h; simp at h
  | false =>
   rw [hd, if_neg (by simp)] at h
   rw [if_neg (by simp)]
   cases he : endL L with
   | none => rw [he] at h; simp at h
   | some e =>
    rw [he] at h
    simp only at h ⊢
    cases hb : bytesL L e.toNat with
    | none => rw [hb] at h; simp at h
    | some bs => exact ⟨e, bs, by first | rfl | trivial, by first | rfl | trivial, by first | rfl | exact hb, by first | rfl | rw [hb]⟩
theorem end_le {L : List PB} {e : Int} (ha : alikeL L = true) (h : endL L = some e) : e.toNat ≤ 128 := by
 unfold endL at h
 cases hf : L.find? (fun x => !x.1.more) with
 | none => rw [hf] at h; simp at h
 | some x =>
  rw [hf] at h
  simp only [Option.map_some, Option.some.injEq] at h
  have hx := List.mem_of_find?_eq_some hf
  have hk := ((alikeL_iff L).1 ha).2.2 x hx x hx
  simp only [alikeB, Bool.and_eq_true] at hk
  have := ok_parts hk.1.1.1.1.1
  unfold endOf at h
  omega
theorem join_small (L : List PB) : (joinL L).2.2.length ≤ 128 := by
 by_cases h : (joinL L).1 = 0
 ·obtain ⟨e, bs, ha, he, hb, hj⟩ := join_parts h
  rw [hj, bytes_len _ _ hb]
  exact end_le ha he
 ·unfold joinL at h ⊢
  split
  ·rename_i ha
   rw [if_pos ha] at h
   split
   ·simp
   ·rename_i hd
    rw [if_neg hd] at h
    cases he : endL L with
    | none => simp
    | some e =>
     rw [he] at h
     simp only at h ⊢
     cases hb : bytesL L e.toNat with
     | none => simp
     | some bs => rw [hb] at h; simp at h
  ·simp
theorem join_many {L : List PB} (h : 40 < L.length) : joinL L = (1, (zeroPk, [])) := by
 have ha : alikeL L = false := by
  cases e : alikeL L with
  | false => rfl
  | true => have := ((alikeL_iff L).1 e).2.1; omega
 unfold joinL
 rw [ha]
 rfl
end Go.Proofs.YtjbkgmbakjnlhaaGreatDoor
