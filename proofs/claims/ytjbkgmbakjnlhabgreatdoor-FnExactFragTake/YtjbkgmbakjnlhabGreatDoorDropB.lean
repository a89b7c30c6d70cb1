/- drop: a slot goes. -/
import Derived.Test.YtjbkgmbakjnlhabGreatDoorPartAr
namespace Go.Proofs.YtjbkgmbakjnlhabGreatDoor
set_option maxRecDepth 100000
open Go.RowKit

theorem kflat_map (es : List Ent) : (es.flatMap fun e => k4cells e.k) = kflat (es.map Ent.k) := by
  unfold kflat
  rw [List.flatMap_map]
theorem keyed_place {es : List Ent} {k : K4} {e0 : Ent} (he : e0 ∈ es) (hk : e0.k = k) (hn : (es.map Ent.k).Nodup) : ∃ m, (es.map Ent.k)[m]? = some k ∧ (∀ i, i ≠ m → (es.map Ent.k)[i]? ≠ some k) ∧ (es.map Ent.k).eraseIdx m = (es.filter fun e => decide (e.k ≠ k)).map Ent.k ∧ (es.filter fun e => decide (e.k ≠ k)).length = es.length - 1 := by
  obtain ⟨m, hm⟩ := List.getElem?_of_mem he
  have h1 : (es.map Ent.k)[m]? = some k := by rw [List.getElem?_map, hm]; simp [hk]
  have h2 : ∀ i, i ≠ m → (es.map Ent.k)[i]? ≠ some k := fun i hi h => by
    obtain ⟨l1, e1⟩ := List.getElem?_eq_some_iff.1 h
    obtain ⟨l2, e2⟩ := List.getElem?_eq_some_iff.1 h1
    rcases Nat.lt_or_gt_of_ne hi with hlt | hlt
    · exact List.pairwise_iff_getElem.1 hn i m l1 l2 hlt (e1.trans e2.symm)
    · exact List.pairwise_iff_getElem.1 hn m i l2 l1 hlt (e2.trans e1.symm)
  have h3 : es.eraseIdx m = es.filter (fun e => decide (e.k ≠ k)) := by
    have h4 := erase_at (k := k) (L := es.map fun e => (e.k, e.b)) (j := m) (b := e0.b) (by rw [List.getElem?_map, hm]; simp [hk]) (by rw [List.map_map]; exact hn)
    have h5 : ∀ (l : List Ent) (j : Nat), (∀ i e, l[i]? = some e → (e.k = k ↔ i = j)) → l.eraseIdx j = l.filter (fun e => decide (e.k ≠ k)) := by
      intro l
      induction l with
      | nil => intro j _; simp
      | cons x r ih =>
        intro j hj
        cases j with
        | zero =>
          have hx : x.k = k := (hj 0 x rfl).2 rfl
          rw [List.eraseIdx_cons_zero, List.filter_cons, if_neg (by simp [hx])]
          symm
          rw [List.filter_eq_self]
          intro e he
          obtain ⟨i, hi⟩ := List.getElem?_of_mem he
          have := hj (i + 1) e (by simpa using hi)
          simp
          exact fun h => by have := this.1 h; omega
        | succ j =>
          have hx : x.k ≠ k := fun h => by have := (hj 0 x rfl).1 h; omega
          rw [List.eraseIdx_cons_succ, List.filter_cons, if_pos (by simp [hx]), ih j (fun i e he => ?_)]
          have := hj (i + 1) e (by simpa using he)
          exact ⟨fun h => by have := this.1 h; omega, fun h => this.2 (by omega)⟩
    refine h5 es m (fun i e hi => ⟨fun h => ?_, fun h => ?_⟩)
    · by_cases hi' : i = m
      · exact hi'
      · exact absurd (by rw [List.getElem?_map, hi]; simp [h]) (h2 i hi')
    · subst h
      rw [hm] at hi
      rw [← Option.some.inj hi]
      exact hk
  refine ⟨m, h1, h2, ?_, ?_⟩
  · rw [← h3, Go.ChangeMaps.map_eraseIdx]
  · rw [← h3, List.length_eraseIdx, if_pos (List.getElem?_eq_some_iff.1 hm).1]
set_option maxRecDepth 100000 in
set_option maxHeartbeats 6400000 in
theorem drop_any (lo ob mb : Nat) (ov : Value) (now : Int) (es : List Ent) (k : K4) (e0 : Ent) (w : World) (h : OpenB w lo ob mb ov now es) (he : e0 ∈ es) (hk : e0.k = k) (hl : es.length ≤ 1000) :
    Calls Tryz.prog 63 #[.pointer (some ⟨ob, 0, none⟩), kval k] w fun e w' => ∃ ov', e = .returned (.tuple #[]) ∧ OpenB w' lo ob mb ov' now (es.filter fun e => decide (e.k ≠ k)) ∧ Only (OPart ob mb ov) w w' ∧ (∀ b, ov'.ownBlock = some b → ov.ownBlock = some b) := by
  obtain ⟨m, hm1, hm2, hm3, hm4⟩ := keyed_place he hk h.keys
  have hpos : 0 < es.length := List.length_pos_of_mem he
  obtain ⟨i0, hi0⟩ := get_of_lt hpos
  obtain ⟨g, c, hov, lg, -⟩ := h.keyCells hi0
  subst hov
  have lb := lt_of_block h.box
  have H0 : Hid (OpenB w lo ob mb (.slice (some ⟨g, 0, none⟩) es.length c) now es) := h
  have x0 : w.cell? ⟨ob, 0, none⟩ = some (.int .i64 now) := cell_of_row _ _ _ _ _ _ h.box
  have x1 : w.cell? ⟨ob, 1, none⟩ = some (.slice (some ⟨g, 0, none⟩) es.length c) := cell_of_row _ _ _ _ _ _ h.box
  have x2 : w.cell? ⟨ob, 2, none⟩ = some (.map (some mb)) := cell_of_row _ _ _ _ _ _ h.box
  have HL4 : Hid ((es.filter fun e => decide (e.k ≠ k)).length = es.length - 1) := hm4
  have gob : ob ≠ g := fun e => by
    obtain ⟨cu, hc⟩ := h.order_at g rfl
    rw [← e, h.box] at hc
    cases hc
  have KD : Hid (∀ W : World, Below w.heap.size w W → KeyAt W w.heap.size k → Calls Tryz.prog 88 #[.slice (some ⟨g, 0, none⟩) es.length c, .func (.func 89) #[] #[.pointer (some ⟨w.heap.size, 0, none⟩)]] W fun e w' => e = .returned (.slice (some ⟨g, 0, none⟩) (es.length - 1) c) ∧ w'.ownsRow lo 93 4 (.slice (some ⟨g, 0, none⟩) (es.length - 1) c) (es.length - 1) (kflat ((es.filter fun e => decide (e.k ≠ k)).map Ent.k)) ∧ Only (fun b => b = g) W w') := fun W hW hkW => by
    have ho := own_below h.order hW
    rw [kflat_map] at ho
    have h1 := deleteFunc_any lo g c w.heap.size k (es.map Ent.k) m es.length W (by simp) ho hkW (by omega) hl hm1 hm2
    rw [hm3] at h1
    exact h1
  clear h hi0 hm1 hm2 hm3 hm4
  unfold kval
  go_enter Tryz.func63, Tryz.ntmps63
  go_wp2_with fail
  refine (KD.out _ (Joins.below_alloc1 _ _) (KeyAt.of_block (heap_new w _ _ rfl))).mono ?_
  rintro e w1 ⟨rfl, o1, on1⟩
  clear KD
  have hs1 := on1.size
  have kb1 : KeyAt w1 w.heap.size k := (KeyAt.of_block (heap_new w (.cells #[.int .i64 k.1, .int .i64 k.2.1, .int .i64 k.2.2.1, .int .i64 k.2.2.2] 93) _ rfl)).kept (on1.block _ (by simp) (by omega))
  have bk1 : ∀ b, b < w.heap.size → b ≠ g → w1.heap[b]? = w.heap[b]? := fun b hb hn => (on1.block b (by simp; omega) hn).trans (Below.heap_alloc _ _ _ hb)
  have box1 : w1.heap[ob]? = some (.cells #[.int .i64 now, .slice (some ⟨g, 0, none⟩) es.length c, .map (some mb)] 90 (0, 0)) := (bk1 _ lb gob).trans H0.out.box
  have y0 : w1.cell? ⟨ob, 0, none⟩ = some (.int .i64 now) := cell_of_row _ _ _ _ _ _ box1
  have y1 : w1.cell? ⟨ob, 1, none⟩ = some (.slice (some ⟨g, 0, none⟩) es.length c) := cell_of_row _ _ _ _ _ _ box1
  have y2 : w1.cell? ⟨ob, 2, none⟩ = some (.map (some mb)) := cell_of_row _ _ _ _ _ _ box1
  have fz1 : ∀ o, w1.frozen? ⟨ob, o, none⟩ = false := fun o => Joins.unfrozen_of_block box1 o
  have o2 := own_kept o1 (w' := w1.setCell ⟨ob, 1, none⟩ (.slice (some ⟨g, 0, none⟩) (es.length - 1) c)) (fun b hb => by cases hb; exact Below.heap_setCell _ _ _ _ (fun e => gob e.symm))
  have on2 : Only (OPart ob mb (.slice (some ⟨g, 0, none⟩) es.length c)) w (w1.setCell ⟨ob, 1, none⟩ (.slice (some ⟨g, 0, none⟩) (es.length - 1) c)) := Only.set (P := OPart ob mb (.slice (some ⟨g, 0, none⟩) es.length c)) (a := ⟨ob, 1, none⟩) ((Only.of_below (Joins.below_alloc1 _ _)).trans (on1.mono fun b hb => Or.inr (Or.inr (by rw [hb]; rfl)))) (Or.inl rfl) _
  have bk2 : ∀ b, b < w.heap.size → b ≠ g → b ≠ ob → (w1.setCell ⟨ob, 1, none⟩ (.slice (some ⟨g, 0, none⟩) (es.length - 1) c)).heap[b]? = w.heap[b]? := fun b hb hn hn' => (Below.heap_setCell _ _ _ _ hn').trans (bk1 b hb hn)
  have kb2 : KeyAt (w1.setCell ⟨ob, 1, none⟩ (.slice (some ⟨g, 0, none⟩) (es.length - 1) c)) w.heap.size k := kb1.kept (Below.heap_setCell _ _ _ _ (by simp only; omega))
  have box2 : (w1.setCell ⟨ob, 1, none⟩ (.slice (some ⟨g, 0, none⟩) (es.length - 1) c)).heap[ob]? = some (.cells #[.int .i64 now, .slice (some ⟨g, 0, none⟩) (es.length - 1) c, .map (some mb)] 90 (0, 0)) := by rw [set_at box1]; rfl
  go_wp2
  generalize w1.setCell ⟨ob, 1, none⟩ (.slice (some ⟨g, 0, none⟩) (es.length - 1) c) = w2 at o2 on2 bk2 kb2 box2 ⊢
  clear o1 on1 hs1 kb1 bk1 box1 y0 y1 y2 fz1
  have nc : ∀ {b : Nat} {cu : Array Value} {t' : TypeId}, w.heap[b]? = some (.cells cu t' (0, 0)) → t' ≠ 93 → t' ≠ 90 → w2.heap[b]? = w.heap[b]? := fun {b cu t'} hb hn hn' => bk2 b (lt_of_block hb) (fun e => by
    obtain ⟨cu', hc⟩ := H0.out.order_at g rfl
    rw [e, hc] at hb
    cases hb
    exact hn rfl) (fun e => by
    rw [e, H0.out.box] at hb
    cases hb
    exact hn' rfl)
  have mp2 : MapIs w2 mb (es.map fun e => (e.k, e.b)) := H0.out.map_.kept (bk2 mb H0.out.map_.lt (fun e => by
    obtain ⟨cu', hc⟩ := H0.out.order_at g rfl
    exact H0.out.map_.ne_cells hc e) (H0.out.map_.ne_cells H0.out.box))
  obtain ⟨w3, hdel, hm3, hg3⟩ := delete_k4 (w := w2.drew) mp2 (by rw [List.map_map]; exact H0.out.keys) k 0
  have x2' : w2.cell? ⟨ob, 2, none⟩ = some (.map (some mb)) := cell_of_row _ _ _ _ _ _ box2
  have nc3 : ∀ {b : Nat} {cu : Array Value} {t' : TypeId}, w2.heap[b]? = some (.cells cu t' (0, 0)) → w3.heap[b]? = w2.heap[b]? := fun {b cu t'} hb => hg3.block b (lt_of_block hb) (fun e => mp2.ne_cells hb (Option.some.inj e).symm)
  have on3 : Only (OPart ob mb (.slice (some ⟨g, 0, none⟩) es.length c)) w w3 := on2.trans ⟨hg3.os, hg3.tape, hg3.output, hg3.size, fun b hb hn => hg3.block b hb (fun e => hn (Or.inr (Or.inl (Option.some.inj e))))⟩
  have O3 : OpenB w3 lo ob mb (.slice (some ⟨g, 0, none⟩) (es.length - 1) c) now (es.filter fun e => decide (e.k ≠ k)) := by
    have sub : ∀ e ∈ es.filter (fun e => decide (e.k ≠ k)), e ∈ es := fun e he => (List.mem_filter.1 he).1
    refine ⟨(nc3 box2).trans box2, ?_, ?_, ?_, fun e he => ?_, ?_, ?_, H0.out.lob, H0.out.lmb, fun e he => H0.out.lsb e (sub e he)⟩
    · rw [HL4.out, kflat_map]
      refine own_kept o2 fun b hb => ?_
      cases hb
      rcases o2.2 with ⟨e, _⟩ | ⟨g', cap, cur, e, _, hh, _⟩
      · cases e
      · cases e
        exact nc3 hh
    · rw [List.filter_map] at hm3
      exact hm3
    · exact H0.out.keys.sublist (List.Sublist.map _ List.filter_sublist)
    · have hs := (nc (H0.out.slot e (sub e he)) (by decide) (by decide)).trans (H0.out.slot e (sub e he))
      exact (nc3 hs).trans hs
    · exact H0.out.sbs.sublist (List.Sublist.map _ List.filter_sublist)
    · refine (H0.out.forest.kept fun b hb => ?_).sub (List.Sublist.map _ List.filter_sublist)
      obtain ⟨_, _, cu, t', hc, ht'⟩ := H0.out.forest.blk b hb
      have h2 : w2.heap[b]? = w.heap[b]? := by
        rcases ht' with rfl | rfl
        · exact nc hc (by decide) (by decide)
        · exact nc hc (by decide) (by decide)
      exact (nc3 (h2.trans hc)).trans h2
  have kb3 : KeyAt w3 w.heap.size k ∧ w3.cell? ⟨ob, 2, none⟩ = some (.map (some mb)) := by
    have hlk : w.heap.size < w2.heap.size := World.block_lt_of_cell? w2 _ kb2.1
    refine ⟨kb2.kept (hg3.block _ hlk (fun e => ?_)), ?_⟩
    · have := H0.out.map_.lt
      have := Option.some.inj e
      omega
    · exact cell_of_row _ _ _ _ _ _ ((nc3 box2).trans box2)
  have OH : Hid (OpenB w3 lo ob mb (.slice (some ⟨g, 0, none⟩) (es.length - 1) c) now (es.filter fun e => decide (e.k ≠ k))) := O3
  have NH : Hid (Only (OPart ob mb (.slice (some ⟨g, 0, none⟩) es.length c)) w w3) := on3
  have SH : Hid (KeyAt w3 w.heap.size k ∧ w3.cell? ⟨ob, 2, none⟩ = some (.map (some mb))) := kb3
  have S2 : Hid (KeyAt w2 w.heap.size k) := kb2
  unfold kval at hdel
  clear o2 on2 bk2 kb2 box2 nc mp2 nc3 on3 O3 kb3 hm3 hg3 x0 x1 x2
  refine wp_region_held_drew (S := fun u => KeyAt u w.heap.size k ∧ u.cell? ⟨ob, 2, none⟩ = some (.map (some mb))) (by kernel_rfl) ⟨S2.out, x2'⟩ (fun hH => ?_)
  refine take_held 0 (some 13) (.pointer (some ⟨ob, 0, none⟩)) rfl rfl (by kernel_rfl) (by kernel_rfl) (by kernel_rfl) (fun _ _ _ h => h) (by rfl) (fun w hS => by go_simp) hH ?_
  simp only [Act.put, List.setIfInBounds_toArray, List.set_cons_zero, List.set_cons_succ]
  refine take_held 1 (some 14) (.pointer (some ⟨ob, 0, none⟩)) rfl rfl (by kernel_rfl) (by kernel_rfl) (by kernel_rfl) (fun _ _ _ h => h) (by rfl) (fun w hS => by go_simp) hH ?_
  simp only [Act.put, List.setIfInBounds_toArray, List.set_cons_zero, List.set_cons_succ]
  refine take_held 2 (some 15) (.pointer (some ⟨ob, 2, none⟩)) rfl rfl (by kernel_rfl) (by kernel_rfl) (by kernel_rfl) (fun _ _ _ h => h) (by rfl) (fun w hS => by go_simp) hH ?_
  simp only [Act.put, List.setIfInBounds_toArray, List.set_cons_zero, List.set_cons_succ]
  refine take_held 3 (some 16) (.map (some mb)) rfl rfl (by kernel_rfl) (by kernel_rfl) (by kernel_rfl) (fun _ _ _ h => h) (by rfl) (fun w hS => by obtain ⟨⟨s0, s1, s2, s3⟩, s4⟩ := hS; go_simp) hH ?_
  simp only [Act.put, List.setIfInBounds_toArray, List.set_cons_zero, List.set_cons_succ]
  refine take_held 4 (some 17) (.agg #[.int .i64 k.1, .int .i64 k.2.1, .int .i64 k.2.2.1, .int .i64 k.2.2.2]) rfl rfl (by kernel_rfl) (by kernel_rfl) (by kernel_rfl) (fun _ _ _ h => h) (by rfl) (fun w hS => by obtain ⟨⟨s0, s1, s2, s3⟩, s4⟩ := hS; go_simp) hH ?_
  simp only [Act.put, List.setIfInBounds_toArray, List.set_cons_zero, List.set_cons_succ]
  refine wpAnyH_ready (rs := [5]) (by kernel_rfl) (by simp) ?_
  refine AllReadyH.cons rfl (fun K hK => ?_) AllReadyH.nil
  go_simp
  refine hK.out _ _ SH.out (fun hH => ?_)
  clear hK K
  refine wpAnyH_done (by kernel_rfl) ?_ _
  clear hdel hH x2'
  go_wp2
  refine bodyPost_end (results_none rfl _ _ _) rfl ?_
  exact ⟨_, rfl, OH.out, NH.out, fun b hb => hb⟩
end Go.Proofs.YtjbkgmbakjnlhabGreatDoor
