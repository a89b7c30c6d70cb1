/- told: the bench that is left when a call ends. -/
import Derived.Test.YtjbkgmbakjnlhabGreatDoorOpened
import Derived.Test.YtjbkgmbakjnlhabGreatDoorPartAd
namespace Go.Proofs.YtjbkgmbakjnlhabGreatDoor
set_option maxRecDepth 100000
open Go.RowKit

theorem put3_take {cur : Array Value} {o : Nat} {xs : List Value} (x0 x1 x2 : Value) (hs : o + 3 ≤ cur.size) (h : cur.toList.take o = xs) : (put3 cur o x0 x1 x2).toList.take (o + 3) = xs ++ [x0, x1, x2] := by
  have hl : xs.length = o := by rw [← h]; simp; omega
  refine List.ext_getElem? fun i => ?_
  rcases Nat.lt_or_ge i o with h1 | h1
  · rw [List.getElem?_take_of_lt (by omega), Array.getElem?_toList, put3_far _ _ _ (Or.inl h1), List.getElem?_append_left (by omega), ← h, List.getElem?_take_of_lt h1, Array.getElem?_toList]
  · rcases Nat.lt_or_ge i (o + 3) with h2 | h2
    · have e : i = o + (i - o) := by omega
      rw [List.getElem?_take_of_lt h2, Array.getElem?_toList, List.getElem?_append_right (by omega), hl, e, put3_at _ _ _ hs (by omega), Nat.add_sub_cancel_left]
      simp
    · rw [List.getElem?_eq_none (by simp; omega), List.getElem?_eq_none (by simp; omega)]
/-- a block of so many slots, of which the first are written -/
def FillS (w : World) (gS n : Nat) (ys : List SV) : Prop := ∃ cur : Array Value, w.heap[gS]? = some (.cells cur 71 (0, 0)) ∧ cur.size = n * 3 ∧ cur.toList.take (ys.length * 3) = ys.flatMap SV.cells
theorem FillS.kept {w w' : World} {gL n : Nat} {ys : List SV} (h : FillS w gL n ys) (hk : w'.heap[gL]? = w.heap[gL]?) : FillS w' gL n ys := by
  obtain ⟨cur, h1, h2⟩ := h
  exact ⟨cur, hk.trans h1, h2⟩
theorem FillS.lt {w : World} {gL n : Nat} {ys : List SV} (h : FillS w gL n ys) : gL < w.heap.size := by
  obtain ⟨cur, h1, _⟩ := h
  exact lt_of_block h1
theorem FillS.row {w : World} {gL n : Nat} {ys : List SV} (h : FillS w gL n ys) : RowB w 71 gL (ys.flatMap SV.cells) := by
  obtain ⟨cur, h1, _, h3⟩ := h
  exact ⟨cur, h1, by rw [flatS_len]; exact h3⟩
theorem FillS.put {w : World} {gL n : Nat} {ys : List SV} (h : FillS w gL n ys) (hn : ys.length < n) (z : SV) :
    FillS (((w.setCell ⟨gL, ys.length * 3, none⟩ (.slice z.a z.xs.length z.c)).setCell ⟨gL, ys.length * 3 + 1, none⟩ (.int .i64 z.since)).setCell ⟨gL, ys.length * 3 + 2, none⟩ (.bool z.bad)) gL n (ys ++ [z]) := by
  obtain ⟨cur, h1, h2, h3⟩ := h
  refine ⟨_, heap_put3 h1 _ _ _, by rw [put3_size]; exact h2, ?_⟩
  rw [List.length_append, List.flatMap_append, show (ys.length + [z].length) * 3 = ys.length * 3 + 3 by simp; omega, put3_take _ _ _ (by omega) h3]
  simp [SV.cells, scells]
theorem OpenB.keyCells {w : World} {lo ob mb : Nat} {ov : Value} {now : Int} {es : List Ent} (h : OpenB w lo ob mb ov now es) {k : Nat} {e : Ent} (he : es[k]? = some e) : ∃ g c, ov = .slice (some ⟨g, 0, none⟩) es.length c ∧ g < w.heap.size ∧ w.cell? ⟨g, k * 4, none⟩ = some (.int .i64 e.k.1) ∧ w.cell? ⟨g, k * 4 + 1, none⟩ = some (.int .i64 e.k.2.1) ∧ w.cell? ⟨g, k * 4 + 2, none⟩ = some (.int .i64 e.k.2.2.1) ∧ w.cell? ⟨g, k * 4 + 3, none⟩ = some (.int .i64 e.k.2.2.2) := by
  have hl := (List.getElem?_eq_some_iff.1 he).1
  rcases Joins.ownsRow_forms h.order with h1 | ⟨g, c, h1⟩
  · have := h.order.1
    rcases h.order.2 with ⟨_, hn⟩ | ⟨g, cap, cur, hv, _⟩
    · omega
    · rw [hv] at h1; cases h1.1
  · subst h1
    have hr := RowB.of_own h.order
    have e' : ∀ j v, j < 4 → (k4cells e.k)[j]? = some v → w.cell? ⟨g, k * 4 + j, none⟩ = some v := fun j v hj hv => hr.cell (by rw [flatK_at es k j e he hj]; exact hv)
    exact ⟨g, c, rfl, hr.lt, e' 0 _ (by omega) rfl, e' 1 _ (by omega) rfl, e' 2 _ (by omega) rfl, e' 3 _ (by omega) rfl⟩
theorem OpenB.ovForm {w : World} {lo ob mb : Nat} {ov : Value} {now : Int} {es : List Ent} (h : OpenB w lo ob mb ov now es) : ∃ oa c, ov = .slice oa es.length c := by
  rcases h.order.2 with ⟨e, hn⟩ | ⟨g, c, cur, e, _⟩
  · exact ⟨none, 0, by rw [e, hn]⟩
  · exact ⟨_, c, e⟩
theorem OpenB.lookup {w : World} {lo ob mb : Nat} {ov : Value} {now : Int} {es : List Ent} (h : OpenB w lo ob mb ov now es) {e : Ent} (he : e ∈ es) : ∀ u, MapIs u mb (es.map fun e => (e.k, e.b)) → (Instr.lookup 87 (.map (some mb)) (.agg #[.int .i64 e.k.1, .int .i64 e.k.2.1, .int .i64 e.k.2.2.1, .int .i64 e.k.2.2.2]) false).run Tryz.prog u = .ok (.pointer (some ⟨e.b, 0, none⟩)) u := fun u hu => by
  have h1 := lookup_k4 hu e.k
  rw [slotOf_some (List.mem_map.2 ⟨e, he, rfl⟩) (by rw [List.map_map]; exact h.keys)] at h1
  exact h1

theorem alloc_far3 (w : World) (g o k : Nat) (ob : Obj) (x0 x1 x2 : Value) (h : k ≠ g) : ((((w.setCell ⟨g, o, none⟩ x0).setCell ⟨g, o + 1, none⟩ x1).setCell ⟨g, o + 2, none⟩ x2).alloc ob).heap[k]? = (w.alloc ob).heap[k]? := by
  have hs : (((w.setCell ⟨g, o, none⟩ x0).setCell ⟨g, o + 1, none⟩ x1).setCell ⟨g, o + 2, none⟩ x2).heap.size = w.heap.size := by simp
  rcases Nat.lt_trichotomy k w.heap.size with h1 | h1 | h1
  · rw [Below.heap_alloc _ _ _ (by omega), Below.heap_alloc _ _ _ h1, heap_far3 _ _ _ _ h]
  · rw [heap_new _ _ _ (h1.trans hs.symm), heap_new _ _ _ h1]
  · rw [Array.getElem?_eq_none (by simp; omega), Array.getElem?_eq_none (by simp; omega)]
set_option maxRecDepth 100000 in
set_option maxHeartbeats 6400000 in
theorem told_any (lo ob mb : Nat) (ov : Value) (now : Int) (es : List Ent) (w : World) (h : OpenB w lo ob mb ov now es) (hl : es.length ≤ 1000) :
    Calls Tryz.prog 33 #[.pointer (some ⟨ob, 0, none⟩)] w fun e w' => ∃ gS, e = .returned (.agg #[.int .i64 now, .slice (some ⟨gS, 0, none⟩) es.length es.length]) ∧ w.heap.size ≤ gS ∧ AnsB w' lo gS (es.map Ent.s) ∧ Below w.heap.size w w' := by
  obtain ⟨i0, hi0, hz0, hz1, hz2⟩ := info_parts Tryz.infoSlot
  have hmk : ∀ W : World, (Instr.makeSlice 30 (.int .i64 (es.length : Int)) (.int .i64 (es.length : Int))).run Tryz.prog W = .ok (.slice (some ⟨W.heap.size, 0, none⟩) es.length es.length) (W.alloc (.cells (madeCells (Value.agg #[.slice none 0 0, .int .i64 0, .bool false]).cells (es.length * 3)) 71)) := fun W => by
    have h := run_make (P := Tryz.prog) W 30 71 i0 _ Tryz.underlying30 hi0 hz0 .i64 .i64 (es.length : Int) (es.length : Int) (by omega) (Int.le_refl _) (by rw [hz2]; omega) (by omega)
    rw [Int.toNat_natCast, hz1] at h
    exact h
  obtain ⟨C0, hC0⟩ : ∃ C0, madeCells (Value.agg #[.slice none 0 0, .int .i64 0, .bool false]).cells (es.length * 3) = C0 := ⟨_, rfl⟩
  have hCs : C0.size = es.length * 3 := by rw [← hC0]; exact size_madeCells _ _
  rw [hC0] at hmk
  have F0 : Hid (FillS ((w.alloc (.cells #[.int .i64 0, .slice none 0 0] 32)).alloc (.cells C0 71)) (w.heap.size + 1) es.length []) := ⟨C0, heap_new _ _ _ (by simp), hCs, by simp⟩
  have H0 : Hid (OpenB w lo ob mb ov now es) := h
  have x0 : w.cell? ⟨ob, 0, none⟩ = some (.int .i64 now) := cell_of_row _ _ _ _ _ _ h.box
  have x1 : w.cell? ⟨ob, 1, none⟩ = some ov := cell_of_row _ _ _ _ _ _ h.box
  have x2 : w.cell? ⟨ob, 2, none⟩ = some (.map (some mb)) := cell_of_row _ _ _ _ _ _ h.box
  have lob := lt_of_block h.box
  have hlow := h.low
  obtain ⟨oa, oc, hov⟩ := h.ovForm
  have HOV : Hid (ov = .slice oa es.length oc) := hov
  rw [hov] at x1
  clear h hi0 hz0 hz1 hz2 hC0 hCs hov
  go_enter Tryz.func33, Tryz.ntmps33
  go_wp2
  go_loopw [17] (fun i wr => ∃ (k : Nat), k ≤ es.length ∧ i = .int .i64 k ∧ Hid (FillS wr (w.heap.size + 1) es.length ((es.map Ent.s).take k)) ∧ Hid (Below w.heap.size w wr) ∧ Hid (wr.heap[w.heap.size]? = some (.cells #[.int .i64 0, .slice none 0 0] 32 (0, 0)))) (fun i _ => es.length - (intOf i).toNat)
  case atStart => exact ⟨0, by omega, rfl, F0.out, Joins.below_alloc2 _ _ _, (Below.heap_alloc _ _ _ (by simp)).trans (heap_new _ _ _ rfl)⟩
  case round =>
    obtain ⟨k, hk, rfl, HF, HW, HX⟩ := hrel
    have hsz := HW.out.size
    have lf := HF.out.lt
    have OR := H0.out.below HW.out
    by_cases hlt : k < es.length
    · obtain ⟨e, he⟩ := get_of_lt hlt
      have hi : (k : Int) < (es.length : Int) := by omega
      obtain ⟨gk, ck, hgk, lgk, k0, k1, k2, k3⟩ := OR.keyCells he
      rw [HOV.out] at hgk
      cases hgk
      have HE : Hid (es[k]? = some e) := he
      have LK := OR.lookup (List.mem_of_getElem? he)
      have LK : Hid (∀ u, MapIs u mb (es.map fun e => (e.k, e.b)) → (Instr.lookup 87 (.map (some mb)) (.agg #[.int .i64 e.k.1, .int .i64 e.k.2.1, .int .i64 e.k.2.2.1, .int .i64 e.k.2.2.2]) false).run Tryz.prog u = .ok (.pointer (some ⟨e.b, 0, none⟩)) u) := LK
      have HSB : Hid (wr.heap[e.b]? = some e.s.box) := OR.slot e (List.mem_of_getElem? he)
      have HMB : Hid (MapIs wr mb (es.map fun e => (e.k, e.b))) := OR.map_
      have lsb : e.b < w.heap.size := lt_of_block (H0.out.slot e (List.mem_of_getElem? he))
      have lmb : mb < w.heap.size := H0.out.map_.lt
      have y2 : wr.cell? ⟨ob, 2, none⟩ = some (.map (some mb)) := (HW.out.cell (p := ⟨ob, 2, none⟩) lob).trans x2
      obtain ⟨cur, hc, hcs, -⟩ := id HF.out
      have fz : ∀ o, wr.frozen? ⟨w.heap.size + 1, o, none⟩ = false := fun o => Joins.unfrozen_of_block hc o
      have ce : ∀ o, wr.cell? ⟨w.heap.size + 1, o, none⟩ = cur[o]? := fun o => cell_of_row _ _ _ _ _ _ hc
      obtain ⟨u0, h0⟩ := cells_there (cur := cur) (o := k * 3) (by omega)
      obtain ⟨u1, h1⟩ := cells_there (cur := cur) (o := k * 3 + 1) (by omega)
      obtain ⟨u2, h2⟩ := cells_there (cur := cur) (o := k * 3 + 2) (by omega)
      have q0 := (ce _).trans h0
      have q1 := (ce _).trans h1
      have q2 := (ce _).trans h2
      have SK : Hid (∀ W : World, (∀ b, b ≠ w.heap.size + 1 → b < (wr.alloc (.cells #[.int .i64 e.k.1, .int .i64 e.k.2.1, .int .i64 e.k.2.2.1, .int .i64 e.k.2.2.2] 93)).heap.size → W.heap[b]? = (wr.alloc (.cells #[.int .i64 e.k.1, .int .i64 e.k.2.1, .int .i64 e.k.2.2.1, .int .i64 e.k.2.2.2] 93)).heap[b]?) → (KeyAt W wr.heap.size e.k ∧ W.cell? ⟨ob, 2, none⟩ = some (.map (some mb)) ∧ MapIs W mb (es.map fun e => (e.k, e.b)) ∧ W.cell? ⟨e.b, 0, none⟩ = some (.slice e.s.a e.s.xs.length e.s.c) ∧ W.cell? ⟨e.b, 1, none⟩ = some (.int .i64 e.s.since) ∧ W.cell? ⟨e.b, 2, none⟩ = some (.bool e.s.bad))) := fun W hW => by
        have hs : (wr.alloc (.cells #[.int .i64 e.k.1, .int .i64 e.k.2.1, .int .i64 e.k.2.2.1, .int .i64 e.k.2.2.2] 93)).heap.size = wr.heap.size + 1 := by simp
        rw [hs] at hW
        have e1 : ∀ b, b < w.heap.size → W.heap[b]? = wr.heap[b]? := fun b hb => (hW b (by omega) (by omega)).trans (Below.heap_alloc _ _ _ (by omega))
        have hB : W.heap[e.b]? = some e.s.box := (e1 _ lsb).trans HSB.out
        refine ⟨KeyAt.of_block ((hW _ (by omega) (by omega)).trans (heap_new _ _ _ rfl)), ?_, HMB.out.kept (e1 _ lmb), cell_of_row _ _ _ _ _ _ hB, cell_of_row _ _ _ _ _ _ hB, cell_of_row _ _ _ _ _ _ hB⟩
        exact (World.cell?_of_block (w := wr) (a := ⟨ob, 2, none⟩) (e1 _ lob)).trans y2
      clear h0 h1 h2 ce hc hcs he OR hmk
      go_wp2
      refine wp_region_held_drew (S := fun W => (KeyAt W wr.heap.size e.k ∧ W.cell? ⟨ob, 2, none⟩ = some (.map (some mb)) ∧ MapIs W mb (es.map fun e => (e.k, e.b)) ∧ W.cell? ⟨e.b, 0, none⟩ = some (.slice e.s.a e.s.xs.length e.s.c) ∧ W.cell? ⟨e.b, 1, none⟩ = some (.int .i64 e.s.since) ∧ W.cell? ⟨e.b, 2, none⟩ = some (.bool e.s.bad))) (by kernel_rfl) (SK.out (World.drew _) (fun b _ _ => rfl)) (fun hH => ?_)
      refine take_held 0 (some 22) (.slice (some ⟨w.heap.size + 1, 0, none⟩) es.length es.length) rfl rfl (by kernel_rfl) (by kernel_rfl) (by kernel_rfl) (fun _ _ _ h => h) (by rfl) (fun w hS => by go_simp) hH ?_
      simp only [Act.put, List.setIfInBounds_toArray, List.set_cons_zero, List.set_cons_succ]
      refine take_held 1 (some 23) (.int .i64 k) rfl rfl (by kernel_rfl) (by kernel_rfl) (by kernel_rfl) (fun _ _ _ h => h) (by rfl) (fun w hS => by go_simp) hH ?_
      simp only [Act.put, List.setIfInBounds_toArray, List.set_cons_zero, List.set_cons_succ]
      refine take_held 2 (some 24) (.pointer (some ⟨ob, 0, none⟩)) rfl rfl (by kernel_rfl) (by kernel_rfl) (by kernel_rfl) (fun _ _ _ h => h) (by rfl) (fun w hS => by go_simp) hH ?_
      simp only [Act.put, List.setIfInBounds_toArray, List.set_cons_zero, List.set_cons_succ]
      refine take_held 3 (some 25) (.pointer (some ⟨ob, 0, none⟩)) rfl rfl (by kernel_rfl) (by kernel_rfl) (by kernel_rfl) (fun _ _ _ h => h) (by rfl) (fun w hS => by go_simp) hH ?_
      simp only [Act.put, List.setIfInBounds_toArray, List.set_cons_zero, List.set_cons_succ]
      refine take_held 4 (some 26) (.pointer (some ⟨ob, 2, none⟩)) rfl rfl (by kernel_rfl) (by kernel_rfl) (by kernel_rfl) (fun _ _ _ h => h) (by rfl) (fun w hS => by go_simp) hH ?_
      simp only [Act.put, List.setIfInBounds_toArray, List.set_cons_zero, List.set_cons_succ]
      refine take_held 5 (some 27) (.map (some mb)) rfl rfl (by kernel_rfl) (by kernel_rfl) (by kernel_rfl) (fun _ _ _ h => h) (by rfl) (fun w hS => by obtain ⟨⟨s0, s1, s2, s3⟩, s4, s5, s6, s7, s8⟩ := hS; go_simp) hH ?_
      simp only [Act.put, List.setIfInBounds_toArray, List.set_cons_zero, List.set_cons_succ]
      refine take_held 6 (some 28) (.agg #[.int .i64 e.k.1, .int .i64 e.k.2.1, .int .i64 e.k.2.2.1, .int .i64 e.k.2.2.2]) rfl rfl (by kernel_rfl) (by kernel_rfl) (by kernel_rfl) (fun _ _ _ h => h) (by rfl) (fun w hS => by obtain ⟨⟨s0, s1, s2, s3⟩, s4, s5, s6, s7, s8⟩ := hS; go_simp) hH ?_
      simp only [Act.put, List.setIfInBounds_toArray, List.set_cons_zero, List.set_cons_succ]
      refine take_held 7 (some 29) (.pointer (some ⟨e.b, 0, none⟩)) rfl rfl (by kernel_rfl) (by kernel_rfl) (by kernel_rfl) (fun _ _ _ h => h) (by rfl) (fun w hS => by obtain ⟨⟨s0, s1, s2, s3⟩, s4, s5, s6, s7, s8⟩ := hS; have hlk := LK.out w s5; go_simp) hH ?_
      simp only [Act.put, List.setIfInBounds_toArray, List.set_cons_zero, List.set_cons_succ]
      refine take_held 8 (some 30) (.pointer (some ⟨e.b, 0, none⟩)) rfl rfl (by kernel_rfl) (by kernel_rfl) (by kernel_rfl) (fun _ _ _ h => h) (by rfl) (fun w hS => by go_simp) hH ?_
      simp only [Act.put, List.setIfInBounds_toArray, List.set_cons_zero, List.set_cons_succ]
      refine take_held 9 (some 31) (.agg #[.slice e.s.a e.s.xs.length e.s.c, .int .i64 e.s.since, .bool e.s.bad]) rfl rfl (by kernel_rfl) (by kernel_rfl) (by kernel_rfl) (fun _ _ _ h => h) (by rfl) (fun w hS => by obtain ⟨⟨s0, s1, s2, s3⟩, s4, s5, s6, s7, s8⟩ := hS; go_simp) hH ?_
      simp only [Act.put, List.setIfInBounds_toArray, List.set_cons_zero, List.set_cons_succ]
      refine take_held 10 (some 32) (.pointer (some ⟨w.heap.size + 1, k * 3, none⟩)) rfl rfl (by kernel_rfl) (by kernel_rfl) (by kernel_rfl) (fun _ _ _ h => h) (by rfl) (fun w hS => by go_simp) hH ?_
      simp only [Act.put, List.setIfInBounds_toArray, List.set_cons_zero, List.set_cons_succ]
      refine wpAnyH_ready (rs := [11]) (by kernel_rfl) (by simp) ?_
      refine AllReadyH.cons rfl (fun K hK => ?_) AllReadyH.nil
      go_simp
      refine hK.out _ _ (SK.out _ (fun b hb _ => alloc_far3 wr (w.heap.size + 1) (k * 3) b _ _ _ _ hb)) (fun hH => ?_)
      clear hK K
      refine wpAnyH_done (by kernel_rfl) ?_ _
      have hll : ((es.map Ent.s).take k).length = k := by simp; omega
      have F1 := HF.out.put (by omega) e.s
      rw [hll] at F1
      have HB1 : Below w.heap.size w (((wr.setCell ⟨w.heap.size + 1, k * 3, none⟩ (.slice e.s.a e.s.xs.length e.s.c)).setCell ⟨w.heap.size + 1, k * 3 + 1, none⟩ (.int .i64 e.s.since)).setCell ⟨w.heap.size + 1, k * 3 + 2, none⟩ (.bool e.s.bad)) := below_far3 HW.out (by omega) _ _ _
      have HX1 : (((wr.setCell ⟨w.heap.size + 1, k * 3, none⟩ (.slice e.s.a e.s.xs.length e.s.c)).setCell ⟨w.heap.size + 1, k * 3 + 1, none⟩ (.int .i64 e.s.since)).setCell ⟨w.heap.size + 1, k * 3 + 2, none⟩ (.bool e.s.bad)).heap[w.heap.size]? = some (.cells #[.int .i64 0, .slice none 0 0] 32 (0, 0)) := (heap_far3 _ _ _ _ (by omega) _ _ _).trans HX.out
      clear hH SK q0 q1 q2 k0 k1 k2 k3 fz
      generalize ((wr.setCell ⟨w.heap.size + 1, k * 3, none⟩ (.slice e.s.a e.s.xs.length e.s.c)).setCell ⟨w.heap.size + 1, k * 3 + 1, none⟩ (.int .i64 e.s.since)).setCell ⟨w.heap.size + 1, k * 3 + 2, none⟩ (.bool e.s.bad) = w2 at F1 HB1 HX1 ⊢
      have F2 : Hid (FillS w2 (w.heap.size + 1) es.length ((es.map Ent.s).take (k + 1))) := (show FillS _ _ _ _ by rw [List.take_add_one, List.getElem?_map, HE.out]; exact F1)
      have HB2 : Hid (Below w.heap.size w w2) := HB1
      have HX2 : Hid (w2.heap[w.heap.size]? = some (.cells #[.int .i64 0, .slice none 0 0] 32 (0, 0))) := HX1
      clear F1 HB1 HX1 hll
      go_wp2
      go_roundw
      case rel => exact ⟨k + 1, by omega, by go_num, F2.out.kept (Below.heap_alloc _ _ _ F2.out.lt), (HB2.out.alloc HB2.out.size _).drew, (Below.heap_alloc _ _ _ (lt_of_block HX2.out)).trans HX2.out⟩
      case measure => simp [intOf]; omega
    · obtain rfl : k = es.length := by omega
      have FE : Hid (FillS wr (w.heap.size + 1) es.length (es.map Ent.s)) := (by have h := HF.out; rw [List.take_of_length_le (by simp)] at h; exact h)
      have y0 : wr.cell? ⟨ob, 0, none⟩ = some (.int .i64 now) := (HW.out.cell (p := ⟨ob, 0, none⟩) lob).trans x0
      have r0 : wr.cell? ⟨w.heap.size, 0, none⟩ = some (.int .i64 0) := cell_of_row _ _ _ _ _ _ HX.out
      have r1 : wr.cell? ⟨w.heap.size, 1, none⟩ = some (.slice none 0 0) := cell_of_row _ _ _ _ _ _ HX.out
      have fz : ∀ o, wr.frozen? ⟨w.heap.size, o, none⟩ = false := fun o => Joins.unfrozen_of_block HX.out o
      have HF2 : Hid (Forest wr lo (es.map Ent.s)) := OR.forest
      clear HF OR
      go_wp2
      refine bodyPost_ret (v := .agg #[.int .i64 now, .slice (some ⟨w.heap.size + 1, 0, none⟩) es.length es.length]) (by simp [results, Tryz.results33, go_sem, r0, r1]) rfl ⟨w.heap.size + 1, rfl, by omega, ⟨by omega, FE.out.row.kept ((Below.heap_setCell _ _ _ _ (by simp)).trans (Below.heap_setCell _ _ _ _ (by simp))), HF2.out.kept fun b hb => ?_⟩, Below.setCell (Below.setCell HW.out (Nat.le_refl _) _) (Nat.le_refl _) _⟩
      have hbl := (H0.out.forest.blk b hb).2.1
      exact (Below.heap_setCell _ _ _ _ (by simp only; omega)).trans (Below.heap_setCell _ _ _ _ (by simp only; omega))
end Go.Proofs.YtjbkgmbakjnlhabGreatDoor

/- Benches that are handed out. -/
namespace Go.Proofs.YtjbkgmbakjnlhabGreatDoor
set_option maxRecDepth 100000
open Go.RowKit

/-- a slot, plain: the pieces with their bytes, since, bad -/
abbrev SK := List PB × Int × Bool
/-- what a bench's slots own -/
def AnsV (w : World) (lo : Nat) (oa : Option Addr) (ts : List SV) : Prop := (oa = none ∧ ts = []) ∨ ∃ gS, oa = some ⟨gS, 0, none⟩ ∧ AnsB w lo gS ts
theorem AnsV.below {w w' : World} {lo : Nat} {oa : Option Addr} {ts : List SV} (h : AnsV w lo oa ts) (hb : Below w.heap.size w w') : AnsV w' lo oa ts := by
  rcases h with h | ⟨g, h1, h2⟩
  · exact Or.inl h
  · exact Or.inr ⟨g, h1, h2.below hb⟩
theorem AnsV.le {w : World} {lo lo' : Nat} {oa : Option Addr} {ts : List SV} (h : AnsV w lo oa ts) (hl : lo' ≤ lo) : AnsV w lo' oa ts := by
  rcases h with h | ⟨g, h1, h2⟩
  · exact Or.inl h
  · exact Or.inr ⟨g, h1, h2.le hl⟩
theorem AnsV.slq {w : World} {lo : Nat} {oa : Option Addr} {ts : List SV} (h : AnsV w lo oa ts) : SLq w oa ts := by
  rcases h with ⟨_, h⟩ | ⟨g, h1, h2⟩
  · exact Or.inl h
  · exact Or.inr ⟨g, h1, h2.sl⟩
/-- a bench that was handed out -/
structure BAns (w : World) (lo : Nat) (v : Value) (now : Int) (ks : List SK) : Prop where
  at_ : ∃ oa c ts, v = .agg #[.int .i64 now, .slice oa ts.length c] ∧ ts.map SV.key = ks ∧ ts.length ≤ 4 ∧ ts.length ≤ c ∧ c ≤ 9223372036854775807 ∧ AnsV w lo oa ts
theorem BAns.below {w w' : World} {lo : Nat} {v : Value} {now : Int} {ks : List SK} (h : BAns w lo v now ks) (hb : Below w.heap.size w w') : BAns w' lo v now ks := by
  obtain ⟨oa, c, ts, h1, h2, h3, h4, h5, h6⟩ := h.at_
  exact ⟨oa, c, ts, h1, h2, h3, h4, h5, h6.below hb⟩
theorem BAns.le {w : World} {lo lo' : Nat} {v : Value} {now : Int} {ks : List SK} (h : BAns w lo v now ks) (hl : lo' ≤ lo) : BAns w lo' v now ks := by
  obtain ⟨oa, c, ts, h1, h2, h3, h4, h5, h6⟩ := h.at_
  exact ⟨oa, c, ts, h1, h2, h3, h4, h5, h6.le hl⟩
theorem map_len {α β γ : Type} {f : α → γ} {g : β → γ} {l : List α} {l' : List β} (h : l.map f = l'.map g) : l.length = l'.length := by
  have := congrArg List.length h
  simpa using this
end Go.Proofs.YtjbkgmbakjnlhabGreatDoor

/- Lists of packets of the laws: marked. -/
namespace Go.Proofs.YtjbkgmbakjnlhabGreatDoor
set_option maxRecDepth 100000
open Go.RowKit

theorem own_gy {w : World} {gy : Nat} {zs : List Int} (hz : zs.length ≤ 1048576) (h : w.heap[gy]? = some (.cells (cellsOf zs) 5 (0, 0))) : w.ownsRow gy 5 1 (.slice (some ⟨gy, 0, none⟩) zs.length zs.length) zs.length (zs.map (.int .u8)) :=
  own_of_block (Nat.le_refl _) (by unfold maxLen; omega) h

set_option maxRecDepth 100000 in
set_option maxHeartbeats 6400000 in
theorem markFragPacketS_any (gL cl n : Nat) (ys : List RV) (w : World) (hn : ys.length = n) (hM : MB w gL n ys) (hm : n + sumLen ys ≤ 1048576) :
    Calls Tryz.prog 60 #[.slice (some ⟨gL, 0, none⟩) n cl, .int .i64 1] w fun e w' => ∃ k : Int, e = .returned (.int .i64 k) ∧ 0 ≤ k ∧ Left gL ys w w' := by
  have HM : Hid (MB w gL n ys) := hM
  clear hM
  go_enter Tryz.func60, Tryz.ntmps60
  go_wp2
  go_loopw [1, 5] (fun l i wr => ∃ (m : Nat) (kk : Int), m ≤ n ∧ i = .int .i64 m ∧ l = .int .i64 kk ∧ 0 ≤ kk ∧ kk ≤ 1 + 8 * (m : Int) + (sumLen (ys.take m) : Int) ∧ Hid (MB wr gL n ys) ∧ Hid (Left gL ys w wr)) (fun _ i _ => n - (intOf i).toNat)
  case atStart => exact ⟨0, 1, by omega, rfl, rfl, by omega, by simp [sumLen], HM.out, ⟨rfl, rfl, rfl, Nat.le_refl _, fun _ _ _ => rfl⟩⟩
  case round =>
    obtain ⟨m, kk, hmn, rfl, rfl, hk0, hk1, HB, HF⟩ := hrel
    by_cases hlt : m < n
    · obtain ⟨y, hy⟩ := get_of_lt (show m < ys.length by omega)
      have hi : (m : Int) < (n : Int) := by omega
      have hsl := sumLen_mem (List.mem_of_getElem? hy)
      have hst := sumLen_take hy
      have hle : sumLen (ys.take m) ≤ 1048576 := by
        have : sumLen (ys.take m) ≤ sumLen ys := sumLen_le ys m
        omega
      obtain ⟨cur, hc, hcs, r⟩ := HB.out.blk
      obtain ⟨gy, zs, ha, hz, hd⟩ := HB.out.each y (List.mem_of_getElem? hy)
      have r8 := r m y hy
      rw [ha] at r8
      have hgl := lt_of_block hc
      have hgy := lt_of_block hd
      have hne : gy ≠ gL := fun e => by
        rw [e, hc] at hd
        cases hd
      have HY : Hid (ys[m]? = some y) := hy
      have HA : Hid (y.a = some ⟨gy, 0, none⟩) := ha
      have HD : Hid (wr.heap[gy]? = some (.cells (cellsOf zs) 5 (0, 0))) := hd
      have HZ : Hid (zs.length = y.zs.length) := hz
      have HT : Hid (sumLen (ys.take (m + 1)) = sumLen (ys.take m) + y.zs.length) := hst
      have fz : ∀ o, wr.frozen? ⟨gL, o, none⟩ = false := fun o => Joins.unfrozen_of_block hc o
      have ce : ∀ o, wr.cell? ⟨gL, o, none⟩ = cur[o]? := fun o => cell_of_row _ _ _ _ _ _ hc
      obtain ⟨u0, h0⟩ := cells_there (cur := cur) (o := m * 9) (by omega)
      obtain ⟨u1, h1⟩ := cells_there (cur := cur) (o := m * 9 + 1) (by omega)
      obtain ⟨u2, h2⟩ := cells_there (cur := cur) (o := m * 9 + 2) (by omega)
      obtain ⟨u3, h3⟩ := cells_there (cur := cur) (o := m * 9 + 3) (by omega)
      obtain ⟨u4, h4⟩ := cells_there (cur := cur) (o := m * 9 + 4) (by omega)
      obtain ⟨u5, h5⟩ := cells_there (cur := cur) (o := m * 9 + 5) (by omega)
      obtain ⟨u6, h6⟩ := cells_there (cur := cur) (o := m * 9 + 6) (by omega)
      obtain ⟨u7, h7⟩ := cells_there (cur := cur) (o := m * 9 + 7) (by omega)
      have q0 := (ce _).trans h0
      have q1 := (ce _).trans h1
      have q2 := (ce _).trans h2
      have q3 := (ce _).trans h3
      have q4 := (ce _).trans h4
      have q5 := (ce _).trans h5
      have q6 := (ce _).trans h6
      have q7 := (ce _).trans h7
      have q8 := (ce _).trans r8
      obtain ⟨sm, hsm⟩ : ∃ sm, sumLen (ys.take m) = sm := ⟨_, rfl⟩
      rw [hsm] at hk1 hle HT
      have hyl : y.zs.length ≤ 1048576 := by omega
      clear h0 h1 h2 h3 h4 h5 h6 h7 ce hc hcs hd r r8 hy ha hz hst hsm
      go_wp2_with fail
      have M8 := HB.out.put8 (k := m) (.int .i64 kk) (.int .i64 (kk + 1)) (.int .i64 (kk + 1 + 1)) (.int .i64 (kk + 1 + 1 + 1)) (.int .i64 (kk + 1 + 1 + 1 + 1)) (.bool ((kk + 1 + 1 + 1 + 1 + 1) % 3 == 0)) (.int .i64 (kk + 1 + 1 + 1 + 1 + 1 + 1)) (.bool ((kk + 1 + 1 + 1 + 1 + 1 + 1 + 1) % 3 == 0))
      have F8 := HF.out.put8 (k := m) (.int .i64 kk) (.int .i64 (kk + 1)) (.int .i64 (kk + 1 + 1)) (.int .i64 (kk + 1 + 1 + 1)) (.int .i64 (kk + 1 + 1 + 1 + 1)) (.bool ((kk + 1 + 1 + 1 + 1 + 1) % 3 == 0)) (.int .i64 (kk + 1 + 1 + 1 + 1 + 1 + 1)) (.bool ((kk + 1 + 1 + 1 + 1 + 1 + 1 + 1) % 3 == 0))
      have D8 := (far8 wr gL (m * 9) gy hne (.int .i64 kk) (.int .i64 (kk + 1)) (.int .i64 (kk + 1 + 1)) (.int .i64 (kk + 1 + 1 + 1)) (.int .i64 (kk + 1 + 1 + 1 + 1)) (.bool ((kk + 1 + 1 + 1 + 1 + 1) % 3 == 0)) (.int .i64 (kk + 1 + 1 + 1 + 1 + 1 + 1)) (.bool ((kk + 1 + 1 + 1 + 1 + 1 + 1 + 1) % 3 == 0))).trans HD.out
      generalize ((((((((wr.setCell ⟨gL, m * 9, none⟩ (.int .i64 kk)).setCell ⟨gL, m * 9 + 1, none⟩ (.int .i64 (kk + 1))).setCell ⟨gL, m * 9 + 2, none⟩ (.int .i64 (kk + 1 + 1))).setCell ⟨gL, m * 9 + 3, none⟩ (.int .i64 (kk + 1 + 1 + 1))).setCell ⟨gL, m * 9 + 4, none⟩ (.int .i64 (kk + 1 + 1 + 1 + 1))).setCell ⟨gL, m * 9 + 5, none⟩ (.bool ((kk + 1 + 1 + 1 + 1 + 1) % 3 == 0))).setCell ⟨gL, m * 9 + 6, none⟩ (.int .i64 (kk + 1 + 1 + 1 + 1 + 1 + 1))).setCell ⟨gL, m * 9 + 7, none⟩ (.bool ((kk + 1 + 1 + 1 + 1 + 1 + 1 + 1) % 3 == 0))) = w8 at M8 F8 D8 ⊢
      have O8 := own_gy (by rw [HZ.out]; exact hyl) D8
      rw [HZ.out] at O8
      refine (markByteS_any (some ⟨gy, 0, none⟩) y.zs.length y.zs.length gy (kk + 1 + 1 + 1 + 1 + 1 + 1 + 1 + 1) zs _ HZ.out O8 (by omega) (by omega) hyl).mono ?_
      rintro e w9 ⟨rfl, o9, g9⟩
      have M9 : Hid (MB w9 gL n ys) := M8.bytes g9 o9 ⟨zs, HZ.out, D8⟩
      have F9 : Hid (Left gL ys w w9) := F8.bytes g9 (List.mem_of_getElem? HY.out) HA.out
      clear M8 F8 D8 O8 o9 g9 q0 q1 q2 q3 q4 q5 q6 q7 q8 fz
      go_wp2
      go_roundw
      case rel => exact ⟨m + 1, _, by omega, by go_num, rfl, by omega, by rw [HT.out]; omega, M9.out, F9.out⟩
      case measure => simp [intOf]; omega
    · obtain rfl : m = n := by omega
      go_wp2
      go_ret
      exact ⟨kk, rfl, hk0, HF.out⟩
end Go.Proofs.YtjbkgmbakjnlhabGreatDoor
