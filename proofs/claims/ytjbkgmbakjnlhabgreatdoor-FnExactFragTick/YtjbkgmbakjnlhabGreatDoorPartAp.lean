/- told: the bench that is left when a call ends. -/
import Derived.Test.YtjbkgmbakjnlhabGreatDoorOpened
import Derived.Laws.Rows
namespace Go.Proofs.YtjbkgmbakjnlhabGreatDoor
set_option maxRecDepth 100000
open Go.RowKit

theorem put3_take {cur : Array Value} {o : Nat} {xs : List Value} (x0 x1 x2 : Value) (hs : o + 3 ≤ cur.size) (h : cur.toList.take o = xs) : (put3 cur o x0 x1 x2).toList.take (o + 3) = xs ++ [x0, x1, x2] := by
  have hl : xs.length = o := by rw [← h]; simp; omega
  refine List.ext_getElem? fun i => ?_
  rcases Nat.lt_or_ge i o with h1 | h1
  · rw [List.getElem?_take_of_lt (by omega), Array.getElem?_toList, put3_far _ _ _ (Or.inl h1), List.getElem?_append_left (by omega), ← h, List.getElem?_take_of_lt h1, Array.getElem?_toList]
  · rcases Nat.lt_or_ge i (o + 3) with h2 | h2
    · have e : i = o + (i - o) := by omega
      rw [List.getElem?_take_of_lt h2, Array.getElem?_toList, List.getElem?_append_right (by omega), hl, e, put3_at _ _ _ hs (by omega), Nat.add_sub_cancel_left]
      simp
    · rw [List.getElem?_eq_none (by simp; omega), List.getElem?_eq_none (by simp; omega)]
/-- a block of so many slots, of which the first are written -/
def FillS (w : World) (gS n : Nat) (ys : List SV) : Prop := ∃ cur : Array Value, w.heap[gS]? = some (.cells cur 71 (0, 0)) ∧ cur.size = n * 3 ∧ cur.toList.take (ys.length * 3) = ys.flatMap SV.cells
theorem FillS.kept {w w' : World} {gL n : Nat} {ys : List SV} (h : FillS w gL n ys) (hk : w'.heap[gL]? = w.heap[gL]?) : FillS w' gL n ys := by
  obtain ⟨cur, h1, h2⟩ := h
  exact ⟨cur, hk.trans h1, h2⟩
theorem FillS.lt {w : World} {gL n : Nat} {ys : List SV} (h : FillS w gL n ys) : gL < w.heap.size := by
  obtain ⟨cur, h1, _⟩ := h
  exact lt_of_block h1
theorem FillS.row {w : World} {gL n : Nat} {ys : List SV} (h : FillS w gL n ys) : RowB w 71 gL (ys.flatMap SV.cells) := by
  obtain ⟨cur, h1, _, h3⟩ := h
  exact ⟨cur, h1, by rw [flatS_len]; exact h3⟩
theorem FillS.put {w : World} {gL n : Nat} {ys : List SV} (h : FillS w gL n ys) (hn : ys.length < n) (z : SV) :
    FillS (((w.setCell ⟨gL, ys.length * 3, none⟩ (.slice z.a z.xs.length z.c)).setCell ⟨gL, ys.length * 3 + 1, none⟩ (.int .i64 z.since)).setCell ⟨gL, ys.length * 3 + 2, none⟩ (.bool z.bad)) gL n (ys ++ [z]) := by
  obtain ⟨cur, h1, h2, h3⟩ := h
  refine ⟨_, heap_put3 h1 _ _ _, by rw [put3_size]; exact h2, ?_⟩
  rw [List.length_append, List.flatMap_append, show (ys.length + [z].length) * 3 = ys.length * 3 + 3 by simp; omega, put3_take _ _ _ (by omega) h3]
  simp [SV.cells, scells]
theorem OpenB.keyCells {w : World} {lo ob mb : Nat} {ov : Value} {now : Int} {es : List Ent} (h : OpenB w lo ob mb ov now es) {k : Nat} {e : Ent} (he : es[k]? = some e) : ∃ g c, ov = .slice (some ⟨g, 0, none⟩) es.length c ∧ g < w.heap.size ∧ w.cell? ⟨g, k * 4, none⟩ = some (.int .i64 e.k.1) ∧ w.cell? ⟨g, k * 4 + 1, none⟩ = some (.int .i64 e.k.2.1) ∧ w.cell? ⟨g, k * 4 + 2, none⟩ = some (.int .i64 e.k.2.2.1) ∧ w.cell? ⟨g, k * 4 + 3, none⟩ = some (.int .i64 e.k.2.2.2) := by
  have hl := (List.getElem?_eq_some_iff.1 he).1
  rcases Joins.ownsRow_forms h.order with h1 | ⟨g, c, h1⟩
  · have := h.order.1
    rcases h.order.2 with ⟨_, hn⟩ | ⟨g, cap, cur, hv, _⟩
    · omega
    · rw [hv] at h1; cases h1.1
  · subst h1
    have hr := RowB.of_own h.order
    have e' : ∀ j v, j < 4 → (k4cells e.k)[j]? = some v → w.cell? ⟨g, k * 4 + j, none⟩ = some v := fun j v hj hv => hr.cell (by rw [flatK_at es k j e he hj]; exact hv)
    exact ⟨g, c, rfl, hr.lt, e' 0 _ (by omega) rfl, e' 1 _ (by omega) rfl, e' 2 _ (by omega) rfl, e' 3 _ (by omega) rfl⟩
theorem OpenB.ovForm {w : World} {lo ob mb : Nat} {ov : Value} {now : Int} {es : List Ent} (h : OpenB w lo ob mb ov now es) : ∃ oa c, ov = .slice oa es.length c := by
  rcases h.order.2 with ⟨e, hn⟩ | ⟨g, c, cur, e, _⟩
  · exact ⟨none, 0, by rw [e, hn]⟩
  · exact ⟨_, c, e⟩
theorem OpenB.lookup {w : World} {lo ob mb : Nat} {ov : Value} {now : Int} {es : List Ent} (h : OpenB w lo ob mb ov now es) {e : Ent} (he : e ∈ es) : ∀ u, MapIs u mb (es.map fun e => (e.k, e.b)) → (Instr.lookup 87 (.map (some mb)) (.agg #[.int .i64 e.k.1, .int .i64 e.k.2.1, .int .i64 e.k.2.2.1, .int .i64 e.k.2.2.2]) false).run Tryz.prog u = .ok (.pointer (some ⟨e.b, 0, none⟩)) u := fun u hu => by
  have h1 := lookup_k4 hu e.k
  rw [slotOf_some (List.mem_map.2 ⟨e, he, rfl⟩) (by rw [List.map_map]; exact h.keys)] at h1
  exact h1

theorem alloc_far3 (w : World) (g o k : Nat) (ob : Obj) (x0 x1 x2 : Value) (h : k ≠ g) : ((((w.setCell ⟨g, o, none⟩ x0).setCell ⟨g, o + 1, none⟩ x1).setCell ⟨g, o + 2, none⟩ x2).alloc ob).heap[k]? = (w.alloc ob).heap[k]? := by
  have hs : (((w.setCell ⟨g, o, none⟩ x0).setCell ⟨g, o + 1, none⟩ x1).setCell ⟨g, o + 2, none⟩ x2).heap.size = w.heap.size := by simp
  rcases Nat.lt_trichotomy k w.heap.size with h1 | h1 | h1
  · rw [Below.heap_alloc _ _ _ (by omega), Below.heap_alloc _ _ _ h1, heap_far3 _ _ _ _ h]
  · rw [heap_new _ _ _ (h1.trans hs.symm), heap_new _ _ _ h1]
  · rw [Array.getElem?_eq_none (by simp; omega), Array.getElem?_eq_none (by simp; omega)]
set_option maxRecDepth 100000 in
set_option maxHeartbeats 6400000 in
theorem told_any (lo ob mb : Nat) (ov : Value) (now : Int) (es : List Ent) (w : World) (h : OpenB w lo ob mb ov now es) (hl : es.length ≤ 1000) :
    Calls Tryz.prog 33 #[.pointer (some ⟨ob, 0, none⟩)] w fun e w' => ∃ gS, e = .returned (.agg #[.int .i64 now, .slice (some ⟨gS, 0, none⟩) es.length es.length]) ∧ w.heap.size ≤ gS ∧ AnsB w' lo gS (es.map Ent.s) ∧ Below w.heap.size w w' := by
  obtain ⟨i0, hi0, hz0, hz1, hz2⟩ := info_parts Tryz.infoSlot
  have hmk : ∀ W : World, (Instr.makeSlice 30 (.int .i64 (es.length : Int)) (.int .i64 (es.length : Int))).run Tryz.prog W = .ok (.slice (some ⟨W.heap.size, 0, none⟩) es.length es.length) (W.alloc (.cells (madeCells (Value.agg #[.slice none 0 0, .int .i64 0, .bool false]).cells (es.length * 3)) 71)) := fun W => by
    have h := run_make (P := Tryz.prog) W 30 71 i0 _ Tryz.underlying30 hi0 hz0 .i64 .i64 (es.length : Int) (es.length : Int) (by omega) (Int.le_refl _) (by rw [hz2]; omega) (by omega)
    rw [Int.toNat_natCast, hz1] at h
    exact h
  obtain ⟨C0, hC0⟩ : ∃ C0, madeCells (Value.agg #[.slice none 0 0, .int .i64 0, .bool false]).cells (es.length * 3) = C0 := ⟨_, rfl⟩
  have hCs : C0.size = es.length * 3 := by rw [← hC0]; exact size_madeCells _ _
  rw [hC0] at hmk
  have F0 : Hid (FillS ((w.alloc (.cells #[.int .i64 0, .slice none 0 0] 32)).alloc (.cells C0 71)) (w.heap.size + 1) es.length []) := ⟨C0, heap_new _ _ _ (by simp), hCs, by simp⟩
  have H0 : Hid (OpenB w lo ob mb ov now es) := h
  have x0 : w.cell? ⟨ob, 0, none⟩ = some (.int .i64 now) := cell_of_row _ _ _ _ _ _ h.box
  have x1 : w.cell? ⟨ob, 1, none⟩ = some ov := cell_of_row _ _ _ _ _ _ h.box
  have x2 : w.cell? ⟨ob, 2, none⟩ = some (.map (some mb)) := cell_of_row _ _ _ _ _ _ h.box
  have lob := lt_of_block h.box
  have hlow := h.low
  obtain ⟨oa, oc, hov⟩ := h.ovForm
  have HOV : Hid (ov = .slice oa es.length oc) := hov
  rw [hov] at x1
  clear h hi0 hz0 hz1 hz2 hC0 hCs hov
  go_enter Tryz.func33, Tryz.ntmps33
  go_wp2
  go_loopw [17] (fun i wr => ∃ (k : Nat), k ≤ es.length ∧ i = .int .i64 k ∧ Hid (FillS wr (w.heap.size + 1) es.length ((es.map Ent.s).take k)) ∧ Hid (Below w.heap.size w wr) ∧ Hid (wr.heap[w.heap.size]? = some (.cells #[.int .i64 0, .slice none 0 0] 32 (0, 0)))) (fun i _ => es.length - (intOf i).toNat)
  case atStart => exact ⟨0, by omega, rfl, F0.out, Joins.below_alloc2 _ _ _, (Below.heap_alloc _ _ _ (by simp)).trans (heap_new _ _ _ rfl)⟩
  case round =>
    obtain ⟨k, hk, rfl, HF, HW, HX⟩ := hrel
    have hsz := HW.out.size
    have lf := HF.out.lt
    have OR := H0.out.below HW.out
    by_cases hlt : k < es.length
    · obtain ⟨e, he⟩ := get_of_lt hlt
      have hi : (k : Int) < (es.length : Int) := by omega
      obtain ⟨gk, ck, hgk, lgk, k0, k1, k2, k3⟩ := OR.keyCells he
      rw [HOV.out] at hgk
      cases hgk
      have HE : Hid (es[k]? = some e) := he
      have LK := OR.lookup (List.mem_of_getElem? he)
      have LK : Hid (∀ u, MapIs u mb (es.map fun e => (e.k, e.b)) → (Instr.lookup 87 (.map (some mb)) (.agg #[.int .i64 e.k.1, .int .i64 e.k.2.1, .int .i64 e.k.2.2.1, .int .i64 e.k.2.2.2]) false).run Tryz.prog u = .ok (.pointer (some ⟨e.b, 0, none⟩)) u) := LK
      have HSB : Hid (wr.heap[e.b]? = some e.s.box) := OR.slot e (List.mem_of_getElem? he)
      have HMB : Hid (MapIs wr mb (es.map fun e => (e.k, e.b))) := OR.map_
      have lsb : e.b < w.heap.size := lt_of_block (H0.out.slot e (List.mem_of_getElem? he))
      have lmb : mb < w.heap.size := H0.out.map_.lt
      have y2 : wr.cell? ⟨ob, 2, none⟩ = some (.map (some mb)) := (HW.out.cell (p := ⟨ob, 2, none⟩) lob).trans x2
      obtain ⟨cur, hc, hcs, -⟩ := id HF.out
      have fz : ∀ o, wr.frozen? ⟨w.heap.size + 1, o, none⟩ = false := fun o => Joins.unfrozen_of_block hc o
      have ce : ∀ o, wr.cell? ⟨w.heap.size + 1, o, none⟩ = cur[o]? := fun o => cell_of_row _ _ _ _ _ _ hc
      obtain ⟨u0, h0⟩ := cells_there (cur := cur) (o := k * 3) (by omega)
      obtain ⟨u1, h1⟩ := cells_there (cur := cur) (o := k * 3 + 1) (by omega)
      obtain ⟨u2, h2⟩ := cells_there (cur := cur) (o := k * 3 + 2) (by omega)
      have q0 := (ce _).trans h0
      have q1 := (ce _).trans h1
      have q2 := (ce _).trans h2
      have SK : Hid (∀ W : World, (∀ b, b ≠ w.heap.size + 1 → b < (wr.alloc (.cells #[.int .i64 e.k.1, .int .i64 e.k.2.1, .int .i64 e.k.2.2.1, .int .i64 e.k.2.2.2] 93)).heap.size → W.heap[b]? = (wr.alloc (.cells #[.int .i64 e.k.1, .int .i64 e.k.2.1, .int .i64 e.k.2.2.1, .int .i64 e.k.2.2.2] 93)).heap[b]?) → (KeyAt W wr.heap.size e.k ∧ W.cell? ⟨ob, 2, none⟩ = some (.map (some mb)) ∧ MapIs W mb (es.map fun e => (e.k, e.b)) ∧ W.cell? ⟨e.b, 0, none⟩ = some (.slice e.s.a e.s.xs.length e.s.c) ∧ W.cell? ⟨e.b, 1, none⟩ = some (.int .i64 e.s.since) ∧ W.cell? ⟨e.b, 2, none⟩ = some (.bool e.s.bad))) := fun W hW => by
        have hs : (wr.alloc (.cells #[.int .i64 e.k.1, .int .i64 e.k.2.1, .int .i64 e.k.2.2.1, .int .i64 e.k.2.2.2] 93)).heap.size = wr.heap.size + 1 := by simp
        rw [hs] at hW
        have e1 : ∀ b, b < w.heap.size → W.heap[b]? = wr.heap[b]? := fun b hb => (hW b (by omega) (by omega)).trans (Below.heap_alloc _ _ _ (by omega))
        have hB : W.heap[e.b]? = some e.s.box := (e1 _ lsb).trans HSB.out
        refine ⟨KeyAt.of_block ((hW _ (by omega) (by omega)).trans (heap_new _ _ _ rfl)), ?_, HMB.out.kept (e1 _ lmb), cell_of_row _ _ _ _ _ _ hB, cell_of_row _ _ _ _ _ _ hB, cell_of_row _ _ _ _ _ _ hB⟩
        exact (World.cell?_of_block (w := wr) (a := ⟨ob, 2, none⟩) (e1 _ lob)).trans y2
      clear h0 h1 h2 ce hc hcs he OR hmk
      go_wp2
      refine wp_region_held_drew (S := fun W => (KeyAt W wr.heap.size e.k ∧ W.cell? ⟨ob, 2, none⟩ = some (.map (some mb)) ∧ MapIs W mb (es.map fun e => (e.k, e.b)) ∧ W.cell? ⟨e.b, 0, none⟩ = some (.slice e.s.a e.s.xs.length e.s.c) ∧ W.cell? ⟨e.b, 1, none⟩ = some (.int .i64 e.s.since) ∧ W.cell? ⟨e.b, 2, none⟩ = some (.bool e.s.bad))) (by kernel_rfl) (SK.out (World.drew _) (fun b _ _ => rfl)) (fun hH => ?_)
      refine take_held 0 (some 22) (.slice (some ⟨w.heap.size + 1, 0, none⟩) es.length es.length) rfl rfl (by kernel_rfl) (by kernel_rfl) (by kernel_rfl) (fun _ _ _ h => h) (by rfl) (fun w hS => by go_simp) hH ?_
      simp only [Act.put, List.setIfInBounds_toArray, List.set_cons_zero, List.set_cons_succ]
      refine take_held 1 (some 23) (.int .i64 k) rfl rfl (by kernel_rfl) (by kernel_rfl) (by kernel_rfl) (fun _ _ _ h => h) (by rfl) (fun w hS => by go_simp) hH ?_
      simp only [Act.put, List.setIfInBounds_toArray, List.set_cons_zero, List.set_cons_succ]
      refine take_held 2 (some 24) (.pointer (some ⟨ob, 0, none⟩)) rfl rfl (by kernel_rfl) (by kernel_rfl) (by kernel_rfl) (fun _ _ _ h => h) (by rfl) (fun w hS => by go_simp) hH ?_
      simp only [Act.put, List.setIfInBounds_toArray, List.set_cons_zero, List.set_cons_succ]
      refine take_held 3 (some 25) (.pointer (some ⟨ob, 0, none⟩)) rfl rfl (by kernel_rfl) (by kernel_rfl) (by kernel_rfl) (fun _ _ _ h => h) (by rfl) (fun w hS => by go_simp) hH ?_
      simp only [Act.put, List.setIfInBounds_toArray, List.set_cons_zero, List.set_cons_succ]
      refine take_held 4 (some 26) (.pointer (some ⟨ob, 2, none⟩)) rfl rfl (by kernel_rfl) (by kernel_rfl) (by kernel_rfl) (fun _ _ _ h => h) (by rfl) (fun w hS => by go_simp) hH ?_
      simp only [Act.put, List.setIfInBounds_toArray, List.set_cons_zero, List.set_cons_succ]
      refine take_held 5 (some 27) (.map (some mb)) rfl rfl (by kernel_rfl) (by kernel_rfl) (by kernel_rfl) (fun _ _ _ h => h) (by rfl) (fun w hS => by obtain ⟨⟨s0, s1, s2, s3⟩, s4, s5, s6, s7, s8⟩ := hS; go_simp) hH ?_
      simp only [Act.put, List.setIfInBounds_toArray, List.set_cons_zero, List.set_cons_succ]
      refine take_held 6 (some 28) (.agg #[.int .i64 e.k.1, .int .i64 e.k.2.1, .int .i64 e.k.2.2.1, .int .i64 e.k.2.2.2]) rfl rfl (by kernel_rfl) (by kernel_rfl) (by kernel_rfl) (fun _ _ _ h => h) (by rfl) (fun w hS => by obtain ⟨⟨s0, s1, s2, s3⟩, s4, s5, s6, s7, s8⟩ := hS; go_simp) hH ?_
      simp only [Act.put, List.setIfInBounds_toArray, List.set_cons_zero, List.set_cons_succ]
      refine take_held 7 (some 29) (.pointer (some ⟨e.b, 0, none⟩)) rfl rfl (by kernel_rfl) (by kernel_rfl) (by kernel_rfl) (fun _ _ _ h => h) (by rfl) (fun w hS => by obtain ⟨⟨s0, s1, s2, s3⟩, s4, s5, s6, s7, s8⟩ := hS; have hlk := LK.out w s5; go_simp) hH ?_
      simp only [Act.put, List.setIfInBounds_toArray, List.set_cons_zero, List.set_cons_succ]
      refine take_held 8 (some 30) (.pointer (some ⟨e.b, 0, none⟩)) rfl rfl (by kernel_rfl) (by kernel_rfl) (by kernel_rfl) (fun _ _ _ h => h) (by rfl) (fun w hS => by go_simp) hH ?_
      simp only [Act.put, List.setIfInBounds_toArray, List.set_cons_zero, List.set_cons_succ]
      refine take_held 9 (some 31) (.agg #[.slice e.s.a e.s.xs.length e.s.c, .int .i64 e.s.since, .bool e.s.bad]) rfl rfl (by kernel_rfl) (by kernel_rfl) (by kernel_rfl) (fun _ _ _ h => h) (by rfl) (fun w hS => by obtain ⟨⟨s0, s1, s2, s3⟩, s4, s5, s6, s7, s8⟩ := hS; go_simp) hH ?_
      simp only [Act.put, List.setIfInBounds_toArray, List.set_cons_zero, List.set_cons_succ]
      refine take_held 10 (some 32) (.pointer (some ⟨w.heap.size + 1, k * 3, none⟩)) rfl rfl (by kernel_rfl) (by kernel_rfl) (by kernel_rfl) (fun _ _ _ h => h) (by rfl) (fun w hS => by go_simp) hH ?_
      simp only [Act.put, List.setIfInBounds_toArray, List.set_cons_zero, List.set_cons_succ]
      refine wpAnyH_ready (rs := [11]) (by kernel_rfl) (by simp) ?_
      refine AllReadyH.cons rfl (fun K hK => ?_) AllReadyH.nil
      go_simp
      refine hK.out _ _ (SK.out _ (fun b hb _ => alloc_far3 wr (w.heap.size + 1) (k * 3) b _ _ _ _ hb)) (fun hH => ?_)
      clear hK K
      refine wpAnyH_done (by kernel_rfl) ?_ _
      have hll : ((es.map Ent.s).take k).length = k := by simp; omega
      have F1 := HF.out.put (by omega) e.s
      rw [hll] at F1
      have HB1 : Below w.heap.size w (((wr.setCell ⟨w.heap.size + 1, k * 3, none⟩ (.slice e.s.a e.s.xs.length e.s.c)).setCell ⟨w.heap.size + 1, k * 3 + 1, none⟩ (.int .i64 e.s.since)).setCell ⟨w.heap.size + 1, k * 3 + 2, none⟩ (.bool e.s.bad)) := below_far3 HW.out (by omega) _ _ _
      have HX1 : (((wr.setCell ⟨w.heap.size + 1, k * 3, none⟩ (.slice e.s.a e.s.xs.length e.s.c)).setCell ⟨w.heap.size + 1, k * 3 + 1, none⟩ (.int .i64 e.s.since)).setCell ⟨w.heap.size + 1, k * 3 + 2, none⟩ (.bool e.s.bad)).heap[w.heap.size]? = some (.cells #[.int .i64 0, .slice none 0 0] 32 (0, 0)) := (heap_far3 _ _ _ _ (by omega) _ _ _).trans HX.out
      clear hH SK q0 q1 q2 k0 k1 k2 k3 fz
      generalize ((wr.setCell ⟨w.heap.size + 1, k * 3, none⟩ (.slice e.s.a e.s.xs.length e.s.c)).setCell ⟨w.heap.size + 1, k * 3 + 1, none⟩ (.int .i64 e.s.since)).setCell ⟨w.heap.size + 1, k * 3 + 2, none⟩ (.bool e.s.bad) = w2 at F1 HB1 HX1 ⊢
      have F2 : Hid (FillS w2 (w.heap.size + 1) es.length ((es.map Ent.s).take (k + 1))) := (show FillS _ _ _ _ by rw [List.take_add_one, List.getElem?_map, HE.out]; exact F1)
      have HB2 : Hid (Below w.heap.size w w2) := HB1
      have HX2 : Hid (w2.heap[w.heap.size]? = some (.cells #[.int .i64 0, .slice none 0 0] 32 (0, 0))) := HX1
      clear F1 HB1 HX1 hll
      go_wp2
      go_roundw
      case rel => exact ⟨k + 1, by omega, by go_num, F2.out.kept (Below.heap_alloc _ _ _ F2.out.lt), (HB2.out.alloc HB2.out.size _).drew, (Below.heap_alloc _ _ _ (lt_of_block HX2.out)).trans HX2.out⟩
      case measure => simp [intOf]; omega
    · obtain rfl : k = es.length := by omega
      have FE : Hid (FillS wr (w.heap.size + 1) es.length (es.map Ent.s)) := (by have h := HF.out; rw [List.take_of_length_le (by simp)] at h; exact h)
      have y0 : wr.cell? ⟨ob, 0, none⟩ = some (.int .i64 now) := (HW.out.cell (p := ⟨ob, 0, none⟩) lob).trans x0
      have r0 : wr.cell? ⟨w.heap.size, 0, none⟩ = some (.int .i64 0) := cell_of_row _ _ _ _ _ _ HX.out
      have r1 : wr.cell? ⟨w.heap.size, 1, none⟩ = some (.slice none 0 0) := cell_of_row _ _ _ _ _ _ HX.out
      have fz : ∀ o, wr.frozen? ⟨w.heap.size, o, none⟩ = false := fun o => Joins.unfrozen_of_block HX.out o
      have HF2 : Hid (Forest wr lo (es.map Ent.s)) := OR.forest
      clear HF OR
      go_wp2
      refine bodyPost_ret (v := .agg #[.int .i64 now, .slice (some ⟨w.heap.size + 1, 0, none⟩) es.length es.length]) (by simp [results, Tryz.results33, go_sem, r0, r1]) rfl ⟨w.heap.size + 1, rfl, by omega, ⟨by omega, FE.out.row.kept ((Below.heap_setCell _ _ _ _ (by simp)).trans (Below.heap_setCell _ _ _ _ (by simp))), HF2.out.kept fun b hb => ?_⟩, Below.setCell (Below.setCell HW.out (Nat.le_refl _) _) (Nat.le_refl _) _⟩
      have hbl := (H0.out.forest.blk b hb).2.1
      exact (Below.heap_setCell _ _ _ _ (by simp only; omega)).trans (Below.heap_setCell _ _ _ _ (by simp only; omega))
end Go.Proofs.YtjbkgmbakjnlhabGreatDoor

/- slices.Clone, IndexFunc and DeleteFunc over packet keys; the closure of drop. -/
namespace Go.Proofs.YtjbkgmbakjnlhabGreatDoor
set_option maxRecDepth 100000
open Go.RowKit

theorem key_eq (k k' : K4) : ((k.1 == k'.1) && (k.2.1 == k'.2.1) && (k.2.2.1 == k'.2.2.1) && (k.2.2.2 == k'.2.2.2)) = decide (k = k') := by
  obtain ⟨a, b, c, d⟩ := k
  obtain ⟨a', b', c', d'⟩ := k'
  by_cases h1 : a = a' <;> by_cases h2 : b = b' <;> by_cases h3 : c = c' <;> by_cases h4 : d = d' <;> simp [h1, h2, h3, h4]
set_option maxHeartbeats 1600000 in
theorem drop1_any (k k' : K4) (kb : Nat) (w : World) (h : KeyAt w kb k) : Calls Tryz.prog 89 #[kval k', .pointer (some ⟨kb, 0, none⟩)] w fun e w' => e = .returned (.bool (decide (k' = k))) ∧ Below w.heap.size w w' := by
  obtain ⟨h0, h1, h2, h3⟩ := h
  have lk : kb < w.heap.size := World.block_lt_of_cell? w _ h0
  have hg := eqg51
  have he := eql51
  rw [← key_eq]
  unfold kval
  go_enter Tryz.func89, Tryz.ntmps89
  go_wp2
  go_ret
  exact ⟨rfl, Joins.below_alloc1 _ _⟩
def kflat (ks : List K4) : List Value := ks.flatMap k4cells
theorem kflat_len (ks : List K4) : (kflat ks).length = ks.length * 4 := by
  induction ks with
  | nil => rfl
  | cons x r ih => unfold kflat at *; simp only [List.flatMap_cons, List.length_append, ih, k4cells_len, List.length_cons]; omega
theorem kflat_at : ∀ (ks : List K4) (i j : Nat) (k : K4), ks[i]? = some k → j < 4 → (kflat ks)[i * 4 + j]? = (k4cells k)[j]?
  | [], i, j, y, hi, _ => by simp at hi
  | x :: r, 0, j, y, hi, hj => by
    simp at hi
    subst hi
    unfold kflat
    rw [List.flatMap_cons, Nat.zero_mul, Nat.zero_add, List.getElem?_append_left (by rw [k4cells_len]; exact hj)]
  | x :: r, i + 1, j, y, hi, hj => by
    unfold kflat
    rw [List.flatMap_cons, List.getElem?_append_right (by rw [k4cells_len]; omega), k4cells_len, show (i + 1) * 4 + j - 4 = i * 4 + j by omega]
    exact kflat_at r i j y (by simpa using hi) hj
theorem kflat_set (u : K4) : ∀ (ks : List K4) (i : Nat), i < ks.length → ((((kflat ks).set (i * 4) (.int .i64 u.1)).set (i * 4 + 1) (.int .i64 u.2.1)).set (i * 4 + 2) (.int .i64 u.2.2.1)).set (i * 4 + 3) (.int .i64 u.2.2.2) = kflat (ks.set i u)
  | [], k, h => by simp at h
  | y :: r, 0, _ => by
    unfold kflat
    simp only [Nat.zero_mul, Nat.zero_add, List.set_cons_zero, List.flatMap_cons]
    rfl
  | y :: r, k + 1, h => by
    have ih := kflat_set u r k (by simp at h; omega)
    unfold kflat at *
    rw [List.set_cons_succ, List.flatMap_cons, List.flatMap_cons, ← ih]
    have hl : (k4cells y).length = 4 := rfl
    have e : ∀ (l : List Value) (j : Nat) (x : Value), (k4cells y ++ l).set ((k + 1) * 4 + j) x = k4cells y ++ l.set (k * 4 + j) x := fun l j x => by
      rw [List.set_append_right _ _ (by omega), hl, show (k + 1) * 4 + j - 4 = k * 4 + j by omega]
    have e0 : ∀ (l : List Value) (x : Value), (k4cells y ++ l).set ((k + 1) * 4) x = k4cells y ++ l.set (k * 4) x := fun l x => e l 0 x
    rw [e0, e, e, e]
theorem kflat_one (ks : List K4) : ∀ u ∈ kflat ks, u.oneCell' = true := by
  intro u hu
  obtain ⟨x, _, hx⟩ := List.mem_flatMap.1 hu
  exact k_one x u hx
/-- keys that can be read -/
def KRow (w : World) (g : Nat) (ks : List K4) : Prop := g < w.heap.size ∧ ∀ i k, ks[i]? = some k → w.cell? ⟨g, i * 4, none⟩ = some (.int .i64 k.1) ∧ w.cell? ⟨g, i * 4 + 1, none⟩ = some (.int .i64 k.2.1) ∧ w.cell? ⟨g, i * 4 + 2, none⟩ = some (.int .i64 k.2.2.1) ∧ w.cell? ⟨g, i * 4 + 3, none⟩ = some (.int .i64 k.2.2.2)
theorem KRow.below {w w' : World} {g : Nat} {ks : List K4} (h : KRow w g ks) (hb : Below w.heap.size w w') : KRow w' g ks := by
  refine ⟨Nat.lt_of_lt_of_le h.1 hb.size, fun i k hk => ?_⟩
  have e : ∀ o, w'.cell? ⟨g, o, none⟩ = w.cell? ⟨g, o, none⟩ := fun o => hb.cell (p := ⟨g, o, none⟩) h.1
  obtain ⟨a, b, c, d⟩ := h.2 i k hk
  exact ⟨(e _).trans a, (e _).trans b, (e _).trans c, (e _).trans d⟩
theorem KRow.of_own {w : World} {lo n c g : Nat} {ks : List K4} (h : w.ownsRow lo 93 4 (.slice (some ⟨g, 0, none⟩) n c) n (kflat ks)) : KRow w g ks := by
  have hr := RowB.of_own h
  refine ⟨hr.lt, fun i k hk => ?_⟩
  have e : ∀ j v, j < 4 → (k4cells k)[j]? = some v → w.cell? ⟨g, i * 4 + j, none⟩ = some v := fun j v hj hv => hr.cell (by rw [kflat_at ks i j k hk hj]; exact hv)
  exact ⟨e 0 _ (by omega) rfl, e 1 _ (by omega) rfl, e 2 _ (by omega) rfl, e 3 _ (by omega) rfl⟩
/-- the place of a key -/
def placeOf (k : K4) (ks : List K4) : Option Nat := ks.findIdx? (fun x => decide (x = k))

set_option maxRecDepth 100000 in
set_option maxHeartbeats 3200000 in
theorem indexFunc_any (g c kb : Nat) (k : K4) (ks : List K4) (m : Nat) (w : World) (hR : KRow w g ks) (hk : KeyAt w kb k) (hl : ks.length ≤ 1000) (hm : ks[m]? = some k) (hf : ∀ i, i < m → ks[i]? ≠ some k) :
    Calls Tryz.prog 107 #[.slice (some ⟨g, 0, none⟩) ks.length c, .func (.func 89) #[] #[.pointer (some ⟨kb, 0, none⟩)]] w fun e w' => e = .returned (.int .i64 m) ∧ Below w.heap.size w w' := by
  have HR : Hid (KRow w g ks) := hR
  have HK : Hid (KeyAt w kb k) := hk
  have HM : Hid (ks[m]? = some k) := hm
  have HF : Hid (∀ i, i < m → ks[i]? ≠ some k) := hf
  have lm := (List.getElem?_eq_some_iff.1 hm).1
  have lkb : kb < w.heap.size := World.block_lt_of_cell? w _ hk.1
  clear hR hk hm hf
  go_enter Tryz.func107, Tryz.ntmps107
  go_wp2
  go_loopw [8] (fun i wr => ∃ j : Nat, j ≤ m ∧ i = .int .i64 j ∧ Hid (Below w.heap.size w wr)) (fun i _ => m + 1 - (intOf i).toNat)
  case atStart => exact ⟨0, by omega, rfl, Below.refl _ _⟩
  case round =>
    obtain ⟨j, hj, rfl, HB⟩ := hrel
    have hi : (j : Int) < (ks.length : Int) := by omega
    obtain ⟨q, hq⟩ := get_of_lt (show j < ks.length by omega)
    have Rr := HR.out.below HB.out
    obtain ⟨c0, c1, c2, c3⟩ := Rr.2 j q hq
    have lg := Rr.1
    have hsz := HB.out.size
    have KC : Hid (∀ W : World, Below w.heap.size w W → Calls Tryz.prog 89 #[.agg #[.int .i64 q.1, .int .i64 q.2.1, .int .i64 q.2.2.1, .int .i64 q.2.2.2], .pointer (some ⟨kb, 0, none⟩)] W fun e w' => e = .returned (.bool (decide (q = k))) ∧ Below W.heap.size W w') := fun W h => drop1_any k q kb W (HK.out.kept (h.block _ lkb))
    have HQ : Hid (ks[j]? = some q) := hq
    clear hq Rr
    by_cases hjm : j = m
    · have hqk : decide (q = k) = true := by
        have h1 := HQ.out
        rw [hjm, HM.out] at h1
        simp [(Option.some.inj h1).symm]
      rw [hqk] at KC
      have HJM : Hid (j = m) := hjm
      clear hqk hjm
      go_wp2_with fail
      refine (KC.out _ HB.out).mono ?_
      rintro e w1 ⟨rfl, b1⟩
      have B1 : Hid (Below w.heap.size w w1) := HB.out.trans (b1.mono hsz)
      clear b1
      go_wp2
      go_ret
      exact ⟨ret_int (by rw [HJM.out]), B1.out⟩
    · have hqk : decide (q = k) = false := by
        have : q ≠ k := fun e => HF.out j (by omega) (by rw [HQ.out, e])
        simp [this]
      rw [hqk] at KC
      clear hqk
      go_wp2_with fail
      refine (KC.out _ HB.out).mono ?_
      rintro e w1 ⟨rfl, b1⟩
      have B1 : Hid (Below w.heap.size w w1) := HB.out.trans (b1.mono hsz)
      clear b1
      go_wp2
      go_roundw
      case rel => exact ⟨j + 1, by omega, by go_num, B1.out⟩
      case measure => simp [intOf]; omega
end Go.Proofs.YtjbkgmbakjnlhabGreatDoor

/- slices.DeleteFunc and slices.Clone over packet keys. -/
namespace Go.Proofs.YtjbkgmbakjnlhabGreatDoor
set_option maxRecDepth 100000
open Go.RowKit

theorem own_less {w : World} {lo e size n m c g : Nat} {xs : List Value} (h : w.ownsRow lo e size (.slice (some ⟨g, 0, none⟩) n c) n xs) (hm : m ≤ n) : w.ownsRow lo e size (.slice (some ⟨g, 0, none⟩) m c) m (xs.take (m * size)) := by
  have h1 := h.1
  have hmn : m * size ≤ n * size := Nat.mul_le_mul_right _ hm
  rcases h.2 with ⟨hv, _⟩ | ⟨g', cap, cur, hv, hb, hh, hc, hM, hs, ht⟩
  · cases hv
  · cases hv
    refine ⟨by rw [List.length_take, h1]; omega, Or.inr ⟨g, c, cur, rfl, hb, hh, by omega, hM, hs, ?_⟩⟩
    rw [← ht, List.take_take, Nat.min_eq_left hmn]
theorem kflat_take (ks : List K4) (i : Nat) : (kflat ks).take (i * 4) = kflat (ks.take i) := by
  induction ks generalizing i with
  | nil => simp [kflat]
  | cons x r ih =>
    cases i with
    | zero => simp [kflat]
    | succ i =>
      have := ih i
      unfold kflat at *
      rw [List.take_succ_cons, List.flatMap_cons, List.flatMap_cons, List.take_append, k4cells_len, show (i + 1) * 4 - 4 = i * 4 by omega, this, List.take_of_length_le (by rw [k4cells_len]; omega)]
theorem erase_step {ks : List K4} {m j : Nat} {v : K4} (hm : m < j) (hj : ks[j]? = some v) : ((ks.eraseIdx m).take (j - 1) ++ ks.drop (j - 1)).set (j - 1) v = (ks.eraseIdx m).take j ++ ks.drop j := by
  have hl := (List.getElem?_eq_some_iff.1 hj).1
  have he : (ks.eraseIdx m).length = ks.length - 1 := by rw [List.length_eraseIdx, if_pos (by omega)]
  have h1 : ((ks.eraseIdx m).take (j - 1)).length = j - 1 := by rw [List.length_take]; omega
  rw [List.set_append_right _ _ (by omega), h1, Nat.sub_self]
  have h2 : ks.drop (j - 1) = ks[j - 1] :: ks.drop j := by
    rw [List.drop_eq_getElem_cons (by omega)]
    congr 2
    omega
  rw [h2, List.set_cons_zero]
  have h3 : (ks.eraseIdx m).take j = (ks.eraseIdx m).take (j - 1) ++ [v] := by
    have : (ks.eraseIdx m)[j - 1]? = some v := by
      rw [List.getElem?_eraseIdx, if_neg (by omega), show j - 1 + 1 = j by omega]
      exact hj
    rw [show j = j - 1 + 1 by omega, List.take_add_one, this]
    simp
  rw [h3, List.append_assoc]
  rfl
theorem ownS {w : World} {base : Nat} {e : TypeId} {size n c g o : Nat} {xs : List Value} (h : w.ownsRow base e size (.slice (some ⟨g, 0, none⟩) n c) n xs) (u : Value) : (w.setCell ⟨g, o, none⟩ u).ownsRow base e size (.slice (some ⟨g, 0, none⟩) n c) n (xs.set o u) := by
  have h1 := h.1
  rcases h.2 with ⟨hv, _⟩ | ⟨g', cap, cur, hv, hb, hh, hc, hm, hs, ht⟩
  · cases hv
  · cases hv
    refine ⟨by simpa using h1, Or.inr ⟨g, c, cur.setIfInBounds o u, rfl, hb, heap_setCell_same _ _ _ _ _ _ hh, hc, hm, by simpa using hs, ?_⟩⟩
    rw [Array.toList_setIfInBounds, List.take_set, ht]
theorem own_set4 {w : World} {lo n c g i : Nat} {ks : List K4} (h : w.ownsRow lo 93 4 (.slice (some ⟨g, 0, none⟩) n c) n (kflat ks)) (u : K4) (hi : i < ks.length) :
    ((((w.setCell ⟨g, i * 4, none⟩ (.int .i64 u.1)).setCell ⟨g, i * 4 + 1, none⟩ (.int .i64 u.2.1)).setCell ⟨g, i * 4 + 2, none⟩ (.int .i64 u.2.2.1)).setCell ⟨g, i * 4 + 3, none⟩ (.int .i64 u.2.2.2)).ownsRow lo 93 4 (.slice (some ⟨g, 0, none⟩) n c) n (kflat (ks.set i u)) := by
  rw [← kflat_set u ks i hi]
  exact ownS (ownS (ownS (ownS h _) _) _) _
end Go.Proofs.YtjbkgmbakjnlhabGreatDoor
