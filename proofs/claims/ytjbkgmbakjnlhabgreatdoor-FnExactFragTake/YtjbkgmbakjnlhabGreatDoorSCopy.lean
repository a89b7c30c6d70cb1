/- The specification's l4Copy: a bench in new memory. -/
import Derived.Test.YtjbkgmbakjnlhabGreatDoorPartAs
import Derived.Test.YtjbkgmbakjnlhabGreatDoorBenchQ
namespace Go.Proofs.YtjbkgmbakjnlhabGreatDoor
set_option maxRecDepth 100000
open Go.RowKit

/-- slots in new memory, to which more may come -/
structure CAns (w : World) (lo g c : Nat) (ts : List SV) : Prop where
  own : w.ownsRow lo 71 3 (.slice (some ⟨g, 0, none⟩) ts.length c) ts.length (ts.flatMap SV.cells)
  forest : Forest w lo ts
theorem CAns.ans {w : World} {lo g c : Nat} {ts : List SV} (h : CAns w lo g c ts) : AnsB w lo g ts := ⟨(own_lt h.own g rfl).1, RowB.of_own h.own, h.forest⟩
theorem CAns.below {w w' : World} {lo g c : Nat} {ts : List SV} (h : CAns w lo g c ts) (hb : Below w.heap.size w w') : CAns w' lo g c ts := ⟨own_below h.own hb, h.forest.below hb⟩
theorem CAns.le {w : World} {lo lo' g c : Nat} {ts : List SV} (h : CAns w lo g c ts) (hl : lo' ≤ lo) : CAns w lo' g c ts := ⟨Joins.ownsRow_le h.own hl, h.forest.le hl⟩
theorem CAns.kept {w w' : World} {lo g c : Nat} {ts : List SV} (h : CAns w lo g c ts) (hk : ∀ b, lo ≤ b → w'.heap[b]? = w.heap[b]?) : CAns w' lo g c ts := ⟨own_kept h.own fun b hb => hk b (own_lt h.own b hb).1, h.forest.kept fun b hb => hk b (h.forest.blk b hb).1⟩
theorem CAns.nil (w : World) (n base : Nat) (h : n = w.heap.size) (hb : base ≤ n) : CAns (w.alloc (.cells #[] 71)) base n 0 [] :=
  ⟨⟨rfl, Or.inr ⟨n, 0, #[], rfl, hb, heap_new _ _ _ h, Nat.le_refl _, by unfold maxLen; omega, rfl, rfl⟩⟩, Forest.nil _ _⟩
theorem three_new (w : World) (x0 x1 x2 : Value) : ∀ j u, [x0, x1, x2][j]? = some u → (w.alloc (.cells #[x0, x1, x2] 71)).cell? ((Addr.mk w.heap.size 0 none).add j) = some u := by
  intro j u hu
  rw [add_none, Nat.zero_add, cell_of_row _ _ _ _ _ _ (heap_new _ _ _ rfl), ← Array.getElem?_toList]
  exact hu
theorem three_one (a : Option Addr) (n c : Nat) (since : Int) (bad : Bool) : ∀ u ∈ [Value.slice a n c, .int .i64 since, .bool bad], u.oneCell' = true := by
  intro u hu
  simp at hu
  rcases hu with rfl | rfl | rfl <;> rfl
/-- one more slot -/
theorem CAns.snoc {w w' : World} {lo g c g' c' : Nat} {ts : List SV} {t : SV} {L : Nat} (h : CAns w lo g c ts) (ht : SlotB w L t) (hn : t.blks.Nodup) (hl : lo ≤ L) (hlt : ∀ b ∈ ts.flatMap SV.blks, b < L)
    (ho : w'.ownsRow lo 71 3 (.slice (some ⟨g', 0, none⟩) (ts.length + 1) c') (ts.length + 1) (ts.flatMap SV.cells ++ t.cells)) (hg : w.grownBy w' (some g)) : CAns w' lo g' c' (ts ++ [t]) := by
  obtain ⟨cu, hcu⟩ := own_at h.own g rfl
  refine ⟨by rw [List.length_append, List.flatMap_append]; simpa using ho, (h.forest.snoc ht hn hl hlt).grown hg hcu (fun cur t' fr e => ?_)⟩
  cases e
  exact ⟨by decide, by decide⟩

theorem CAns.set {w : World} {lo g c r o : Nat} {ts : List SV} {cur : Array Value} {t : TypeId} (h : CAns w lo g c ts) (hr : w.heap[r]? = some (.cells cur t (0, 0))) (ht : t ≠ 71 ∧ t ≠ 5 ∧ t ≠ 33) (v : Value) : CAns (w.setCell ⟨r, o, none⟩ v) lo g c ts := by
  have nc : ∀ {b : Nat} {cu : Array Value} {t' : TypeId}, w.heap[b]? = some (.cells cu t' (0, 0)) → t ≠ t' → (w.setCell ⟨r, o, none⟩ v).heap[b]? = w.heap[b]? := fun {b cu t'} hb hn => Below.heap_setCell _ _ _ _ (fun e => by
    simp only at e
    rw [e, hr] at hb
    cases hb
    exact hn rfl)
  refine ⟨own_kept h.own fun b hb => ?_, h.forest.kept fun b hb => ?_⟩
  · obtain ⟨cu, hc⟩ := own_at h.own b hb
    exact nc hc ht.1
  · obtain ⟨_, _, cu, t', hc, ht'⟩ := h.forest.blk b hb
    rcases ht' with rfl | rfl
    · exact nc hc ht.2.1
    · exact nc hc ht.2.2
set_option maxRecDepth 100000 in
set_option maxHeartbeats 6400000 in
theorem l4Copy_any (now : Int) (oa : Option Addr) (cl : Nat) (ss : List SV) (w : World) (hL : SLq w oa ss) (hm : ss.length ≤ 1048576) :
    Calls Tryz.prog 22 #[.agg #[.int .i64 now, .slice oa ss.length cl]] w fun e w' => ∃ g c ts, e = .returned (.agg #[.int .i64 now, .slice (some ⟨g, 0, none⟩) ss.length c]) ∧ CAns w' w.heap.size g c ts ∧ ts.map SV.key = ss.map SV.key ∧ Below w.heap.size w w' := by
  obtain ⟨ti, hti, hy0, hy1, hy2⟩ := info_parts Tryz.infoSlot
  have HL : Hid (SLq w oa ss) := hL
  clear hL
  have C0 : Hid (CAns (((w.alloc (.cells #[.int .i64 now, .slice oa ss.length cl] 32)).alloc (.cells #[.int .i64 0, .slice none 0 0] 32)).alloc (.cells #[] 71)) (w.heap.size + 2) (w.heap.size + 1 + 1) 0 []) := CAns.nil _ _ _ (by simp) (by omega)
  go_enter Tryz.func22, Tryz.ntmps22
  go_wp2
  go_loopw [4] (fun i wr => ∃ (k gq cq : Nat) (ts : List SV), k ≤ ss.length ∧ i = .int .i64 k ∧ Hid (ts.length = k) ∧ Hid (CAns wr (w.heap.size + 2) gq cq ts) ∧ Hid (ts.map SV.key = (ss.take k).map SV.key) ∧ Hid (wr.heap[w.heap.size]? = some (.cells #[.int .i64 now, .slice oa ss.length cl] 32 (0, 0))) ∧ Hid (wr.heap[w.heap.size + 1]? = some (.cells #[.int .i64 0, .slice none 0 0] 32 (0, 0))) ∧ Hid (wr.heap[w.heap.size + 1 + 1 + 1]? = some (.cells #[.int .i64 now, .slice (some ⟨gq, 0, none⟩) k cq] 32 (0, 0))) ∧ Hid (Below w.heap.size w wr)) (fun i _ => ss.length - (intOf i).toNat)
  case atStart =>
    refine ⟨0, w.heap.size + 1 + 1, 0, [], by omega, rfl, rfl, C0.out.below (Joins.below_alloc1 _ _), rfl, ?_, ?_, heap_new _ _ _ (by simp), (Joins.below_alloc3 _ _ _ _).trans ((Joins.below_alloc1 _ _).mono (by simp; omega))⟩
    · exact (Below.heap_alloc _ _ _ (show w.heap.size < (((w.alloc _).alloc _).alloc _).heap.size by simp; omega)).trans ((Below.heap_alloc _ _ _ (show w.heap.size < ((w.alloc _).alloc _).heap.size by simp; omega)).trans ((Below.heap_alloc _ _ _ (by simp)).trans (heap_new _ _ _ rfl)))
    · exact (Below.heap_alloc _ _ _ (show w.heap.size + 1 < (((w.alloc _).alloc _).alloc _).heap.size by simp)).trans ((Below.heap_alloc _ _ _ (by simp)).trans (heap_new _ _ _ (by simp)))
  case round =>
    obtain ⟨k, gq, cq, ts, hk, rfl, HT, HC, HK, HA, HR, HO, HW⟩ := hrel
    have hsz := HW.out.size
    have lo3 := lt_of_block HO.out
    have a1 : wr.cell? ⟨w.heap.size, 1, none⟩ = some (.slice oa ss.length cl) := cell_of_row _ _ _ _ _ _ HA.out
    have a0 : wr.cell? ⟨w.heap.size, 0, none⟩ = some (.int .i64 now) := cell_of_row _ _ _ _ _ _ HA.out
    have o0 : wr.cell? ⟨w.heap.size + 1 + 1 + 1, 0, none⟩ = some (.int .i64 now) := cell_of_row _ _ _ _ _ _ HO.out
    have o1 : wr.cell? ⟨w.heap.size + 1 + 1 + 1, 1, none⟩ = some (.slice (some ⟨gq, 0, none⟩) k cq) := cell_of_row _ _ _ _ _ _ HO.out
    have la := lt_of_block HA.out
    by_cases hlt : k < ss.length
    · obtain ⟨x, hx⟩ := get_of_lt hlt
      have hi : (k : Int) < (ss.length : Int) := by omega
      have Lr := HL.out.below HW.out
      rcases Lr with h0 | ⟨gs, hgs, hL⟩
      · rw [h0] at hlt; simp at hlt
      subst hgs
      have hgr := hL.lt
      obtain ⟨c0, c1, c2⟩ := hL.elem k x hx
      have HX : Hid (ss[k]? = some x) := hx
      have HXO : Hid (SOk wr x) := hL.each x (List.mem_of_getElem? hx)
      obtain ⟨gx, hxa, RX⟩ := HXO.out.at_
      have lgw : gs < w.heap.size := by
        rcases HL.out with h0 | ⟨g', hg', hL'⟩
        · rw [h0] at hlt; simp at hlt
        · cases hg'
          exact hL'.lt
      rw [hxa] at c0
      obtain ⟨nx, hnx⟩ : ∃ nx, x.xs.length = nx := ⟨_, rfl⟩
      have HNX : Hid (x.xs.length = nx) := hnx
      have hxl := HXO.out.len
      rw [hnx] at c0 hxl
      have KP : Hid (∀ W : World, Below wr.heap.size wr W → Calls Tryz.prog 44 #[.slice (some ⟨gx, 0, none⟩) nx x.c] W fun e w' => ∃ g c ys, e = .returned (.slice (some ⟨g, 0, none⟩) nx c) ∧ POut w' W.heap.size g c ys ∧ ys.map RV.key = x.xs.map RV.key ∧ Below W.heap.size W w') := fun W h => by
        have h1 := l4Pieces_any gx x.c x.xs W (RX.below h) (by omega)
        rw [hnx] at h1
        exact h1
      have RO : Hid (wr.ownsRow (w.heap.size + 2) 71 3 (.slice (some ⟨gq, 0, none⟩) k cq) k (ts.flatMap SV.cells)) := (by have h := HC.out.own; rw [HT.out] at h; exact h)
      have SK : Hid (∀ W : World, Below wr.heap.size wr W → (W.cell? ⟨w.heap.size, 1, none⟩ = some (.slice (some ⟨gs, 0, none⟩) ss.length cl) ∧ W.cell? ⟨w.heap.size + 1 + 1 + 1, 1, none⟩ = some (.slice (some ⟨gq, 0, none⟩) k cq) ∧ W.cell? ⟨gs, k * 3, none⟩ = some (.slice (some ⟨gx, 0, none⟩) nx x.c) ∧ W.cell? ⟨gs, k * 3 + 1, none⟩ = some (.int .i64 x.since) ∧ W.cell? ⟨gs, k * 3 + 2, none⟩ = some (.bool x.bad))) := fun W h => by
        have e : ∀ b o, b < wr.heap.size → W.cell? ⟨b, o, none⟩ = wr.cell? ⟨b, o, none⟩ := fun b o hb => h.cell (p := ⟨b, o, none⟩) hb
        exact ⟨(e _ _ la).trans a1, (e _ _ lo3).trans o1, (e _ _ hgr).trans c0, (e _ _ hgr).trans c1, (e _ _ hgr).trans c2⟩
      clear hx hL RX hnx hxa
      go_wp2
      refine wp_region_late (S := fun W => (W.cell? ⟨w.heap.size, 1, none⟩ = some (.slice (some ⟨gs, 0, none⟩) ss.length cl) ∧ W.cell? ⟨w.heap.size + 1 + 1 + 1, 1, none⟩ = some (.slice (some ⟨gq, 0, none⟩) k cq) ∧ W.cell? ⟨gs, k * 3, none⟩ = some (.slice (some ⟨gx, 0, none⟩) nx x.c) ∧ W.cell? ⟨gs, k * 3 + 1, none⟩ = some (.int .i64 x.since) ∧ W.cell? ⟨gs, k * 3 + 2, none⟩ = some (.bool x.bad))) (by kernel_rfl) (SK.out _ ((Below.refl _ wr).drew)) (fun hH => ?_)
      refine late_take 0 (some 16) (.pointer (some ⟨w.heap.size + 1 + 1 + 1, 1, none⟩)) rfl rfl (by kernel_rfl) (by kernel_rfl) (by kernel_rfl) (fun _ _ _ h => h) (by rfl) (fun w hS => by go_simp) hH ?_
      simp only [Act.put, List.setIfInBounds_toArray, List.set_cons_zero, List.set_cons_succ]
      refine late_take 1 (some 17) (.slice (some ⟨gq, 0, none⟩) k cq) rfl rfl (by kernel_rfl) (by kernel_rfl) (by kernel_rfl) (fun _ _ _ h => h) (by rfl) (fun w hS => by obtain ⟨s0, s1, s2, s3, s4⟩ := hS; go_simp) hH ?_
      simp only [Act.put, List.setIfInBounds_toArray, List.set_cons_zero, List.set_cons_succ]
      refine late_take 2 (some 18) (.pointer (some ⟨w.heap.size, 1, none⟩)) rfl rfl (by kernel_rfl) (by kernel_rfl) (by kernel_rfl) (fun _ _ _ h => h) (by rfl) (fun w hS => by go_simp) hH ?_
      simp only [Act.put, List.setIfInBounds_toArray, List.set_cons_zero, List.set_cons_succ]
      refine late_take 3 (some 19) (.slice (some ⟨gs, 0, none⟩) ss.length cl) rfl rfl (by kernel_rfl) (by kernel_rfl) (by kernel_rfl) (fun _ _ _ h => h) (by rfl) (fun w hS => by obtain ⟨s0, s1, s2, s3, s4⟩ := hS; go_simp) hH ?_
      simp only [Act.put, List.setIfInBounds_toArray, List.set_cons_zero, List.set_cons_succ]
      refine late_take 4 (some 20) (.int .i64 k) rfl rfl (by kernel_rfl) (by kernel_rfl) (by kernel_rfl) (fun _ _ _ h => h) (by rfl) (fun w hS => by go_simp) hH ?_
      simp only [Act.put, List.setIfInBounds_toArray, List.set_cons_zero, List.set_cons_succ]
      refine late_take 5 (some 21) (.pointer (some ⟨gs, k * 3, none⟩)) rfl rfl (by kernel_rfl) (by kernel_rfl) (by kernel_rfl) (fun _ _ _ h => h) (by rfl) (fun w hS => by go_simp) hH ?_
      simp only [Act.put, List.setIfInBounds_toArray, List.set_cons_zero, List.set_cons_succ]
      refine late_take 6 (some 22) (.pointer (some ⟨gs, k * 3, none⟩)) rfl rfl (by kernel_rfl) (by kernel_rfl) (by kernel_rfl) (fun _ _ _ h => h) (by rfl) (fun w hS => by go_simp) hH ?_
      simp only [Act.put, List.setIfInBounds_toArray, List.set_cons_zero, List.set_cons_succ]
      refine late_take 7 (some 23) (.slice (some ⟨gx, 0, none⟩) nx x.c) rfl rfl (by kernel_rfl) (by kernel_rfl) (by kernel_rfl) (fun _ _ _ h => h) (by rfl) (fun w hS => by obtain ⟨s0, s1, s2, s3, s4⟩ := hS; go_simp) hH ?_
      simp only [Act.put, List.setIfInBounds_toArray, List.set_cons_zero, List.set_cons_succ]
      refine late_take 9 (some 25) (.pointer (some ⟨w.heap.size, 1, none⟩)) rfl rfl (by kernel_rfl) (by kernel_rfl) (by kernel_rfl) (fun _ _ _ h => h) (by rfl) (fun w hS => by go_simp) hH ?_
      simp only [Act.put, List.setIfInBounds_toArray, List.set_cons_zero, List.set_cons_succ]
      refine late_take 10 (some 26) (.slice (some ⟨gs, 0, none⟩) ss.length cl) rfl rfl (by kernel_rfl) (by kernel_rfl) (by kernel_rfl) (fun _ _ _ h => h) (by rfl) (fun w hS => by obtain ⟨s0, s1, s2, s3, s4⟩ := hS; go_simp) hH ?_
      simp only [Act.put, List.setIfInBounds_toArray, List.set_cons_zero, List.set_cons_succ]
      refine late_take 11 (some 27) (.int .i64 k) rfl rfl (by kernel_rfl) (by kernel_rfl) (by kernel_rfl) (fun _ _ _ h => h) (by rfl) (fun w hS => by go_simp) hH ?_
      simp only [Act.put, List.setIfInBounds_toArray, List.set_cons_zero, List.set_cons_succ]
      refine late_take 12 (some 28) (.pointer (some ⟨gs, k * 3, none⟩)) rfl rfl (by kernel_rfl) (by kernel_rfl) (by kernel_rfl) (fun _ _ _ h => h) (by rfl) (fun w hS => by go_simp) hH ?_
      simp only [Act.put, List.setIfInBounds_toArray, List.set_cons_zero, List.set_cons_succ]
      refine late_take 13 (some 29) (.pointer (some ⟨gs, k * 3 + 1, none⟩)) rfl rfl (by kernel_rfl) (by kernel_rfl) (by kernel_rfl) (fun _ _ _ h => h) (by rfl) (fun w hS => by go_simp) hH ?_
      simp only [Act.put, List.setIfInBounds_toArray, List.set_cons_zero, List.set_cons_succ]
      refine late_take 14 (some 30) (.int .i64 x.since) rfl rfl (by kernel_rfl) (by kernel_rfl) (by kernel_rfl) (fun _ _ _ h => h) (by rfl) (fun w hS => by obtain ⟨s0, s1, s2, s3, s4⟩ := hS; go_simp) hH ?_
      simp only [Act.put, List.setIfInBounds_toArray, List.set_cons_zero, List.set_cons_succ]
      refine late_take 15 (some 31) (.pointer (some ⟨w.heap.size, 1, none⟩)) rfl rfl (by kernel_rfl) (by kernel_rfl) (by kernel_rfl) (fun _ _ _ h => h) (by rfl) (fun w hS => by go_simp) hH ?_
      simp only [Act.put, List.setIfInBounds_toArray, List.set_cons_zero, List.set_cons_succ]
      refine late_take 16 (some 32) (.slice (some ⟨gs, 0, none⟩) ss.length cl) rfl rfl (by kernel_rfl) (by kernel_rfl) (by kernel_rfl) (fun _ _ _ h => h) (by rfl) (fun w hS => by obtain ⟨s0, s1, s2, s3, s4⟩ := hS; go_simp) hH ?_
      simp only [Act.put, List.setIfInBounds_toArray, List.set_cons_zero, List.set_cons_succ]
      refine late_take 17 (some 33) (.int .i64 k) rfl rfl (by kernel_rfl) (by kernel_rfl) (by kernel_rfl) (fun _ _ _ h => h) (by rfl) (fun w hS => by go_simp) hH ?_
      simp only [Act.put, List.setIfInBounds_toArray, List.set_cons_zero, List.set_cons_succ]
      refine late_take 18 (some 34) (.pointer (some ⟨gs, k * 3, none⟩)) rfl rfl (by kernel_rfl) (by kernel_rfl) (by kernel_rfl) (fun _ _ _ h => h) (by rfl) (fun w hS => by go_simp) hH ?_
      simp only [Act.put, List.setIfInBounds_toArray, List.set_cons_zero, List.set_cons_succ]
      refine late_take 19 (some 35) (.pointer (some ⟨gs, k * 3 + 2, none⟩)) rfl rfl (by kernel_rfl) (by kernel_rfl) (by kernel_rfl) (fun _ _ _ h => h) (by rfl) (fun w hS => by go_simp) hH ?_
      simp only [Act.put, List.setIfInBounds_toArray, List.set_cons_zero, List.set_cons_succ]
      refine late_take 20 (some 36) (.bool x.bad) rfl rfl (by kernel_rfl) (by kernel_rfl) (by kernel_rfl) (fun _ _ _ h => h) (by rfl) (fun w hS => by obtain ⟨s0, s1, s2, s3, s4⟩ := hS; go_simp) hH ?_
      simp only [Act.put, List.setIfInBounds_toArray, List.set_cons_zero, List.set_cons_succ]
      refine late_one (i := 8) (by kernel_rfl) rfl (fun K hK => ?_)
      refine step_call rfl 24 rfl 44 #[.slice (some ⟨gx, 0, none⟩) nx x.c] (by go_simp) ((KP.out _ ((Below.refl _ wr).drew)).mono ?_)
      rintro e w1 ⟨gp, cp, ys, rfl, PO, hyk, b1⟩
      have b1' : Below wr.heap.size wr w1 := ((Below.refl _ wr).drew).trans (b1.mono (Nat.le_refl _))
      refine ⟨_, rfl, hK.out _ _ (Or.inr (SK.out _ b1')) (fun hH1 => ?_)⟩
      have hH := SK.out _ b1'
      clear hK K hH1
      simp only [Act.put, List.setIfInBounds_toArray, List.set_cons_zero, List.set_cons_succ]
      refine late_take 21 (some 37) (.agg #[.slice (some ⟨gp, 0, none⟩) nx cp, .int .i64 x.since, .bool x.bad]) rfl rfl (by kernel_rfl) (by kernel_rfl) (by kernel_rfl) (fun _ _ _ h => h) (by rfl) (fun w hS => by go_simp) hH ?_
      simp only [Act.put, List.setIfInBounds_toArray, List.set_cons_zero, List.set_cons_succ]
      refine late_one (i := 22) (by kernel_rfl) rfl (fun K hK => ?_)
      go_simp
      have b2 : Below wr.heap.size wr (w1.alloc (.cells #[.slice (some ⟨gp, 0, none⟩) nx cp, .int .i64 x.since, .bool x.bad] 71)) := b1'.trans ((Joins.below_alloc1 _ _).mono b1'.size)
      refine hK.out _ _ (Or.inr (SK.out _ b2)) (fun hH1 => ?_)
      have hH := SK.out _ b2
      clear hK K hH1
      have RO2 := own_below RO.out b2
      refine late_one (i := 23) (by kernel_rfl) rfl (fun K hK => ?_)
      refine step_append_d rfl (some 39) rfl (.tmp 17) (.tmp 38) 30 rfl (w.heap.size + 2) 71 ti (.agg #[.slice none 0 0, .int .i64 0, .bool false]) 3 40 Tryz.underlying30 hti hy0 hy1 hy2 rfl (by decide) (.slice (some ⟨gq, 0, none⟩) k cq) k (ts.flatMap SV.cells) rfl RO2 ⟨w1.heap.size, 0, none⟩ 1 1 [.slice (some ⟨gp, 0, none⟩) nx cp, .int .i64 x.since, .bool x.bad] rfl rfl (three_new w1 _ _ _) (three_one _ _ _ _ _) (by unfold maxLen; omega) (by omega) (by have := b1'.size; simp; omega) ?_
      intro v3 w3 ho3 hg3 hn3
      obtain ⟨g3, c3, rfl⟩ : ∃ g3 c3, v3 = .slice (some ⟨g3, 0, none⟩) (k + 1) c3 := form_of ho3 (fun e => nomatch (hn3.1 e).1)
      have hyl : ys.length = nx := by have := congrArg List.length hyk; simp at this; rw [this, HNX.out]
      have hw1 : wr.heap.size ≤ w1.heap.size := b1'.size
      obtain ⟨tS, tN⟩ := (PO.below (Joins.below_alloc1 w1 (.cells #[.slice (some ⟨gp, 0, none⟩) nx cp, .int .i64 x.since, .bool x.bad] 71))).slot (by omega) x.since x.bad
      have C2 := HC.out.below b2
      have C3 : CAns w3 (w.heap.size + 2) g3 c3 (ts ++ [⟨some ⟨gp, 0, none⟩, cp, ys, x.since, x.bad⟩]) := C2.snoc tS tN (show w.heap.size + 2 ≤ wr.heap.size by omega) (fun b hb => (HC.out.forest.blk b hb).2.1) (by rw [HT.out]; show World.ownsRow _ _ _ _ _ _ (_ ++ [.slice (some ⟨gp, 0, none⟩) ys.length cp, .int .i64 x.since, .bool x.bad]); rw [hyl]; exact ho3) hg3
      have gqn : ∀ (b : Nat) (cu : Array Value), wr.heap[b]? = some (.cells cu 32 (0, 0)) → w3.heap[b]? = wr.heap[b]? := fun b cu hb => by
        have h2 := b2.block _ (lt_of_block hb)
        refine (hg3.block b (Nat.lt_of_lt_of_le (lt_of_block hb) b2.size) (fun e => ?_)).trans h2
        cases e
        obtain ⟨cu', hc'⟩ := own_at HC.out.own gq rfl
        rw [hb] at hc'
        cases hc'
      have gsn : w3.heap[gs]? = wr.heap[gs]? := (hg3.block gs (Nat.lt_of_lt_of_le hgr b2.size) (fun e => by have h1 := (own_lt HC.out.own gq rfl).1; have h2 : gs = gq := Option.some.inj e; omega)).trans (b2.block _ hgr)
      have S3 : (w3.cell? ⟨w.heap.size, 1, none⟩ = some (.slice (some ⟨gs, 0, none⟩) ss.length cl) ∧ w3.cell? ⟨w.heap.size + 1 + 1 + 1, 1, none⟩ = some (.slice (some ⟨gq, 0, none⟩) k cq) ∧ w3.cell? ⟨gs, k * 3, none⟩ = some (.slice (some ⟨gx, 0, none⟩) nx x.c) ∧ w3.cell? ⟨gs, k * 3 + 1, none⟩ = some (.int .i64 x.since) ∧ w3.cell? ⟨gs, k * 3 + 2, none⟩ = some (.bool x.bad)) := by
        have eA : ∀ o, w3.cell? ⟨w.heap.size, o, none⟩ = wr.cell? ⟨w.heap.size, o, none⟩ := fun o => World.cell?_of_block (w := wr) (a := ⟨w.heap.size, o, none⟩) (gqn _ _ HA.out)
        have eO : ∀ o, w3.cell? ⟨w.heap.size + 1 + 1 + 1, o, none⟩ = wr.cell? ⟨w.heap.size + 1 + 1 + 1, o, none⟩ := fun o => World.cell?_of_block (w := wr) (a := ⟨w.heap.size + 1 + 1 + 1, o, none⟩) (gqn _ _ HO.out)
        have eS : ∀ o, w3.cell? ⟨gs, o, none⟩ = wr.cell? ⟨gs, o, none⟩ := fun o => World.cell?_of_block (w := wr) (a := ⟨gs, o, none⟩) gsn
        exact ⟨(eA _).trans a1, (eO _).trans o1, (eS _).trans c0, (eS _).trans c1, (eS _).trans c2⟩
      have A3 : Hid (w3.heap[w.heap.size]? = some (.cells #[.int .i64 now, .slice (some ⟨gs, 0, none⟩) ss.length cl] 32 (0, 0))) := (gqn _ _ HA.out).trans HA.out
      have R3 : Hid (w3.heap[w.heap.size + 1]? = some (.cells #[.int .i64 0, .slice none 0 0] 32 (0, 0))) := (gqn _ _ HR.out).trans HR.out
      have O3 : Hid (w3.heap[w.heap.size + 1 + 1 + 1]? = some (.cells #[.int .i64 now, .slice (some ⟨gq, 0, none⟩) k cq] 32 (0, 0))) := (gqn _ _ HO.out).trans HO.out
      have B3 : Hid (Below w.heap.size w w3) := (HW.out.trans (b2.mono hsz)).grown hg3 (Nat.le_trans hsz b2.size) (fun j hj => by have h1 := (own_lt HC.out.own gq rfl).1; have h2 : gq = j := Option.some.inj hj; omega)
      have HC3 : Hid (CAns w3 (w.heap.size + 2) g3 c3 (ts ++ [⟨some ⟨gp, 0, none⟩, cp, ys, x.since, x.bad⟩])) := C3
      have HYK : Hid (ys.map RV.key = x.xs.map RV.key) := hyk
      have q0 : w3.cell? ⟨w.heap.size + 1 + 1 + 1, 0, none⟩ = some (.int .i64 now) := cell_of_row _ _ _ _ _ _ O3.out
      have q1 : w3.cell? ⟨w.heap.size + 1 + 1 + 1, 1, none⟩ = some (.slice (some ⟨gq, 0, none⟩) k cq) := cell_of_row _ _ _ _ _ _ O3.out
      have fz3 : ∀ o, w3.frozen? ⟨w.heap.size + 1 + 1 + 1, o, none⟩ = false := fun o => Joins.unfrozen_of_block O3.out o
      refine hK.out _ _ (Or.inr S3) (fun hH1 => ?_)
      clear hK K hH1 hH
      have hH := S3
      simp only [Act.put, List.setIfInBounds_toArray, List.set_cons_zero, List.set_cons_succ]
      clear C3 C2 tS tN gqn gsn ho3 hg3 hn3 b1 b1' b2 RO2 PO hyk
      refine late_take 24 (some 40) (.pointer (some ⟨w.heap.size + 1 + 1 + 1, 1, none⟩)) rfl rfl (by kernel_rfl) (by kernel_rfl) (by kernel_rfl) (fun _ _ _ h => h) (by rfl) (fun w hS => by go_simp) hH ?_
      simp only [Act.put, List.setIfInBounds_toArray, List.set_cons_zero, List.set_cons_succ]
      refine late_one (i := 25) (by kernel_rfl) rfl (fun K hK => ?_)
      go_simp
      refine hK.out _ _ (Or.inl (by kernel_rfl)) (fun hH1 => ?_)
      clear hK K hH1
      refine late_done (by kernel_rfl) ?_ _
      clear hH S3 q0 q1 fz3 SK KP
      go_wp2
      go_roundw
      case rel =>
        refine ⟨k + 1, g3, c3, _, by omega, by go_num, (show _ = _ by rw [List.length_append, HT.out]; rfl), HC3.out.set O3.out ⟨by decide, by decide, by decide⟩ _, (show _ = _ by rw [List.map_append, HK.out, List.take_add_one, HX.out]; simp [SV.key, HYK.out]), (Below.heap_setCell _ _ _ _ (by simp only; omega)).trans A3.out, (Below.heap_setCell _ _ _ _ (by simp only; omega)).trans R3.out, (show _ = _ by rw [set_at O3.out]; rfl), Below.setCell B3.out (by simp only; omega) _⟩
      case measure => simp [intOf]; omega
    · obtain rfl : k = ss.length := by omega
      have r0 : wr.cell? ⟨w.heap.size + 1, 0, none⟩ = some (.int .i64 0) := cell_of_row _ _ _ _ _ _ HR.out
      have r1 : wr.cell? ⟨w.heap.size + 1, 1, none⟩ = some (.slice none 0 0) := cell_of_row _ _ _ _ _ _ HR.out
      have fz : ∀ o, wr.frozen? ⟨w.heap.size + 1, o, none⟩ = false := fun o => Joins.unfrozen_of_block HR.out o
      go_wp2
      refine bodyPost_ret (v := .agg #[.int .i64 now, .slice (some ⟨gq, 0, none⟩) ss.length cq]) (by simp [results, Tryz.results22, go_sem, r0, r1]) rfl ⟨gq, cq, ts, rfl, ?_, by rw [HK.out, List.take_length], Below.setCell (Below.setCell HW.out (by simp only; omega) _) (by simp only; omega) _⟩
      exact ((HC.out.set HR.out ⟨by decide, by decide, by decide⟩ _).set (set_at HR.out) ⟨by decide, by decide, by decide⟩ _).le (by omega)
end Go.Proofs.YtjbkgmbakjnlhabGreatDoor
