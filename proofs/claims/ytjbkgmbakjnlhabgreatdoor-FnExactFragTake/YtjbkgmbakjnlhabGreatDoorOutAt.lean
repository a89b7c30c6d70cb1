/- The program's outcomeAt. -/
import Derived.Test.YtjbkgmbakjnlhabGreatDoorPartAt
namespace Go.Proofs.YtjbkgmbakjnlhabGreatDoor
set_option maxRecDepth 100000
open Go.RowKit

theorem findK_no {k : K4} : ∀ {L : List (K4 × Nat)} (i : Nat), (∀ p ∈ L, p.1 ≠ k) → findK k L i = none
  | [], i, _ => rfl
  | q :: r, i, h => by
    have h1 : q.1 ≠ k := h q (List.mem_cons_self ..)
    have h2 := findK_no (k := k) (L := r) (i + 1) (fun p hp => h p (List.mem_cons_of_mem _ hp))
    unfold findK
    first | (rw [if_neg h1]; exact h2) | (rw [if_neg (fun e => h1 e.symm)]; exact h2) | (simp [h1, h2]) | (simp [Ne.symm h1, h2])
theorem RL.of_row {w : World} {g lo : Nat} {zs : List RV} (h : RowB w 33 g (zs.flatMap RV.cells)) (hd : ∀ y ∈ zs, DataB w lo y) : RL w g zs := by
  refine ⟨h.lt, fun k x hx => ?_, fun x hx => (hd x hx).rok⟩
  have e : ∀ j v, j < 9 → x.cells[j]? = some v → w.cell? ⟨g, k * 9 + j, none⟩ = some v := fun j v hj hv => h.cell (by rw [flatR_at zs k j x hx hj]; exact hv)
  exact ⟨e 0 _ (by omega) rfl, e 1 _ (by omega) rfl, e 2 _ (by omega) rfl, e 3 _ (by omega) rfl, e 4 _ (by omega) rfl, e 5 _ (by omega) rfl, e 6 _ (by omega) rfl, e 7 _ (by omega) rfl, e 8 _ (by omega) rfl⟩
/-- the slot that opens with a piece -/
def newSlot (x : RV) (gP : Nat) (now : Int) : SV := { a := some ⟨gP, 0, none⟩, c := 1, xs := [x], since := now, bad := false }
/-- what comes of a piece -/
def OutAt (now : Int) (es : List Ent) (k : K4) (x : RV) (w : World) (e : Ending) (w' : World) : Prop := Below w.heap.size w w' ∧
  (((∀ e ∈ es, e.k ≠ k) ∧ ∃ sb gP, e = .returned (oOpens sb) ∧ w.heap.size ≤ sb ∧ w.heap.size ≤ gP ∧ w'.heap[sb]? = some (newSlot x gP now).box ∧ RowB w' 33 gP x.cells) ∨
   ∃ e0 ∈ es, e0.k = k ∧ ((e0.s.bad = true ∧ e = .returned (oStays 4)) ∨ (e0.s.bad = false ∧ x.key ∈ e0.s.xs.map RV.key ∧ e = .returned (oStays 3)) ∨
     (e0.s.bad = false ∧ x.key ∉ e0.s.xs.map RV.key ∧ e0.s.xs.length = 40 ∧ e = .returned oSpoils) ∨
     (e0.s.bad = false ∧ x.key ∉ e0.s.xs.map RV.key ∧ e0.s.xs.length ≠ 40 ∧ ∃ g c, w'.ownsRow w.heap.size 33 9 (.slice (some ⟨g, 0, none⟩) (e0.s.xs.length + 1) c) (e0.s.xs.length + 1) ((e0.s.xs ++ [x]).flatMap RV.cells) ∧
       (((joinL ((e0.s.xs ++ [x]).map RV.key)).1 = 0 ∧ ∃ a n, e = .returned (oGoes (joinL ((e0.s.xs ++ [x]).map RV.key)).2.1 (.slice a (joinL ((e0.s.xs ++ [x]).map RV.key)).2.2.length n)) ∧ w'.ownsRow w.heap.size 5 1 (.slice a (joinL ((e0.s.xs ++ [x]).map RV.key)).2.2.length n) (joinL ((e0.s.xs ++ [x]).map RV.key)).2.2.length ((joinL ((e0.s.xs ++ [x]).map RV.key)).2.2.map (.int .u8))) ∨
        ((joinL ((e0.s.xs ++ [x]).map RV.key)).1 = 3 ∧ e = .returned (oGrows (.slice (some ⟨g, 0, none⟩) (e0.s.xs.length + 1) c))) ∨
        ((joinL ((e0.s.xs ++ [x]).map RV.key)).1 ≠ 0 ∧ (joinL ((e0.s.xs ++ [x]).map RV.key)).1 ≠ 3 ∧ e = .returned oSpoils)))))

set_option maxRecDepth 100000 in
set_option maxHeartbeats 6400000 in
theorem outcomeAt_any (lo ob mb : Nat) (ov : Value) (now : Int) (es : List Ent) (k : K4) (x : RV) (w : World) (h : OpenB w lo ob mb ov now es) (hx : DataB w lo x) (hl : ∀ e ∈ es, e.s.xs.length ≤ 1000) :
    Calls Tryz.prog 57 #[.pointer (some ⟨ob, 0, none⟩), kval k, x.p.val (.slice x.a x.zs.length x.c)] w (OutAt now es k x w) := by
  have H0 : Hid (OpenB w lo ob mb ov now es) := h
  have HX : Hid (DataB w lo x) := hx
  have x0 : w.cell? ⟨ob, 0, none⟩ = some (.int .i64 now) := cell_of_row _ _ _ _ _ _ h.box
  have x2 : w.cell? ⟨ob, 2, none⟩ = some (.map (some mb)) := cell_of_row _ _ _ _ _ _ h.box
  have lob := lt_of_block h.box
  have lmb := h.map_.lt
  have hlow := h.low
  have LK0 := fun (u : World) (hu : MapIs u mb (es.map fun e => (e.k, e.b))) => lookup_k4 hu k
  unfold kval Pk.val
  unfold kval at LK0
  clear h hx
  obtain ⟨W, hW⟩ : ∃ W, W = (w.alloc (.cells #[.int .i64 k.1, .int .i64 k.2.1, .int .i64 k.2.2.1, .int .i64 k.2.2.2] 93)).alloc (.cells #[.int .i64 x.p.src, .int .i64 x.p.dst, .int .i64 x.p.kind, .int .i64 x.p.id, .int .i64 x.p.hops, .bool x.p.whole, .int .i64 x.p.off, .bool x.p.more, .slice x.a x.zs.length x.c] 33) := ⟨_, rfl⟩
  have bW : Below w.heap.size w W := by rw [hW]; exact Joins.below_alloc2 _ _ _
  have sW : W.heap.size = w.heap.size + 2 := by rw [hW]; simp
  have KA : KeyAt W w.heap.size k := by
    rw [hW]
    exact KeyAt.of_block ((Below.heap_alloc _ _ _ (by simp)).trans (heap_new _ _ _ rfl))
  have PB0 : Boxed W (w.heap.size + 1) x.p (.slice x.a x.zs.length x.c) := by
    rw [hW]
    have h := Boxed.new (w.alloc (.cells #[.int .i64 k.1, .int .i64 k.2.1, .int .i64 k.2.2.1, .int .i64 k.2.2.2] 93)) x.p (.slice x.a x.zs.length x.c) 33
    simp at h
    exact h
  have y0 : W.cell? ⟨ob, 0, none⟩ = some (.int .i64 now) := (bW.cell (p := ⟨ob, 0, none⟩) lob).trans x0
  have y2 : W.cell? ⟨ob, 2, none⟩ = some (.map (some mb)) := (bW.cell (p := ⟨ob, 2, none⟩) lob).trans x2
  have OW : Hid (OpenB W lo ob mb ov now es) := H0.out.below bW
  have XW : Hid (DataB W lo x) := HX.out.below bW
  go_enter Tryz.func57, Tryz.ntmps57
  go_wp2
  rw [← hW]
  clear hW x0 x2
  refine wp_region_held_drew (S := fun W => KeyAt W w.heap.size k ∧ W.cell? ⟨ob, 2, none⟩ = some (.map (some mb)) ∧ MapIs W mb (es.map fun (e : Ent) => (e.k, e.b))) (by kernel_rfl) ⟨KA, y2, OW.out.map_.kept rfl⟩ (fun hH => ?_)
  refine take_held 0 (some 8) (.pointer (some ⟨ob, 0, none⟩)) rfl rfl (by kernel_rfl) (by kernel_rfl) (by kernel_rfl) (fun _ _ _ h => h) (by rfl) (fun w hS => by go_simp) hH ?_
  simp only [Act.put, List.setIfInBounds_toArray, List.set_cons_zero, List.set_cons_succ]
  refine take_held 1 (some 9) (.pointer (some ⟨ob, 0, none⟩)) rfl rfl (by kernel_rfl) (by kernel_rfl) (by kernel_rfl) (fun _ _ _ h => h) (by rfl) (fun w hS => by go_simp) hH ?_
  simp only [Act.put, List.setIfInBounds_toArray, List.set_cons_zero, List.set_cons_succ]
  refine take_held 2 (some 10) (.pointer (some ⟨ob, 2, none⟩)) rfl rfl (by kernel_rfl) (by kernel_rfl) (by kernel_rfl) (fun _ _ _ h => h) (by rfl) (fun w hS => by go_simp) hH ?_
  simp only [Act.put, List.setIfInBounds_toArray, List.set_cons_zero, List.set_cons_succ]
  refine take_held 3 (some 11) (.map (some mb)) rfl rfl (by kernel_rfl) (by kernel_rfl) (by kernel_rfl) (fun _ _ _ h => h) (by rfl) (fun w hS => by obtain ⟨⟨s0, s1, s2, s3⟩, s4, s5⟩ := hS; go_simp) hH ?_
  simp only [Act.put, List.setIfInBounds_toArray, List.set_cons_zero, List.set_cons_succ]
  refine take_held 4 (some 12) (.agg #[.int .i64 k.1, .int .i64 k.2.1, .int .i64 k.2.2.1, .int .i64 k.2.2.2]) rfl rfl (by kernel_rfl) (by kernel_rfl) (by kernel_rfl) (fun _ _ _ h => h) (by rfl) (fun w hS => by obtain ⟨⟨s0, s1, s2, s3⟩, s4, s5⟩ := hS; go_simp) hH ?_
  simp only [Act.put, List.setIfInBounds_toArray, List.set_cons_zero, List.set_cons_succ]
  refine take_held 5 (some 13) (slotVal (slotOf k (es.map fun e => (e.k, e.b)))) rfl rfl (by kernel_rfl) (by kernel_rfl) (by kernel_rfl) (fun _ _ _ h => h) (by rfl) (fun w hS => by obtain ⟨⟨s0, s1, s2, s3⟩, s4, s5⟩ := hS; have hlk := LK0 w s5; go_simp) hH ?_
  simp only [Act.put, List.setIfInBounds_toArray, List.set_cons_zero, List.set_cons_succ]
  refine take_held 6 (some 7) (slotVal (slotOf k (es.map fun e => (e.k, e.b)))) rfl rfl (by kernel_rfl) (by kernel_rfl) (by kernel_rfl) (fun _ _ _ h => h) (by rfl) (fun w hS => by go_simp) hH ?_
  simp only [Act.put, List.setIfInBounds_toArray, List.set_cons_zero, List.set_cons_succ]
  refine wpAnyH_done (by kernel_rfl) ?_ _
  have bV : Below W.heap.size W W.drew := (Below.refl _ _).drew
  generalize W.drew = V at bV ⊢
  have PBV := PB0.below bV
  have OV : Hid (OpenB V lo ob mb ov now es) := OW.out.below bV
  have XV : Hid (DataB V lo x) := XW.out.below bV
  have z0 : V.cell? ⟨ob, 0, none⟩ = some (.int .i64 now) := (bV.cell (p := ⟨ob, 0, none⟩) (by simp only; omega)).trans y0
  have BV : Hid (Below w.heap.size w V) := bW.trans (bV.mono bW.size)
  have sV : w.heap.size + 2 ≤ V.heap.size := by have := bV.size; omega
  clear hH LK0 KA PB0 y0 y2 OW XW bV bW sW
  by_cases hno : ∀ e ∈ es, e.k ≠ k
  · have hs : slotVal (slotOf k (es.map fun e => (e.k, e.b))) = .pointer none := by
      unfold slotOf
      rw [findK_no 0 (fun p hp => by obtain ⟨e, he, rfl⟩ := List.mem_map.1 hp; exact hno e he)]
      rfl
    rw [hs]
    clear hs
    go_wp2
    refine wp_region_held_drew (S := fun U => Boxed U (w.heap.size + 1) x.p (.slice x.a x.zs.length x.c) ∧ U.cell? ⟨ob, 0, none⟩ = some (.int .i64 now)) (by kernel_rfl) ⟨PBV.below ((Below.refl _ _).drew), z0⟩ (fun hH => ?_)
    refine take_held 0 (some 17) (.agg #[.int .i64 x.p.src, .int .i64 x.p.dst, .int .i64 x.p.kind, .int .i64 x.p.id, .int .i64 x.p.hops, .bool x.p.whole, .int .i64 x.p.off, .bool x.p.more, .slice x.a x.zs.length x.c]) rfl rfl (by kernel_rfl) (by kernel_rfl) (by kernel_rfl) (fun _ _ _ h => h) (by rfl) (fun w hS => by obtain ⟨⟨_, s0, s1, s2, s3, s4, s5, s6, s7, s8⟩, t0⟩ := hS; go_simp) hH ?_
    simp only [Act.put, List.setIfInBounds_toArray, List.set_cons_zero, List.set_cons_succ]
    refine take_held 2 (some 19) (.pointer (some ⟨ob, 0, none⟩)) rfl rfl (by kernel_rfl) (by kernel_rfl) (by kernel_rfl) (fun _ _ _ h => h) (by rfl) (fun w hS => by go_simp) hH ?_
    simp only [Act.put, List.setIfInBounds_toArray, List.set_cons_zero, List.set_cons_succ]
    refine take_held 3 (some 20) (.pointer (some ⟨ob, 0, none⟩)) rfl rfl (by kernel_rfl) (by kernel_rfl) (by kernel_rfl) (fun _ _ _ h => h) (by rfl) (fun w hS => by go_simp) hH ?_
    simp only [Act.put, List.setIfInBounds_toArray, List.set_cons_zero, List.set_cons_succ]
    refine take_held 4 (some 21) (.pointer (some ⟨ob, 0, none⟩)) rfl rfl (by kernel_rfl) (by kernel_rfl) (by kernel_rfl) (fun _ _ _ h => h) (by rfl) (fun w hS => by go_simp) hH ?_
    simp only [Act.put, List.setIfInBounds_toArray, List.set_cons_zero, List.set_cons_succ]
    refine take_held 5 (some 22) (.int .i64 now) rfl rfl (by kernel_rfl) (by kernel_rfl) (by kernel_rfl) (fun _ _ _ h => h) (by rfl) (fun w hS => by obtain ⟨⟨_, s0, s1, s2, s3, s4, s5, s6, s7, s8⟩, t0⟩ := hS; go_simp) hH ?_
    simp only [Act.put, List.setIfInBounds_toArray, List.set_cons_zero, List.set_cons_succ]
    refine wpAnyH_ready (rs := [1]) (by kernel_rfl) (by simp) ?_
    refine AllReadyH.cons rfl (fun K hK => ?_) AllReadyH.nil
    go_simp
    obtain ⟨V1, hV1⟩ : ∃ V1, V1 = (V.alloc (.cells #[.int .i64 x.p.src, .int .i64 x.p.dst, .int .i64 x.p.kind, .int .i64 x.p.id, .int .i64 x.p.hops, .bool x.p.whole, .int .i64 x.p.off, .bool x.p.more, .slice x.a x.zs.length x.c] 33)).drew := ⟨_, rfl⟩
    have b1 : Below V.heap.size V V1 := by rw [hV1]; exact (Joins.below_alloc1 _ _).drew
    have n1 : V1.heap[V.heap.size]? = some (.cells #[.int .i64 x.p.src, .int .i64 x.p.dst, .int .i64 x.p.kind, .int .i64 x.p.id, .int .i64 x.p.hops, .bool x.p.whole, .int .i64 x.p.off, .bool x.p.more, .slice x.a x.zs.length x.c] 33 (0, 0)) := by rw [hV1]; exact heap_new _ _ _ rfl
    have s1 : V1.heap.size = V.heap.size + 1 := by rw [hV1]; simp
    rw [← hV1]
    refine hK.out _ _ ⟨PBV.below b1, (b1.cell (p := ⟨ob, 0, none⟩) (by simp only; omega)).trans z0⟩ (fun hH => ?_)
    clear hK K hV1
    refine take_held 6 (some 23) (.agg #[.slice (some ⟨V.heap.size, 0, none⟩) 1 1, .int .i64 now, .bool false]) rfl rfl (by kernel_rfl) (by kernel_rfl) (by kernel_rfl) (fun _ _ _ h => h) (by rfl) (fun w hS => by go_simp) hH ?_
    simp only [Act.put, List.setIfInBounds_toArray, List.set_cons_zero, List.set_cons_succ]
    refine wpAnyH_ready (rs := [7]) (by kernel_rfl) (by simp) ?_
    refine AllReadyH.cons rfl (fun K hK => ?_) AllReadyH.nil
    go_simp
    obtain ⟨V2, hV2⟩ : ∃ V2, V2 = V1.alloc (.cells #[.slice (some ⟨V.heap.size, 0, none⟩) 1 1, .int .i64 now, .bool false] 71) := ⟨_, rfl⟩
    have b2 : Below V1.heap.size V1 V2 := by rw [hV2]; exact Joins.below_alloc1 _ _
    have n2 : V2.heap[V1.heap.size]? = some (.cells #[.slice (some ⟨V.heap.size, 0, none⟩) 1 1, .int .i64 now, .bool false] 71 (0, 0)) := by rw [hV2]; exact heap_new _ _ _ rfl
    rw [← hV2]
    refine hK.out _ _ ⟨(PBV.below b1).below b2, (b2.cell (p := ⟨ob, 0, none⟩) (by simp only; omega)).trans ((b1.cell (p := ⟨ob, 0, none⟩) (by simp only; omega)).trans z0)⟩ (fun hH => ?_)
    clear hK K hV2
    refine take_held 8 (some 25) (.agg #[.pointer (some ⟨V1.heap.size, 0, none⟩)]) rfl rfl (by kernel_rfl) (by kernel_rfl) (by kernel_rfl) (fun _ _ _ h => h) (by rfl) (fun w hS => by go_simp) hH ?_
    simp only [Act.put, List.setIfInBounds_toArray, List.set_cons_zero, List.set_cons_succ]
    refine take_held 9 (some 26) (.iface 135 (.agg #[.pointer (some ⟨V1.heap.size, 0, none⟩)])) rfl rfl (by kernel_rfl) (by kernel_rfl) (by kernel_rfl) (fun _ _ _ h => h) (by rfl) (fun w hS => by go_simp) hH ?_
    simp only [Act.put, List.setIfInBounds_toArray, List.set_cons_zero, List.set_cons_succ]
    refine take_held 10 (some 6) (.iface 135 (.agg #[.pointer (some ⟨V1.heap.size, 0, none⟩)])) rfl rfl (by kernel_rfl) (by kernel_rfl) (by kernel_rfl) (fun _ _ _ h => h) (by rfl) (fun w hS => by go_simp) hH ?_
    simp only [Act.put, List.setIfInBounds_toArray, List.set_cons_zero, List.set_cons_succ]
    refine wpAnyH_done (by kernel_rfl) ?_ _
    have FIN : Hid (OutAt now es k x w (.returned (.iface 135 (.agg #[.pointer (some ⟨V1.heap.size, 0, none⟩)]))) V2) := ⟨BV.out.trans (((b1.trans (b2.mono (by omega))).mono (by omega))), Or.inl ⟨hno, V1.heap.size, V.heap.size, rfl, by omega, by omega, n2, (show RowB V2 _ _ _ from ⟨_, (b2.block _ (by omega)).trans n1, rfl⟩)⟩⟩
    clear hH b1 b2 n1 n2
    go_wp2
    go_ret
    exact FIN.out
  · obtain ⟨e0, he0, hk0⟩ : ∃ e0 ∈ es, e0.k = k := by
      refine Classical.byContradiction fun hc => hno fun e he hk => hc ⟨e, he, hk⟩
    have hs : slotVal (slotOf k (es.map fun e => (e.k, e.b))) = .pointer (some ⟨e0.b, 0, none⟩) := by
      rw [slotOf_some (List.mem_map.2 ⟨e0, he0, by rw [hk0]⟩) (by rw [List.map_map]; exact H0.out.keys)]
      rfl
    rw [hs]
    clear hs
    have hsb := OV.out.slot e0 he0
    have c0 : V.cell? ⟨e0.b, 0, none⟩ = some (.slice e0.s.a e0.s.xs.length e0.s.c) := cell_of_row _ _ _ _ _ _ hsb
    have c2 : V.cell? ⟨e0.b, 2, none⟩ = some (.bool e0.s.bad) := cell_of_row _ _ _ _ _ _ hsb
    have lsb := lt_of_block hsb
    have HL := hl e0 he0
    have HSl : Hid (SlotB V lo e0.s) := OV.out.forest.each e0.s (List.mem_map.2 ⟨e0, he0, rfl⟩)
    have HE : Hid (e0 ∈ es ∧ e0.k = k) := ⟨he0, hk0⟩
    clear hsb hno hl he0 hk0
    cases hbad : e0.s.bad
    case true =>
      rw [hbad] at c2
      have FIN : Hid (OutAt now es k x w (.returned (oStays 4)) V) := ⟨BV.out, Or.inr ⟨e0, HE.out.1, HE.out.2, Or.inl ⟨hbad, rfl⟩⟩⟩
      unfold oStays at FIN
      clear hbad
      go_wp2
      go_ret
      exact FIN.out
    case false =>
      rw [hbad] at c2
      have HBAD : Hid (e0.s.bad = false) := hbad
      have KH : Hid (Calls Tryz.prog 82 #[.pointer (some ⟨e0.b, 0, none⟩), .agg #[.int .i64 x.p.src, .int .i64 x.p.dst, .int .i64 x.p.kind, .int .i64 x.p.id, .int .i64 x.p.hops, .bool x.p.whole, .int .i64 x.p.off, .bool x.p.more, .slice x.a x.zs.length x.c]] V fun e w' => ∃ b : Bool, e = .returned (.bool b) ∧ (b = true ↔ x.key ∈ e0.s.xs.map RV.key) ∧ Below V.heap.size V w') := (by have h := hasPiece_any e0.b lo lo e0.s x V HSl.out c0 XV.out; unfold Pk.val at h; exact h)
      obtain ⟨lp, p0, p1, p2, p3, p4, p5, p6, p7, p8⟩ := id PBV
      clear hbad
      go_wp2_with fail
      refine KH.out.mono ?_
      rintro e V1 ⟨b, rfl, hb, b1⟩
      have B1 : Hid (Below w.heap.size w V1) := BV.out.trans (b1.mono (by omega))
      have P1 := PBV.below b1
      have S1 : Hid (SlotB V1 lo e0.s) := HSl.out.below b1
      have X1 : Hid (DataB V1 lo x) := XV.out.below b1
      have d0 : V1.cell? ⟨e0.b, 0, none⟩ = some (.slice e0.s.a e0.s.xs.length e0.s.c) := (b1.cell (p := ⟨e0.b, 0, none⟩) lsb).trans c0
      have l1 := b1.size
      clear p0 p1 p2 p3 p4 p5 p6 p7 p8 c0 c2 KH b1 PBV z0 OV XV HSl BV
      cases b
      case true =>
        have FIN : Hid (OutAt now es k x w (.returned (oStays 3)) V1) := ⟨B1.out, Or.inr ⟨e0, HE.out.1, HE.out.2, Or.inr (Or.inl ⟨HBAD.out, hb.1 rfl, rfl⟩)⟩⟩
        unfold oStays at FIN
        clear hb
        go_wp2
        go_ret
        exact FIN.out
      case false =>
        have HN : Hid (x.key ∉ e0.s.xs.map RV.key) := fun h => by cases hb.2 h
        clear hb
        by_cases h40 : (e0.s.xs.length : Int) = 40
        · have FIN : Hid (OutAt now es k x w (.returned oSpoils) V1) := ⟨B1.out, Or.inr ⟨e0, HE.out.1, HE.out.2, Or.inr (Or.inr (Or.inl ⟨HBAD.out, HN.out, by omega, rfl⟩))⟩⟩
          unfold oSpoils at FIN
          go_wp2
          go_ret
          exact FIN.out
        · have h40' : e0.s.xs.length ≠ 40 := by omega
          go_wp2
          obtain ⟨gL, hga, _, hrow⟩ := S1.out.at_
          rw [hga] at d0
          have HR : Hid (RowB V1 33 gL (e0.s.xs.flatMap RV.cells)) := hrow
          refine wp_region_held_drew (S := fun U => Boxed U (w.heap.size + 1) x.p (.slice x.a x.zs.length x.c) ∧ U.cell? ⟨e0.b, 0, none⟩ = some (.slice (some ⟨gL, 0, none⟩) e0.s.xs.length e0.s.c)) (by kernel_rfl) ⟨P1.below ((Below.refl _ _).drew), d0⟩ (fun hH => ?_)
          refine take_held 0 (some 49) (.pointer (some ⟨e0.b, 0, none⟩)) rfl rfl (by kernel_rfl) (by kernel_rfl) (by kernel_rfl) (fun _ _ _ h => h) (by rfl) (fun w hS => by go_simp) hH ?_
          simp only [Act.put, List.setIfInBounds_toArray, List.set_cons_zero, List.set_cons_succ]
          refine take_held 1 (some 50) (.pointer (some ⟨e0.b, 0, none⟩)) rfl rfl (by kernel_rfl) (by kernel_rfl) (by kernel_rfl) (fun _ _ _ h => h) (by rfl) (fun w hS => by go_simp) hH ?_
          simp only [Act.put, List.setIfInBounds_toArray, List.set_cons_zero, List.set_cons_succ]
          refine take_held 2 (some 51) (.pointer (some ⟨e0.b, 0, none⟩)) rfl rfl (by kernel_rfl) (by kernel_rfl) (by kernel_rfl) (fun _ _ _ h => h) (by rfl) (fun w hS => by go_simp) hH ?_
          simp only [Act.put, List.setIfInBounds_toArray, List.set_cons_zero, List.set_cons_succ]
          refine take_held 3 (some 52) (.slice (some ⟨gL, 0, none⟩) e0.s.xs.length e0.s.c) rfl rfl (by kernel_rfl) (by kernel_rfl) (by kernel_rfl) (fun _ _ _ h => h) (by rfl) (fun w hS => by obtain ⟨⟨_, s0, s1, s2, s3, s4, s5, s6, s7, s8⟩, t0⟩ := hS; go_simp) hH ?_
          simp only [Act.put, List.setIfInBounds_toArray, List.set_cons_zero, List.set_cons_succ]
          refine take_held 4 (some 53) (.agg #[.int .i64 x.p.src, .int .i64 x.p.dst, .int .i64 x.p.kind, .int .i64 x.p.id, .int .i64 x.p.hops, .bool x.p.whole, .int .i64 x.p.off, .bool x.p.more, .slice x.a x.zs.length x.c]) rfl rfl (by kernel_rfl) (by kernel_rfl) (by kernel_rfl) (fun _ _ _ h => h) (by rfl) (fun w hS => by obtain ⟨⟨_, s0, s1, s2, s3, s4, s5, s6, s7, s8⟩, t0⟩ := hS; go_simp) hH ?_
          simp only [Act.put, List.setIfInBounds_toArray, List.set_cons_zero, List.set_cons_succ]
          refine wpAnyH_ready (rs := [5]) (by kernel_rfl) (by simp) ?_
          refine AllReadyH.cons rfl (fun K hK => ?_) AllReadyH.nil
          go_simp
          obtain ⟨V2, hV2⟩ : ∃ V2, V2 = (V1.alloc (.cells #[.int .i64 x.p.src, .int .i64 x.p.dst, .int .i64 x.p.kind, .int .i64 x.p.id, .int .i64 x.p.hops, .bool x.p.whole, .int .i64 x.p.off, .bool x.p.more, .slice x.a x.zs.length x.c] 33)).drew := ⟨_, rfl⟩
          have b2 : Below V1.heap.size V1 V2 := by rw [hV2]; exact (Joins.below_alloc1 _ _).drew
          have n2 : V2.heap[V1.heap.size]? = some (.cells #[.int .i64 x.p.src, .int .i64 x.p.dst, .int .i64 x.p.kind, .int .i64 x.p.id, .int .i64 x.p.hops, .bool x.p.whole, .int .i64 x.p.off, .bool x.p.more, .slice x.a x.zs.length x.c] 33 (0, 0)) := by rw [hV2]; exact heap_new _ _ _ rfl
          have s2 : V2.heap.size = V1.heap.size + 1 := by rw [hV2]; simp
          rw [← hV2]
          refine hK.out _ _ ⟨P1.below b2, (b2.cell (p := ⟨e0.b, 0, none⟩) (by simp only; omega)).trans d0⟩ (fun hH => ?_)
          clear hK K hV2
          refine wpAnyH_ready (rs := [6]) (by kernel_rfl) (by simp) ?_
          refine AllReadyH.cons rfl (fun K hK => ?_) AllReadyH.nil
          go_simp
          obtain ⟨V3, hV3⟩ : ∃ V3, V3 = V2.alloc (.cells #[.slice (some ⟨gL, 0, none⟩) e0.s.xs.length e0.s.c, .slice (some ⟨V1.heap.size, 0, none⟩) 1 1] 69) := ⟨_, rfl⟩
          have b3 : Below V2.heap.size V2 V3 := by rw [hV3]; exact Joins.below_alloc1 _ _
          have n3 : V3.heap[V2.heap.size]? = some (.cells #[.slice (some ⟨gL, 0, none⟩) e0.s.xs.length e0.s.c, .slice (some ⟨V1.heap.size, 0, none⟩) 1 1] 69 (0, 0)) := by rw [hV3]; exact heap_new _ _ _ rfl
          rw [← hV3]
          have n3' := n3
          rw [s2] at n3'
          have b13 : Below V1.heap.size V1 V3 := b2.trans (b3.mono (by omega))
          refine hK.out _ _ ⟨P1.below b13, (b13.cell (p := ⟨e0.b, 0, none⟩) (by simp only; omega)).trans d0⟩ (fun hH => ?_)
          clear hK K hV3
          have KC : Hid (Calls Tryz.prog 84 #[.slice (some ⟨V1.heap.size + 1, 0, none⟩) 2 2] V3 fun e w' => ∃ g c, e = .returned (.slice (some ⟨g, 0, none⟩) (e0.s.xs.length + 1) c) ∧ w'.ownsRow V3.heap.size 33 9 (.slice (some ⟨g, 0, none⟩) (e0.s.xs.length + 1) c) (e0.s.xs.length + 1) (e0.s.xs.flatMap RV.cells ++ x.cells) ∧ Below V3.heap.size V3 w') := concatP_any (V1.heap.size + 1) gL V1.heap.size e0.s.c e0.s.xs x V3 (cell_of_row _ _ _ _ _ _ n3') (cell_of_row _ _ _ _ _ _ n3') (HR.out.kept (b13.block _ HR.out.lt)) ⟨_, (b3.block _ (by omega)).trans n2, rfl⟩ HL
          refine wpAnyH_ready (rs := [7]) (by kernel_rfl) (by simp) ?_
          refine AllReadyH.cons rfl (fun K hK => ?_) AllReadyH.nil
          go_simp
          (with_reducible refine KC.out.mono ?_)
          rintro e V4 ⟨g, c, rfl, ow4, b4⟩
          have b14 : Below V1.heap.size V1 V4 := b13.trans (b4.mono b13.size)
          have e9 : e0.s.xs.flatMap RV.cells ++ x.cells = (e0.s.xs ++ [x]).flatMap RV.cells := by simp
          rw [e9] at ow4
          have RL4 : RL V4 g (e0.s.xs ++ [x]) := RL.of_row (lo := lo) (RowB.of_own ow4) (fun y hy => by
            rcases List.mem_append.1 hy with h | h
            · exact (S1.out.each y h).below b14
            · rw [List.mem_singleton.1 h]; exact X1.out.below b14)
          have e10 : (e0.s.xs ++ [x]).length = e0.s.xs.length + 1 := by simp
          have KO : Hid (Calls Tryz.prog 83 #[.slice (some ⟨g, 0, none⟩) (e0.s.xs.length + 1) c] V4 (OutPost (joinL ((e0.s.xs ++ [x]).map RV.key)) (.slice (some ⟨g, 0, none⟩) (e0.s.xs.length + 1) c) V4)) := (by have h := outcomeOf_any g c (e0.s.xs ++ [x]) V4 RL4 (by rw [e10]; omega); rw [e10] at h; exact h)
          clear e10 e9
          go_simp
          refine hK.out _ _ ⟨P1.below b14, (b14.cell (p := ⟨e0.b, 0, none⟩) (by simp only; omega)).trans d0⟩ (fun hH => ?_)
          clear hK K
          refine wpAnyH_ready (rs := [8]) (by kernel_rfl) (by simp) ?_
          refine AllReadyH.cons rfl (fun K hK => ?_) AllReadyH.nil
          go_simp
          (with_reducible refine KO.out.mono ?_)
          rintro e V5 ⟨b5, ho⟩
          have b15 : Below V1.heap.size V1 V5 := b14.trans (b5.mono b14.size)
          have hsl : w.heap.size ≤ V3.heap.size := by have := b13.size; omega
          have hsl4 : w.heap.size ≤ V4.heap.size := by have := b14.size; omega
          have FIN : Hid (OutAt now es k x w e V5) := ⟨B1.out.trans (b15.mono (by omega)), Or.inr ⟨e0, HE.out.1, HE.out.2, Or.inr (Or.inr (Or.inr ⟨HBAD.out, HN.out, h40', g, c, Joins.ownsRow_le (own_below ow4 b5) hsl, ho.imp (fun ⟨h1, a, n, h2, h3⟩ => ⟨h1, a, n, h2, Joins.ownsRow_le h3 hsl4⟩) id⟩))⟩⟩
          have HV : Hid (∃ v, e = .returned v) := by
            rcases ho with ⟨_, a, n, h2, _⟩ | ⟨_, h2⟩ | ⟨_, _, h2⟩
            · exact ⟨_, h2⟩
            · exact ⟨_, h2⟩
            · exact ⟨_, h2⟩
          obtain ⟨v, rfl⟩ := HV.out
          clear ho HV
          go_simp
          refine hK.out _ _ ⟨P1.below b15, (b15.cell (p := ⟨e0.b, 0, none⟩) (by simp only; omega)).trans d0⟩ (fun hH => ?_)
          clear hK K
          refine take_held 9 (some 6) (v) rfl rfl (by kernel_rfl) (by kernel_rfl) (by kernel_rfl) (fun _ _ _ h => h) (by rfl) (fun w hS => by go_simp) hH ?_
          simp only [Act.put, List.setIfInBounds_toArray, List.set_cons_zero, List.set_cons_succ]
          refine wpAnyH_done (by kernel_rfl) ?_ _
          clear hH b2 b3 b13 b14 b15 b4 b5 n2 n3 n3' KC KO RL4 ow4
          go_wp2
          go_ret
          exact FIN.out
end Go.Proofs.YtjbkgmbakjnlhabGreatDoor
