/- The specification's FragTick. -/
import Derived.Test.YtjbkgmbakjnlhabGreatDoorSCopy
import Derived.Test.YtjbkgmbakjnlhabGreatDoorPartAr
namespace Go.Proofs.YtjbkgmbakjnlhabGreatDoor
set_option maxRecDepth 100000
open Go.RowKit

def keepS (now : Int) (s : SV) : Bool := decide (now - 6 < s.since)
theorem keepS_keys (now : Int) (ts : List SV) : (ts.filter (keepS now)).map SV.key = (ts.map SV.key).filter (fun k => decide (now - 6 < k.2.1)) := by
  rw [List.filter_map]
  rfl
theorem keepS_take (now : Int) {ts : List SV} {k : Nat} {x : SV} (hx : ts[k]? = some x) : (ts.take (k + 1)).filter (keepS now) = (ts.take k).filter (keepS now) ++ (if keepS now x = true then [x] else []) := by
  rw [List.take_add_one, hx, List.filter_append]
  simp [List.filter_cons]

theorem AnsB.set {w : World} {lo g r o : Nat} {ts : List SV} {cur : Array Value} {t : TypeId} (h : AnsB w lo g ts) (hr : w.heap[r]? = some (.cells cur t (0, 0))) (ht : t ≠ 71 ∧ t ≠ 5 ∧ t ≠ 33) (v : Value) : AnsB (w.setCell ⟨r, o, none⟩ v) lo g ts := by
  have nc : ∀ {b : Nat} {cu : Array Value} {t' : TypeId}, w.heap[b]? = some (.cells cu t' (0, 0)) → t ≠ t' → (w.setCell ⟨r, o, none⟩ v).heap[b]? = w.heap[b]? := fun {b cu t'} hb hn => Below.heap_setCell _ _ _ _ (fun e => by
    simp only at e
    rw [e, hr] at hb
    cases hb
    exact hn rfl)
  refine ⟨h.low, ?_, h.forest.kept fun b hb => ?_⟩
  · obtain ⟨cu, hc, _⟩ := id h.row
    exact h.row.kept (nc hc ht.1)
  · obtain ⟨_, _, cu, t', hc, ht'⟩ := h.forest.blk b hb
    rcases ht' with rfl | rfl
    · exact nc hc ht.2.1
    · exact nc hc ht.2.2
set_option maxRecDepth 100000 in
set_option maxHeartbeats 6400000 in
theorem specTick_any (now : Int) (oa : Option Addr) (cl : Nat) (ss : List SV) (w : World) (hL : SLq w oa ss) (hm : ss.length ≤ 1048576) (hc : ss.length ≤ cl) (hcm : cl ≤ 9223372036854775807) :
    Calls Tryz.prog 17 #[.agg #[.int .i64 now, .slice oa ss.length cl]] w (TickPost now ss w) := by
  obtain ⟨ti, hti, hy0, hy1, hy2⟩ := info_parts Tryz.infoSlot
  have KB : Hid (∀ W : World, Below w.heap.size w W → Calls Tryz.prog 21 #[.agg #[.int .i64 now, .slice oa ss.length cl]] W (SaysB (benchOk now ss) W)) := fun W h => specBenchOk_q now oa cl ss W (hL.below h) hm hc hcm
  have KC : Hid (∀ W : World, Below w.heap.size w W → Calls Tryz.prog 22 #[.agg #[.int .i64 now, .slice oa ss.length cl]] W fun e w' => ∃ g c ts, e = .returned (.agg #[.int .i64 now, .slice (some ⟨g, 0, none⟩) ss.length c]) ∧ CAns w' W.heap.size g c ts ∧ ts.map SV.key = ss.map SV.key ∧ Below W.heap.size W w') := fun W h => l4Copy_any now oa cl ss W (hL.below h) hm
  clear hL
  go_enter Tryz.func17, Tryz.ntmps17
  go_wp2_with fail
  refine (KB.out _ (Joins.below_alloc2 _ _ _)).mono ?_
  rintro e w1 ⟨b, rfl, hb, b1⟩
  have B1 : Hid (Below w.heap.size w w1) := (Joins.below_alloc2 _ _ _).trans (b1.mono (by simp; omega))
  have A1 : Hid (w1.heap[w.heap.size]? = some (.cells #[.int .i64 now, .slice oa ss.length cl] 32 (0, 0))) := (b1.block _ (by simp; omega)).trans ((Below.heap_alloc _ _ _ (by simp)).trans (heap_new _ _ _ rfl))
  have R1 : Hid (w1.heap[w.heap.size + 1]? = some (.cells #[.int .i64 0, .slice none 0 0] 32 (0, 0))) := (b1.block _ (by simp)).trans (heap_new _ _ _ (by simp))
  have s1 : w.heap.size + 2 ≤ w1.heap.size := by have := b1.size; simp at this; omega
  have HB : Hid (b = true ↔ benchOk now ss) := hb
  clear KB b1 hb
  cases b
  · have z0 : w1.cell? ⟨w.heap.size + 1, 0, none⟩ = some (.int .i64 0) := cell_of_row _ _ _ _ _ _ R1.out
    have z1 : w1.cell? ⟨w.heap.size + 1, 1, none⟩ = some (.slice none 0 0) := cell_of_row _ _ _ _ _ _ R1.out
    have fz : ∀ o, w1.frozen? ⟨w.heap.size + 1, o, none⟩ = false := fun o => Joins.unfrozen_of_block R1.out o
    go_wp2
    refine bodyPost_ret (v := .tuple #[.agg #[.int .i64 0, .slice none 0 0], .int .i64 1]) (by simp [results, Tryz.results17, go_sem, z0, z1]) rfl ⟨_, 0, [], 1, rfl, Or.inl ⟨(fun h => by have := HB.out.2 h; cases this), rfl, rfl, rfl⟩, ⟨none, 0, [], rfl, rfl, by simp, by simp, by omega, Or.inl ⟨rfl, rfl⟩⟩, ?_⟩
    exact Below.setCell (Below.setCell B1.out (by simp only; omega) _) (by simp only; omega) _
  have HBO : Hid (benchOk now ss) := HB.out.1 (by trivial)
  have h4 : ss.length ≤ 4 := HBO.out.2.1
  have hn1 := HBO.out.1
  clear HB
  have a0 : w1.cell? ⟨w.heap.size, 0, none⟩ = some (.int .i64 now) := cell_of_row _ _ _ _ _ _ A1.out
  have a1 : w1.cell? ⟨w.heap.size, 1, none⟩ = some (.slice oa ss.length cl) := cell_of_row _ _ _ _ _ _ A1.out
  go_wp2_with fail
  refine (KC.out _ B1.out).mono ?_
  rintro e w2 ⟨gq, cq, ts, rfl, C2, hk2, b2⟩
  have hts : ts.length = ss.length := map_len hk2
  have B2 : Hid (Below w.heap.size w w2) := B1.out.trans (b2.mono (by omega))
  have A2 : Hid (w2.heap[w.heap.size]? = some (.cells #[.int .i64 now, .slice oa ss.length cl] 32 (0, 0))) := (b2.block _ (by omega)).trans A1.out
  have R2 : Hid (w2.heap[w.heap.size + 1]? = some (.cells #[.int .i64 0, .slice none 0 0] 32 (0, 0))) := (b2.block _ (by omega)).trans R1.out
  have HC2 : Hid (CAns w2 (w.heap.size + 2) gq cq ts) := C2.le (by omega)
  have HK : Hid (ts.map SV.key = ss.map SV.key) := hk2
  have HT : Hid (ts.length = ss.length) := hts
  have s2 : w.heap.size + 2 ≤ w2.heap.size := Nat.le_trans s1 b2.size
  have lgq : gq < w2.heap.size := (own_lt C2.own gq rfl).2
  have hcc := own_caps C2.own
  rw [hts] at hcc
  have z0 : w2.cell? ⟨w.heap.size, 0, none⟩ = some (.int .i64 now) := cell_of_row _ _ _ _ _ _ A2.out
  have z1 : w2.cell? ⟨w.heap.size + 1, 0, none⟩ = some (.int .i64 0) := cell_of_row _ _ _ _ _ _ R2.out
  have z2 : w2.cell? ⟨w.heap.size + 1, 1, none⟩ = some (.slice none 0 0) := cell_of_row _ _ _ _ _ _ R2.out
  have fz : ∀ o, w2.frozen? ⟨w.heap.size + 1, o, none⟩ = false := fun o => Joins.unfrozen_of_block R2.out o
  have l0 : w.heap.size < w2.heap.size := by omega
  have l1 : w.heap.size + 1 < w2.heap.size := by omega
  clear KC C2 hk2 b2 hts a0 a1 A1 R1 B1
  by_cases hnow : now = 1000000
  · have hq : (now == 1000000) = true := by simp [hnow]
    have HN : Hid (now = 1000000) := hnow
    clear hnow
    go_wp2
    refine bodyPost_ret (v := .tuple #[.agg #[.int .i64 now, .slice (some ⟨gq, 0, none⟩) ss.length cq], .int .i64 2]) (by simp [results, Tryz.results17, go_sem, z1, z2, l1]) rfl ⟨_, now, _, 2, rfl, Or.inr (Or.inl ⟨HBO.out, HN.out, rfl, rfl, rfl⟩), ⟨some ⟨gq, 0, none⟩, cq, ts, by rw [HT.out], HK.out, by rw [HT.out]; exact h4, by rw [HT.out]; omega, by omega, Or.inr ⟨gq, rfl, ?_⟩⟩, ?_⟩
    · exact ((((HC2.out.set R2.out ⟨by decide, by decide, by decide⟩ _).set (set_at R2.out) ⟨by decide, by decide, by decide⟩ _).below (Joins.below_alloc1 _ _)).le (by omega)).ans
    · exact (Below.setCell (Below.setCell B2.out (by simp only; omega) _) (by simp only; omega) _).trans ((Joins.below_alloc1 _ _).mono (by simp; omega))
  have hq : (now == 1000000) = false := by simp [hnow]
  have HN : Hid (now ≠ 1000000) := hnow
  have W4 : ∃ w4, ((w2.alloc (.cells #[.int .i64 (now + 1), .slice (some ⟨gq, 0, none⟩) ss.length cq] 32)).alloc (.cells #[] 71)) = w4 := ⟨_, rfl⟩
  have b4 : Below w2.heap.size w2 ((w2.alloc (.cells #[.int .i64 (now + 1), .slice (some ⟨gq, 0, none⟩) ss.length cq] 32)).alloc (.cells #[] 71)) := Joins.below_alloc2 _ _ _
  have HC4 := HC2.out.below b4
  have R4 := (b4.block _ l1).trans R2.out
  have B4 := B2.out.trans (b4.mono (by omega))
  have X4 : ((w2.alloc (.cells #[.int .i64 (now + 1), .slice (some ⟨gq, 0, none⟩) ss.length cq] 32)).alloc (.cells #[] 71)).heap[w2.heap.size]? = some (.cells #[.int .i64 (now + 1), .slice (some ⟨gq, 0, none⟩) ss.length cq] 32 (0, 0)) := (Below.heap_alloc _ _ _ (by simp)).trans (heap_new _ _ _ rfl)
  have Y4 : ((w2.alloc (.cells #[.int .i64 (now + 1), .slice (some ⟨gq, 0, none⟩) ss.length cq] 32)).alloc (.cells #[] 71)).ownsRow (w2.heap.size + 1) 71 3 (.slice (some ⟨w2.heap.size + 1, 0, none⟩) 0 0) 0 (((ts.take 0).filter (keepS (now + 1))).flatMap SV.cells) := (CAns.nil (w2.alloc _) _ _ (by simp) (Nat.le_refl _)).own
  go_wp2
  generalize ((w2.alloc (.cells #[.int .i64 (now + 1), .slice (some ⟨gq, 0, none⟩) ss.length cq] 32)).alloc (.cells #[] 71)) = w4 at HC4 R4 B4 X4 Y4 ⊢
  have HC4' : Hid (CAns w4 (w.heap.size + 2) gq cq ts) := HC4
  have R4' : Hid (w4.heap[w.heap.size + 1]? = some (.cells #[.int .i64 0, .slice none 0 0] 32 (0, 0))) := R4
  have B4' : Hid (Below w.heap.size w w4) := B4
  have X4' : Hid (w4.heap[w2.heap.size]? = some (.cells #[.int .i64 (now + 1), .slice (some ⟨gq, 0, none⟩) ss.length cq] 32 (0, 0))) := X4
  have Y4' : Hid (w4.ownsRow (w2.heap.size + 1) 71 3 (.slice (some ⟨w2.heap.size + 1, 0, none⟩) 0 0) 0 (((ts.take 0).filter (keepS (now + 1))).flatMap SV.cells)) := Y4
  clear W4 b4 HC4 R4 B4 X4 Y4 z0 z1 z2 fz HC2 R2 B2 A2
  go_loopw [5, 6] (fun v i wr => ∃ (k g m c : Nat), k ≤ ss.length ∧ i = .int .i64 k ∧ v = .slice (some ⟨g, 0, none⟩) m c ∧ Hid (m = ((ts.take k).filter (keepS (now + 1))).length) ∧ Hid (wr.ownsRow (w2.heap.size + 1) 71 3 (.slice (some ⟨g, 0, none⟩) m c) m (((ts.take k).filter (keepS (now + 1))).flatMap SV.cells)) ∧ Hid (CAns wr (w.heap.size + 2) gq cq ts) ∧ Hid (wr.heap[w.heap.size + 1]? = some (.cells #[.int .i64 0, .slice none 0 0] 32 (0, 0))) ∧ Hid (wr.heap[w2.heap.size]? = some (.cells #[.int .i64 (now + 1), .slice (some ⟨gq, 0, none⟩) ss.length cq] 32 (0, 0))) ∧ Hid (Below w.heap.size w wr)) (fun _ i _ => ss.length - (intOf i).toNat)
  case atStart => exact ⟨0, w2.heap.size + 1, 0, 0, by omega, rfl, rfl, rfl, Y4'.out, HC4'.out, R4'.out, X4'.out, B4'.out⟩
  case round =>
    obtain ⟨k, g, m, c, hk, rfl, rfl, HM, HY, HC, HR, HX, HW⟩ := hrel
    have hsz := HW.out.size
    have x0 : wr.cell? ⟨w2.heap.size, 0, none⟩ = some (.int .i64 (now + 1)) := cell_of_row _ _ _ _ _ _ HX.out
    have x1 : wr.cell? ⟨w2.heap.size, 1, none⟩ = some (.slice (some ⟨gq, 0, none⟩) ss.length cq) := cell_of_row _ _ _ _ _ _ HX.out
    have lx := lt_of_block HX.out
    by_cases hlt : k < ss.length
    · obtain ⟨x, hx⟩ := get_of_lt (show k < ts.length by rw [HT.out]; exact hlt)
      have hi : (k : Int) < (ss.length : Int) := by omega
      have hL := HC.out.ans.sl
      have hgr := hL.lt
      obtain ⟨c0, c1, c2⟩ := hL.elem k x hx
      have HXK : Hid (ts[k]? = some x) := hx
      have hmk : m ≤ 4 := by
        have h1 := List.length_filter_le (keepS (now + 1)) (ts.take k)
        rw [List.length_take] at h1
        have := HM.out
        omega
      obtain ⟨kp, hkp⟩ : ∃ kp, keepS (now + 1) x = kp := ⟨_, rfl⟩
      have HKP : Hid (keepS (now + 1) x = kp) := hkp
      have hgt : decide (now + 1 - 6 < x.since) = kp := hkp
      have SK : Hid (∀ W : World, Below wr.heap.size wr W → (W.cell? ⟨w2.heap.size, 0, none⟩ = some (.int .i64 (now + 1)) ∧ W.cell? ⟨w2.heap.size, 1, none⟩ = some (.slice (some ⟨gq, 0, none⟩) ss.length cq) ∧ W.cell? ⟨gq, k * 3 + 1, none⟩ = some (.int .i64 x.since))) := fun W h => by
        have e : ∀ b o, b < wr.heap.size → W.cell? ⟨b, o, none⟩ = wr.cell? ⟨b, o, none⟩ := fun b o hb => h.cell (p := ⟨b, o, none⟩) hb
        exact ⟨(e _ _ lx).trans x0, (e _ _ lx).trans x1, (e _ _ hgr).trans c1⟩
      have KT : Hid ((ts.take (k + 1)).filter (keepS (now + 1)) = (ts.take k).filter (keepS (now + 1)) ++ (if kp = true then [x] else [])) := (by have h := keepS_take (now + 1) hx; rw [hkp] at h; exact h)
      clear hx hL hkp
      have hwr : IntKind.i64.wrap (now + 1 - 6) = now + 1 - 6 := by rw [IntKind.wrap_i64]; omega
      go_wp2
      refine wp_region_held_drew (S := fun W => (W.cell? ⟨w2.heap.size, 0, none⟩ = some (.int .i64 (now + 1)) ∧ W.cell? ⟨w2.heap.size, 1, none⟩ = some (.slice (some ⟨gq, 0, none⟩) ss.length cq) ∧ W.cell? ⟨gq, k * 3 + 1, none⟩ = some (.int .i64 x.since))) (by kernel_rfl) (SK.out _ ((Below.refl _ wr).drew)) (fun hH => ?_)
      refine take_held 0 (some 29) (.pointer (some ⟨w2.heap.size, 1, none⟩)) rfl rfl (by kernel_rfl) (by kernel_rfl) (by kernel_rfl) (fun _ _ _ h => h) (by rfl) (fun w hS => by go_simp) hH ?_
      simp only [Act.put, List.setIfInBounds_toArray, List.set_cons_zero, List.set_cons_succ]
      refine take_held 1 (some 30) (.slice (some ⟨gq, 0, none⟩) ss.length cq) rfl rfl (by kernel_rfl) (by kernel_rfl) (by kernel_rfl) (fun _ _ _ h => h) (by rfl) (fun w hS => by obtain ⟨s0, s1, s2⟩ := hS; go_simp) hH ?_
      simp only [Act.put, List.setIfInBounds_toArray, List.set_cons_zero, List.set_cons_succ]
      refine take_held 2 (some 31) (.int .i64 k) rfl rfl (by kernel_rfl) (by kernel_rfl) (by kernel_rfl) (fun _ _ _ h => h) (by rfl) (fun w hS => by go_simp) hH ?_
      simp only [Act.put, List.setIfInBounds_toArray, List.set_cons_zero, List.set_cons_succ]
      refine take_held 3 (some 32) (.pointer (some ⟨gq, k * 3, none⟩)) rfl rfl (by kernel_rfl) (by kernel_rfl) (by kernel_rfl) (fun _ _ _ h => h) (by rfl) (fun w hS => by go_simp) hH ?_
      simp only [Act.put, List.setIfInBounds_toArray, List.set_cons_zero, List.set_cons_succ]
      refine take_held 4 (some 33) (.pointer (some ⟨gq, k * 3 + 1, none⟩)) rfl rfl (by kernel_rfl) (by kernel_rfl) (by kernel_rfl) (fun _ _ _ h => h) (by rfl) (fun w hS => by go_simp) hH ?_
      simp only [Act.put, List.setIfInBounds_toArray, List.set_cons_zero, List.set_cons_succ]
      refine take_held 5 (some 34) (.int .i64 x.since) rfl rfl (by kernel_rfl) (by kernel_rfl) (by kernel_rfl) (fun _ _ _ h => h) (by rfl) (fun w hS => by obtain ⟨s0, s1, s2⟩ := hS; go_simp) hH ?_
      simp only [Act.put, List.setIfInBounds_toArray, List.set_cons_zero, List.set_cons_succ]
      refine take_held 6 (some 35) (.pointer (some ⟨w2.heap.size, 0, none⟩)) rfl rfl (by kernel_rfl) (by kernel_rfl) (by kernel_rfl) (fun _ _ _ h => h) (by rfl) (fun w hS => by go_simp) hH ?_
      simp only [Act.put, List.setIfInBounds_toArray, List.set_cons_zero, List.set_cons_succ]
      refine take_held 7 (some 36) (.int .i64 (now + 1)) rfl rfl (by kernel_rfl) (by kernel_rfl) (by kernel_rfl) (fun _ _ _ h => h) (by rfl) (fun w hS => by obtain ⟨s0, s1, s2⟩ := hS; go_simp) hH ?_
      simp only [Act.put, List.setIfInBounds_toArray, List.set_cons_zero, List.set_cons_succ]
      refine take_held 8 (some 37) (.int .i64 (now + 1 - 6)) rfl rfl (by kernel_rfl) (by kernel_rfl) (by kernel_rfl) (fun _ _ _ h => h) (by rfl) (fun w hS => by go_simp) hH ?_
      simp only [Act.put, List.setIfInBounds_toArray, List.set_cons_zero, List.set_cons_succ]
      refine take_held 9 (some 38) (.bool kp) rfl rfl (by kernel_rfl) (by kernel_rfl) (by kernel_rfl) (fun _ _ _ h => h) (by rfl) (fun w hS => by go_simp) hH ?_
      simp only [Act.put, List.setIfInBounds_toArray, List.set_cons_zero, List.set_cons_succ]
      refine wpAnyH_done (by kernel_rfl) ?_ _
      clear hH SK hgt
      cases kp
      · have KT' : Hid ((ts.take (k + 1)).filter (keepS (now + 1)) = (ts.take k).filter (keepS (now + 1))) := (by have h := KT.out; simp at h; exact h)
        have BD := (Below.refl wr.heap.size wr).drew
        go_wp2
        go_roundw
        case rel => exact ⟨k + 1, g, m, c, by omega, by go_num, rfl, (show _ = _ by rw [KT'.out]; exact HM.out), (show World.ownsRow _ _ _ _ _ _ _ by rw [KT'.out]; exact own_below HY.out BD), HC.out.below BD, (BD.block _ (lt_of_block HR.out)).trans HR.out, (BD.block _ lx).trans HX.out, HW.out.drew⟩
        case measure => simp [intOf]; omega
      · have KT' : Hid ((ts.take (k + 1)).filter (keepS (now + 1)) = (ts.take k).filter (keepS (now + 1)) ++ [x]) := (by have h := KT.out; simp at h; exact h)
        have YD : Hid (wr.drew.ownsRow (w2.heap.size + 1) 71 3 (.slice (some ⟨g, 0, none⟩) m c) m (((ts.take k).filter (keepS (now + 1))).flatMap SV.cells)) := HY.out
        have lw : w2.heap.size + 1 ≤ wr.heap.size := by omega
        go_wp2_with (at_builtin; refine wpList_append_own _ rfl _ _ 30 rfl (w2.heap.size + 1) 71 ti (.agg #[.slice none 0 0, .int .i64 0, .bool false]) 3 40 Tryz.underlying30 hti hy0 hy1 hy2 rfl (by decide) (.slice (some ⟨g, 0, none⟩) m c) m (((ts.take k).filter (keepS (now + 1))).flatMap SV.cells) rfl (YD.out.alloc _) ⟨wr.heap.size, 0, none⟩ 1 1 [.slice x.a x.xs.length x.c, .int .i64 x.since, .bool x.bad] rfl rfl ?h1 (three_one _ _ _ _ _) ?h3 ?h4 ?h5 ?_)
        case h3 => unfold maxLen; omega
        case h4 => omega
        case h5 => first | omega | (simp; omega)
        intro v3 w5 hown hgrow hnil
        obtain ⟨g', c', rfl⟩ : ∃ g' c', v3 = .slice (some ⟨g', 0, none⟩) (m + 1) c' := form_of hown hnil
        have BD : Below wr.heap.size wr (wr.drew.alloc (.cells #[.slice x.a x.xs.length x.c, .int .i64 x.since, .bool x.bad] 71)) := ((Below.refl wr.heap.size wr).drew).alloc (Nat.le_refl _) _
        have lg1 : w2.heap.size + 1 ≤ g := (own_lt HY.out g rfl).1
        have nb : ∀ b, b < wr.heap.size → b < w2.heap.size + 1 → w5.heap[b]? = wr.heap[b]? := fun b hb hb' => (hgrow.block b (Nat.lt_of_lt_of_le hb BD.size) (fun e => by have h2 : b = g := Option.some.inj e; omega)).trans (BD.block _ hb)
        have C5 : Hid (CAns w5 (w.heap.size + 2) gq cq ts) := by
          have CD := HC.out.below BD
          obtain ⟨cu, hcu⟩ := own_at (own_below HY.out BD) g rfl
          refine ⟨own_kept HC.out.own fun b hb => ?_, CD.forest.grown hgrow hcu (fun cur t' fr e => by cases e; exact ⟨by decide, by decide⟩)⟩
          have h2 : gq = b := Option.some.inj hb
          exact nb b (by rw [← h2]; exact hgr) (by omega)
        have Y5 : Hid (w5.ownsRow (w2.heap.size + 1) 71 3 (.slice (some ⟨g', 0, none⟩) (m + 1) c') (m + 1) (((ts.take (k + 1)).filter (keepS (now + 1))).flatMap SV.cells)) := (show World.ownsRow _ _ _ _ _ _ _ by
          rw [KT'.out, List.flatMap_append]
          simpa [SV.cells, scells] using hown)
        have M5 : Hid (m + 1 = ((ts.take (k + 1)).filter (keepS (now + 1))).length) := (show _ = _ by rw [KT'.out, List.length_append, HM.out]; rfl)
        have R5 : Hid (w5.heap[w.heap.size + 1]? = some (.cells #[.int .i64 0, .slice none 0 0] 32 (0, 0))) := (nb _ (lt_of_block HR.out) (by omega)).trans HR.out
        have X5 : Hid (w5.heap[w2.heap.size]? = some (.cells #[.int .i64 (now + 1), .slice (some ⟨gq, 0, none⟩) ss.length cq] 32 (0, 0))) := (nb _ lx (by omega)).trans HX.out
        have B5 : Hid (Below w.heap.size w w5) := (HW.out.trans (BD.mono hsz)).grown hgrow (Nat.le_trans hsz BD.size) (fun j hj => by have h2 : g = j := Option.some.inj hj; omega)
        clear hown hgrow hnil nb BD YD
        go_wp2
        go_roundw
        case rel => exact ⟨k + 1, g', m + 1, c', by omega, by go_num, rfl, M5.out, Y5.out, C5.out, R5.out, X5.out, B5.out⟩
        case measure => simp [intOf]; omega
    · obtain rfl : k = ss.length := by omega
      have r0 : wr.cell? ⟨w.heap.size + 1, 0, none⟩ = some (.int .i64 0) := cell_of_row _ _ _ _ _ _ HR.out
      have r1 : wr.cell? ⟨w.heap.size + 1, 1, none⟩ = some (.slice none 0 0) := cell_of_row _ _ _ _ _ _ HR.out
      have fz : ∀ o, wr.frozen? ⟨w.heap.size + 1, o, none⟩ = false := fun o => Joins.unfrozen_of_block HR.out o
      have fx : ∀ o, wr.frozen? ⟨w2.heap.size, o, none⟩ = false := fun o => Joins.unfrozen_of_block HX.out o
      have hne : ¬ (w.heap.size + 1 = w2.heap.size) := by omega
      have hne' : ¬ (w2.heap.size = w.heap.size + 1) := by omega
      have lr := lt_of_block HR.out
      have hfl : m ≤ 4 := by
        have h1 := List.length_filter_le (keepS (now + 1)) (ts.take ss.length)
        rw [List.length_take] at h1
        have := HM.out
        omega
      have hcm2 := own_caps HY.out
      have KT : ts.take ss.length = ts := List.take_of_length_le (by rw [HT.out]; exact Nat.le_refl _)
      have FE : Hid (AnsB wr (w.heap.size + 2) g (ts.filter (keepS (now + 1)))) := (by
        have h1 := HY.out
        rw [KT] at h1
        exact ⟨by have := (own_lt HY.out g rfl).1; omega, RowB.of_own h1, HC.out.forest.sub List.filter_sublist⟩)
      have ME : Hid (m = (ts.filter (keepS (now + 1))).length) := (by have h := HM.out; rw [KT] at h; exact h)
      clear KT
      go_wp2
      refine bodyPost_ret (v := .tuple #[.agg #[.int .i64 (now + 1), .slice (some ⟨g, 0, none⟩) m c], .int .i64 0]) (by simp [results, Tryz.results17, go_sem, r0, r1]) rfl ⟨_, now + 1, _, 0, rfl, Or.inr (Or.inr ⟨HBO.out, HN.out, rfl, rfl, rfl⟩), ⟨some ⟨g, 0, none⟩, c, ts.filter (keepS (now + 1)), by rw [← ME.out], by rw [keepS_keys, HK.out], by rw [← ME.out]; exact hfl, by rw [← ME.out]; omega, by omega, Or.inr ⟨g, rfl, ?_⟩⟩, ?_⟩
      · exact (((FE.out.set HX.out ⟨by decide, by decide, by decide⟩ _).set ((Below.heap_setCell _ _ _ _ hne).trans HR.out) ⟨by decide, by decide, by decide⟩ _).set (set_at ((Below.heap_setCell _ _ _ _ hne).trans HR.out)) ⟨by decide, by decide, by decide⟩ _).le (by omega)
      · exact Below.setCell (Below.setCell (Below.setCell HW.out (by simp only; omega) _) (by simp only; omega) _) (by simp only; omega) _
end Go.Proofs.YtjbkgmbakjnlhabGreatDoor
