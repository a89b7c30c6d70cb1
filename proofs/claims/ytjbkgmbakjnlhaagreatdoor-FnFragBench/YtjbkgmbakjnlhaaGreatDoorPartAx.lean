import Derived.Test.YtjbkgmbakjnlhaaGreatDoorPartAk
import Derived.Test.YtjbkgmbakjnlhaaGreatDoorPartAw
import Derived.Test.YtjbkgmbakjnlhaaGreatDoorPartAc
import Derived.Test.YtjbkgmbakjnlhaaGreatDoorPartAa
namespace Go.Proofs.YtjbkgmbakjnlhaaGreatDoor
set_option maxRecDepth 100000
open Go.RowKit
def keepS (now : Int) (s : SV) : Bool := decide (now - 6 < s.since)
theorem keepS_keys (now : Int) (ts : List SV) : (ts.filter (keepS now)).map SV.key = (ts.map SV.key).filter (fun k => decide (now - 6 < k.2.1)) := by
 rw [List.filter_map]
 rfl
theorem keepS_take (now : Int) {ts : List SV} {k : Nat} {x : SV} (hx : ts[k]? = some x) : (ts.take (k + 1)).filter (keepS now) = (ts.take k).filter (keepS now) ++ (if keepS now x = true then [x] else []) := by
 rw [List.take_add_one, hx, List.filter_append]
 simp [List.filter_cons]
theorem AnsB.set {w : World} {lo g r o : Nat} {ts : List SV} {cur : Array Value} {t : TypeId} (h : AnsB w lo g ts) (hr : w.heap[r]? = some (.cells cur t (0, 0))) (ht : t ≠ 39 ∧ t ≠ 5 ∧ t ≠ 29) (v : Value) : AnsB (w.setCell ⟨r, o, none⟩ v) lo g ts := by
 have nc : ∀ {b : Nat} {cu : Array Value} {t' : TypeId}, w.heap[b]? = some (.cells cu t' (0, 0)) → t ≠ t' → (w.setCell ⟨r, o, none⟩ v).heap[b]? = w.heap[b]? := fun {b cu t'} hb hn => zHs (fun e => by
  simp only at e
  rw [e, hr] at hb
  cases hb
  exact hn rfl)
 refine ⟨h.low, ?_, h.forest.kept fun b hb => ?_⟩
 ·obtain ⟨cu, hc, _⟩ := id h.row
  exact h.row.kept (nc hc ht.1)
 ·obtain ⟨_, _, cu, t', hc, ht'⟩ := h.forest.blk b hb
  rcases ht' with rfl | rfl
  ·exact nc hc ht.2.1
  ·exact nc hc ht.2.2
set_option maxHeartbeats 6400000 in
theorem specTick_any (now : Int) (oa : Option Addr) (cl : Nat) (ss : List SV) (w : World) (hL : SLq w oa ss) (hm : ss.length ≤ 1048576) (hc : ss.length ≤ cl) (hcm : cl ≤ 9223372036854775807) :
  Calls Tryz.prog 8 #[.agg #[.int .i64 now, .slice oa ss.length cl]] w (TickPost now ss w) := by
 obtain ⟨ti, hti, hy0, hy1, hy2⟩ := info_parts Tryz.infoSlot
 have KB : Hid (∀ W : World, Below w.heap.size w W → Calls Tryz.prog 20 #[.agg #[.int .i64 now, .slice oa ss.length cl]] W (SaysB (benchOk now ss) W)) := fun W h => specBenchOk_q now oa cl ss W (hL.below h) hm hc hcm
 have KC : Hid (∀ W : World, Below w.heap.size w W → Calls Tryz.prog 30 #[.agg #[.int .i64 now, .slice oa ss.length cl]] W fun e w' => ∃ g c ts, e = .returned (.agg #[.int .i64 now, .slice (some ⟨g, 0, none⟩) ss.length c]) ∧ CAns w' W.heap.size g c ts ∧ ts.map SV.key = ss.map SV.key ∧ Below W.heap.size W w') := fun W h => l4Copy_any now oa cl ss W (hL.below h) hm
 clear hL
 go_enter Tryz.func8, Tryz.ntmps8
 go_wp2_with fail
 refine (KB.out _ (Joins.below_alloc2 _ _ _)).mono ?_
 rintro e w1 ⟨b, rfl, hb, b1⟩
 have B1 : Hid (Below w.heap.size w w1) := (Joins.below_alloc2 _ _ _).trans (b1.mono (by simp; omega))
 have A1 : Hid (w1.heap[w.heap.size]? = some (.cells #[.int .i64 now, .slice oa ss.length cl] 27 (0, 0))) := (b1.block _ (by simp; omega)).trans ((zHa (by simp)).trans (heap_new _ _ _ rfl))
 have R1 : Hid (w1.heap[w.heap.size + 1]? = some (.cells #[.int .i64 0, .slice none 0 0] 27 (0, 0))) := (b1.block _ (by simp)).trans (heap_new _ _ _ (by simp))
 have s1 : w.heap.size + 2 ≤ w1.heap.size := by have := b1.size; simp at this; omega
 have HB : Hid (b = true ↔ benchOk now ss) := hb
 clear KB b1 hb
 cases b
 ·have z0 : w1.cell? ⟨w.heap.size + 1, 0, none⟩ = some (.int .i64 0) := zCr R1.out
  have z1 : w1.cell? ⟨w.heap.size + 1, 1, none⟩ = some (.slice none 0 0) := zCr R1.out
  have fz : ∀ o, w1.frozen? ⟨w.heap.size + 1, o, none⟩ = false := fun o => zUf R1.out o
  go_wp2
  refine bodyPost_ret (v := .tuple #[.agg #[.int .i64 0, .slice none 0 0], .int .i64 1]) (by simp [results, Tryz.results8, go_sem, z0, z1]) rfl ⟨_, 0, [], 1, rfl, Or.inl ⟨(fun h => by have := HB.out.2 h; cases this), rfl, rfl, rfl⟩, ⟨none, 0, [], rfl, rfl, by simp, by simp, by omega, Or.inl ⟨rfl, rfl⟩⟩, ?_⟩
  exact Below.setCell (Below.setCell B1.out (by simp only; omega) _) (by simp only; omega) _
 have HBO : Hid (benchOk now ss) := HB.out.1 (by trivial)
 have h4 : ss.length ≤ 4 := HBO.out.2.1
 have hn1 := HBO.out.1
 clear HB
 have a0 : w1.cell? ⟨w.heap.size, 0, none⟩ = some (.int .i64 now) := zCr A1.out
 have a1 : w1.cell? ⟨w.heap.size, 1, none⟩ = some (.slice oa ss.length cl) := zCr A1.out
 go_wp2_with fail
 refine (KC.out _ B1.out).mono ?_
 rintro e w2 ⟨gq, cq, ts, rfl, C2, hk2, b2⟩
 have hts : ts.length = ss.length := map_len hk2
 have B2 : Hid (Below w.heap.size w w2) := B1.out.trans (b2.mono (by omega))
 have A2 : Hid (w2.heap[w.heap.size]? = some (.cells #[.int .i64 now, .slice oa ss.length cl] 27 (0, 0))) := (b2.block _ (by omega)).trans A1.out
 have R2 : Hid (w2.heap[w.heap.size + 1]? = some (.cells #[.int .i64 0, .slice none 0 0] 27 (0, 0))) := (b2.block _ (by omega)).trans R1.out
 have HC2 : Hid (CAns w2 (w.heap.size + 2) gq cq ts) := C2.le (by omega)
 have HK : Hid (ts.map SV.key = ss.map SV.key) := hk2
 have HT : Hid (ts.length = ss.length) := hts
 have s2 : w.heap.size + 2 ≤ w2.heap.size := Nat.le_trans s1 b2.size
 have lgq : gq < w2.heap.size := (own_lt C2.own gq rfl).2
 have hcc := own_caps C2.own
 rw [hts] at hcc
 have z0 : w2.cell? ⟨w.heap.size, 0, none⟩ = some (.int .i64 now) := zCr A2.out
 have z1 : w2.cell? ⟨w.heap.size + 1, 0, none⟩ = some (.int .i64 0) := zCr R2.out
 have z2 : w2.cell? ⟨w.heap.size + 1, 1, none⟩ = some (.slice none 0 0) := zCr R2.out
 have fz : ∀ o, w2.frozen? ⟨w.heap.size + 1, o, none⟩ = false := fun o => zUf R2.out o
 have l0 : w.heap.size < w2.heap.size := by omega
 have l1 : w.heap.size + 1 < w2.heap.size := by omega
 clear KC C2 hk2 b2 hts a0 a1 A1 R1 B1
 by_cases hnow : now = 1000000
 ·have hq : (now == 1000000) = true := by simp [hnow]
  have HN : Hid (now = 1000000) := hnow
  clear hnow
  go_wp2
  refine bodyPost_ret (v := .tuple #[.agg #[.int .i64 now, .slice (some ⟨gq, 0, none⟩) ss.length cq], .int .i64 2]) (by simp [results, Tryz.results8, go_sem, z1, z2, l1]) rfl ⟨_, now, _, 2, rfl, Or.inr (Or.inl ⟨HBO.out, HN.out, rfl, rfl, rfl⟩), ⟨some ⟨gq, 0, none⟩, cq, ts, by rw [HT.out], HK.out, by rw [HT.out]; exact h4, by rw [HT.out]; omega, by omega, Or.inr ⟨gq, rfl, ?_⟩⟩, ?_⟩
  ·exact ((((HC2.out.set R2.out ⟨by decide, by decide, by decide⟩ _).set (set_at R2.out) ⟨by decide, by decide, by decide⟩ _).below (zBa _ _)).le (by omega)).ans
  ·exact (Below.setCell (Below.setCell B2.out (by simp only; omega) _) (by simp only; omega) _).trans ((zBa _ _).mono (by simp; omega))
 have hq : (now == 1000000) = false := by simp [hnow]
 have HN : Hid (now ≠ 1000000) := hnow
 have W4 : ∃ w4, ((w2.alloc (.cells #[.int .i64 (now + 1), .slice (some ⟨gq, 0, none⟩) ss.length cq] 27)).alloc (.cells #[] 39)) = w4 := ⟨_, rfl⟩
 have b4 : Below w2.heap.size w2 ((w2.alloc (.cells #[.int .i64 (now + 1), .slice (some ⟨gq, 0, none⟩) ss.length cq] 27)).alloc (.cells #[] 39)) := Joins.below_alloc2 _ _ _
 have HC4 := HC2.out.below b4
 have R4 := (b4.block _ l1).trans R2.out
 have B4 := B2.out.trans (b4.mono (by omega))
 have X4 : ((w2.alloc (.cells #[.int .i64 (now + 1), .slice (some ⟨gq, 0, none⟩) ss.length cq] 27)).alloc (.cells #[] 39)).heap[w2.heap.size]? = some (.cells #[.int .i64 (now + 1), .slice (some ⟨gq, 0, none⟩) ss.length cq] 27 (0, 0)) := (zHa (by simp)).trans (heap_new _ _ _ rfl)
 have Y4 : ((w2.alloc (.cells #[.int .i64 (now + 1), .slice (some ⟨gq, 0, none⟩) ss.length cq] 27)).alloc (.cells #[] 39)).ownsRow (w2.heap.size + 1) 39 3 (.slice (some ⟨w2.heap.size + 1, 0, none⟩) 0 0) 0 (((ts.take 0).filter (keepS (now + 1))).flatMap SV.cells) := (CAns.nil (w2.alloc _) _ _ (by simp) (Nat.le_refl _)).own
 go_wp2
 generalize ((w2.alloc (.cells #[.int .i64 (now + 1), .slice (some ⟨gq, 0, none⟩) ss.length cq] 27)).alloc (.cells #[] 39)) = w4 at HC4 R4 B4 X4 Y4 ⊢
 have HC4' : Hid (CAns w4 (w.heap.size + 2) gq cq ts) := HC4
 have R4' : Hid (w4.heap[w.heap.size + 1]? = some (.cells #[.int .i64 0, .slice none 0 0] 27 (0, 0))) := R4
 have B4' : Hid (Below w.heap.size w w4) := B4
 have X4' : Hid (w4.heap[w2.heap.size]? = some (.cells #[.int .i64 (now + 1), .slice (some ⟨gq, 0, none⟩) ss.length cq] 27 (0, 0))) := X4
 have Y4' : Hid (w4.ownsRow (w2.heap.size + 1) 39 3 (.slice (some ⟨w2.heap.size + 1, 0, none⟩) 0 0) 0 (((ts.take 0).filter (keepS (now + 1))).flatMap SV.cells)) := Y4
 clear W4 b4 HC4 R4 B4 X4 Y4 z0 z1 z2 fz HC2 R2 B2 A2
 go_loopw [5, 6] (fun v i wr => ∃ (k g m c : Nat), k ≤ ss.length ∧ i = .int .i64 k ∧ v = .slice (some ⟨g, 0, none⟩) m c ∧ Hid (m = ((ts.take k).filter (keepS (now + 1))).length) ∧ Hid (wr.ownsRow (w2.heap.size + 1) 39 3 (.slice (some ⟨g, 0, none⟩) m c) m (((ts.take k).filter (keepS (now + 1))).flatMap SV.cells)) ∧ Hid (CAns wr (w.heap.size + 2) gq cq ts) ∧ Hid (wr.heap[w.heap.size + 1]? = some (.cells #[.int .i64 0, .slice none 0 0] 27 (0, 0))) ∧ Hid (wr.heap[w2.heap.size]? = some (.cells #[.int .i64 (now + 1), .slice (some ⟨gq, 0, none⟩) ss.length cq] 27 (0, 0))) ∧ Hid (Below w.heap.size w wr)) (fun _ i _ => ss.length - (intOf i).toNat)
 case atStart => exact ⟨0, w2.heap.size + 1, 0, 0, by omega, rfl, rfl, rfl, Y4'.out, HC4'.out, R4'.out, X4'.out, B4'.out⟩
 case round =>
  obtain ⟨k, g, m, c, hk, rfl, rfl, HM, HY, HC, HR, HX, HW⟩ := hrel
  have hsz := HW.out.size
  have x0 : wr.cell? ⟨w2.heap.size, 0, none⟩ = some (.int .i64 (now + 1)) := zCr HX.out
  have x1 : wr.cell? ⟨w2.heap.size, 1, none⟩ = some (.slice (some ⟨gq, 0, none⟩) ss.length cq) := zCr HX.out
  have lx := lt_of_block HX.out
  by_cases hlt : k < ss.length
  ·obtain ⟨x, hx⟩ := get_of_lt (show k < ts.length by rw [HT.out]; exact hlt)
   have hi : (k : Int) < (ss.length : Int) := by omega
   have hL := HC.out.ans.sl
   have hgr := hL.lt
   obtain ⟨c0, c1, c2⟩ := hL.elem k x hx
   have HXK : Hid (ts[k]? = some x) := hx
   have hmk : m ≤ 4 := by
    have h1 := List.length_filter_le (keepS (now + 1)) (ts.take k)
    rw [List.length_take] at h1
    have := HM.out
    omega
   obtain ⟨kp, hkp⟩ : ∃ kp, keepS (now + 1) x = kp := ⟨_, rfl⟩
   have HKP : Hid (keepS (now + 1) x = kp) := hkp
   have hgt : decide (now + 1 - 6 < x.since) = kp := hkp
   have SK : Hid (∀ W : World, Below wr.heap.size wr W → (W.cell? ⟨w2.heap.size, 0, none⟩ = some (.int .i64 (now + 1)) ∧ W.cell? ⟨w2.heap.size, 1, none⟩ = some (.slice (some ⟨gq, 0, none⟩) ss.length cq) ∧ W.cell? ⟨gq, k * 3 + 1, none⟩ = some (.int .i64 x.since))) := fun W h => by
    have e : ∀ b o, b < wr.heap.size → W.cell? ⟨b, o, none⟩ = wr.cell? ⟨b, o, none⟩ := fun b o hb => h.cell (p := ⟨b, o, none⟩) hb
    exact ⟨(e _ _ lx).trans x0, (e _ _ lx).trans x1, (e _ _ hgr).trans c1⟩
   have KT : Hid ((ts.take (k + 1)).filter (keepS (now + 1)) = (ts.take k).filter (keepS (now + 1)) ++ (if kp = true then [x] else [])) := (by have h := keepS_take (now + 1) hx; rw [hkp] at h; exact h)
   clear hx hL hkp
   have hwr : IntKind.i64.wrap (now + 1 - 6) = now + 1 - 6 := by rw [IntKind.wrap_i64]; omega
   go_wp2
   refine wp_region_held_drew (S := fun W => (W.cell? ⟨w2.heap.size, 0, none⟩ = some (.int .i64 (now + 1)) ∧ W.cell? ⟨w2.heap.size, 1, none⟩ = some (.slice (some ⟨gq, 0, none⟩) ss.length cq) ∧ W.cell? ⟨gq, k * 3 + 1, none⟩ = some (.int .i64 x.since))) (by kernel_rfl) (SK.out _ ((Below.refl _ wr).drew)) (fun hH => ?_)
   refine zTk 0 29 (.pointer (some ⟨w2.heap.size, 1, none⟩)) rfl (fun w hS => by go_simp) hH ?_; simp only [Act.put, zX, zY, zZ]
   refine zTk 1 30 (.slice (some ⟨gq, 0, none⟩) ss.length cq) rfl (fun w hS => by obtain ⟨s0, s1, s2⟩ := hS; go_simp) hH ?_; simp only [Act.put, zX, zY, zZ]
   refine zTk 2 31 (.int .i64 k) rfl (fun w hS => by go_simp) hH ?_; simp only [Act.put, zX, zY, zZ]
   refine zTk 3 32 (.pointer (some ⟨gq, k * 3, none⟩)) rfl (fun w hS => by go_simp) hH ?_; simp only [Act.put, zX, zY, zZ]
   refine zTk 4 33 (.pointer (some ⟨gq, k * 3 + 1, none⟩)) rfl (fun w hS => by go_simp) hH ?_; simp only [Act.put, zX, zY, zZ]
   refine zTk 5 34 (.int .i64 x.since) rfl (fun w hS => by obtain ⟨s0, s1, s2⟩ := hS; go_simp) hH ?_; simp only [Act.put, zX, zY, zZ]
   refine zTk 6 35 (.pointer (some ⟨w2.heap.size, 0, none⟩)) rfl (fun w hS => by go_simp) hH ?_; simp only [Act.put, zX, zY, zZ]
   refine zTk 7 36 (.int .i64 (now + 1)) rfl (fun w hS => by obtain ⟨s0, s1, s2⟩ := hS; go_simp) hH ?_; simp only [Act.put, zX, zY, zZ]
   refine zTk 8 37 (.int .i64 (now + 1 - 6)) rfl (fun w hS => by go_simp) hH ?_; simp only [Act.put, zX, zY, zZ]
   refine zTk 9 38 (.bool kp) rfl (fun w hS => by go_simp) hH ?_; simp only [Act.put, zX, zY, zZ]
   refine wpAnyH_done (by kernel_rfl) ?_ _
   clear hH SK hgt
   cases kp
   ·have KT' : Hid ((ts.take (k + 1)).filter (keepS (now + 1)) = (ts.take k).filter (keepS (now + 1))) := (by have h := KT.out; simp at h; exact h)
    have BD := (Below.refl wr.heap.size wr).drew
    go_wp2
    go_roundw
    case rel => exact ⟨k + 1, g, m, c, by omega, by go_num, rfl, (show _ = _ by rw [KT'.out]; exact HM.out), (show World.ownsRow _ _ _ _ _ _ _ by rw [KT'.out]; exact own_below HY.out BD), HC.out.below BD, (BD.block _ (lt_of_block HR.out)).trans HR.out, (BD.block _ lx).trans HX.out, HW.out.drew⟩
    case measure => simp [intOf]; omega
   ·have KT' : Hid ((ts.take (k + 1)).filter (keepS (now + 1)) = (ts.take k).filter (keepS (now + 1)) ++ [x]) := (by have h := KT.out; simp at h; exact h)
    have YD : Hid (wr.drew.ownsRow (w2.heap.size + 1) 39 3 (.slice (some ⟨g, 0, none⟩) m c) m (((ts.take k).filter (keepS (now + 1))).flatMap SV.cells)) := HY.out
    have lw : w2.heap.size + 1 ≤ wr.heap.size := by omega
    go_wp2_with (at_builtin; refine wpList_append_own _ rfl _ _ 25 rfl (w2.heap.size + 1) 39 ti _ 3 40 Tryz.underlying25 hti hy0 hy1 hy2 rfl (by decide) (.slice (some ⟨g, 0, none⟩) m c) m (((ts.take k).filter (keepS (now + 1))).flatMap SV.cells) rfl (YD.out.alloc _) ⟨wr.heap.size, 0, none⟩ 1 1 [.slice x.a x.xs.length x.c, .int .i64 x.since, .bool x.bad] rfl rfl ?h1 (three_one _ _ _ _ _) ?h3 ?h4 ?h5 ?_)
    case h3 => unfold maxLen; omega
    case h4 => omega
    case h5 => first | omega | (simp; omega)
    intro v3 w5 hown hgrow hnil
    obtain ⟨g', c', rfl⟩ : ∃ g' c', v3 = .slice (some ⟨g', 0, none⟩) (m + 1) c' := form_of hown hnil
    have BD : Below wr.heap.size wr (wr.drew.alloc (.cells #[.slice x.a x.xs.length x.c, .int .i64 x.since, .bool x.bad] 39)) := ((Below.refl wr.heap.size wr).drew).alloc (Nat.le_refl _) _
    have lg1 : w2.heap.size + 1 ≤ g := (own_lt HY.out g rfl).1
    have nb : ∀ b, b < wr.heap.size → b < w2.heap.size + 1 → w5.heap[b]? = wr.heap[b]? := fun b hb hb' => (hgrow.block b (Nat.lt_of_lt_of_le hb BD.size) (fun e => by have h2 : b = g := Option.some.inj e; omega)).trans (BD.block _ hb)
    have C5 : Hid (CAns w5 (w.heap.size + 2) gq cq ts) := by
     have CD := HC.out.below BD
     obtain ⟨cu, hcu⟩ := own_at (own_below HY.out BD) g rfl
     refine ⟨own_kept HC.out.own fun b hb => ?_, CD.forest.grown hgrow hcu (fun cur t' fr e => by cases e; exact ⟨by decide, by decide⟩)⟩
     have h2 : gq = b := Option.some.inj hb
     exact nb b (by rw [← h2]; exact hgr) (by omega)
    have Y5 : Hid (w5.ownsRow (w2.heap.size + 1) 39 3 (.slice (some ⟨g', 0, none⟩) (m + 1) c') (m + 1) (((ts.take (k + 1)).filter (keepS (now + 1))).flatMap SV.cells)) := (show World.ownsRow _ _ _ _ _ _ _ by
     rw [KT'.out, List.flatMap_append]
     simpa [SV.cells, scells] using hown)
    have M5 : Hid (m + 1 = ((ts.take (k + 1)).filter (keepS (now + 1))).length) := (show _ = _ by rw [KT'.out, List.length_append, HM.out]; rfl)
    have R5 : Hid (w5.heap[w.heap.size + 1]? = some (.cells #[.int .i64 0, .slice none 0 0] 27 (0, 0))) := (nb _ (lt_of_block HR.out) (by omega)).trans HR.out
    have X5 : Hid (w5.heap[w2.heap.size]? = some (.cells #[.int .i64 (now + 1), .slice (some ⟨gq, 0, none⟩) ss.length cq] 27 (0, 0))) := (nb _ lx (by omega)).trans HX.out
    have B5 : Hid (Below w.heap.size w w5) := (HW.out.trans (BD.mono hsz)).grown hgrow (Nat.le_trans hsz BD.size) (fun j hj => by have h2 : g = j := Option.some.inj hj; omega)
    clear hown hgrow hnil nb BD YD
    go_wp2
    go_roundw
    case rel => exact ⟨k + 1, g', m + 1, c', by omega, by go_num, rfl, M5.out, Y5.out, C5.out, R5.out, X5.out, B5.out⟩
    case measure => simp [intOf]; omega
  ·obtain rfl : k = ss.length := by omega
   have r0 : wr.cell? ⟨w.heap.size + 1, 0, none⟩ = some (.int .i64 0) := zCr HR.out
   have r1 : wr.cell? ⟨w.heap.size + 1, 1, none⟩ = some (.slice none 0 0) := zCr HR.out
   have fz : ∀ o, wr.frozen? ⟨w.heap.size + 1, o, none⟩ = false := fun o => zUf HR.out o
   have fx : ∀ o, wr.frozen? ⟨w2.heap.size, o, none⟩ = false := fun o => zUf HX.out o
   have hne : ¬ (w.heap.size + 1 = w2.heap.size) := by omega
   have hne' : ¬ (w2.heap.size = w.heap.size + 1) := by omega
   have lr := lt_of_block HR.out
   have hfl : m ≤ 4 := by
    have h1 := List.length_filter_le (keepS (now + 1)) (ts.take ss.length)
    rw [List.length_take] at h1
    have := HM.out
    omega
   have hcm2 := own_caps HY.out
   have KT : ts.take ss.length = ts := List.take_of_length_le (by rw [HT.out]; exact Nat.le_refl _)
   have FE : Hid (AnsB wr (w.heap.size + 2) g (ts.filter (keepS (now + 1)))) := (by
    have h1 := HY.out
    rw [KT] at h1
    exact ⟨by have := (own_lt HY.out g rfl).1; omega, RowB.of_own h1, HC.out.forest.sub List.filter_sublist⟩)
   have ME : Hid (m = (ts.filter (keepS (now + 1))).length) := (by have h := HM.out; rw [KT] at h; exact h)
   clear KT
   go_wp2
   refine bodyPost_ret (v := .tuple #[.agg #[.int .i64 (now + 1), .slice (some ⟨g, 0, none⟩) m c], .int .i64 0]) (by simp [results, Tryz.results8, go_sem, r0, r1]) rfl ⟨_, now + 1, _, 0, rfl, Or.inr (Or.inr ⟨HBO.out, HN.out, rfl, rfl, rfl⟩), ⟨some ⟨g, 0, none⟩, c, ts.filter (keepS (now + 1)), by rw [← ME.out], by rw [keepS_keys, HK.out], by rw [← ME.out]; exact hfl, by rw [← ME.out]; omega, by omega, Or.inr ⟨g, rfl, ?_⟩⟩, ?_⟩
   ·exact (((FE.out.set HX.out ⟨by decide, by decide, by decide⟩ _).set ((zHs hne).trans HR.out) ⟨by decide, by decide, by decide⟩ _).set (set_at ((zHs hne).trans HR.out)) ⟨by decide, by decide, by decide⟩ _).le (by omega)
   ·exact Below.setCell (Below.setCell (Below.setCell HW.out (by simp only; omega) _) (by simp only; omega) _) (by simp only; omega) _
def pieceP (p : Pk) (len m n : Nat) : Pk := ⟨p.src, p.dst, p.kind, p.id, p.hops, p.whole, p.off + m, if m + n < len then true else p.more⟩
def pieceD (zs : List Int) (m n : Nat) : List Int := (zs.drop m).take n
theorem below_alloc4 (w : World) (o1 o2 o3 o4 : Obj) : Below w.heap.size w ((((w.alloc o1).alloc o2).alloc o3).alloc o4) := (Joins.below_alloc3 w o1 o2 o3).alloc (by simp; omega) o4
theorem RdB.piece {w : World} {b off len : Nat} {zs : List Int} (h : RdB w (some ⟨b, off, none⟩) len zs) (m n : Nat) : RdB w (some ⟨b, off + m, none⟩) (pieceD zs m n).length (pieceD zs m n) := by
 refine ⟨rfl, ?_⟩
 by_cases h0 : (pieceD zs m n).length = 0
 ·exact Or.inl h0
 ·right
  have hl : (pieceD zs m n).length ≤ zs.length - m := by simp [pieceD]; omega
  obtain ⟨b', off', ha, hb, hc⟩ := h.2.resolve_left (by have := h.1; omega)
  cases ha
  refine ⟨b, off + m, rfl, hb, fun k hk => ?_⟩
  have e : (pieceD zs m n).getD k 0 = zs.getD (m + k) 0 := by
   have hk2 : k < n := by simp [pieceD] at hk; omega
   simp [pieceD, List.getD, hk2]
  rw [e, show off + m + k = off + (m + k) by omega]
  exact hc (m + k) (by have := h.1; omega)
set_option maxHeartbeats 1600000 in
theorem l2Piece_any (p : Pk) (ad : Addr) (len cap m n : Nat) (zs : List Int) (w : World) (hr : RdB w (some ad) len zs) (hl : len ≤ 1048576) (hc : len ≤ cap) (hcm : cap ≤ 9223372036854775807) (hm : m < len) (hn : n ≤ 1048576) (h0 : 0 ≤ p.off) (h1 : p.off ≤ 1048576) :
  Calls Tryz.prog 79 #[p.val (.slice (some ad) len cap), .int .i64 m, .int .i64 n] w fun e w' => ∃ g c, e = .returned ((pieceP p len m n).val (.slice (some ⟨g, 0, none⟩) (pieceD zs m n).length c)) ∧ w'.ownsRow w.heap.size 5 1 (.slice (some ⟨g, 0, none⟩) (pieceD zs m n).length c) (pieceD zs m n).length ((pieceD zs m n).map (.int .u8)) ∧ Below w.heap.size w w' := by
 unfold Pk.val
 obtain ⟨b, off, had, hb, hcell⟩ := hr.2.resolve_left (by omega)
 cases had
 obtain ⟨i0, hi, hz0, hz1, hz2⟩ := info_parts Tryz.info5
 by_cases hc1 : m + n < len
 ·have hPe : pieceP p len m n = ⟨p.src, p.dst, p.kind, p.id, p.hops, p.whole, p.off + m, true⟩ := by unfold pieceP; rw [if_pos hc1]
  have hDl : (pieceD zs m n).length = n := by have := hr.1; simp [pieceD]; omega
  rw [hPe, hDl]
  have hi1 : (m : Int) + (n : Int) < (len : Int) := by omega
  have hi2 : (m : Int) + (n : Int) ≤ (cap : Int) := by omega
  go_enter Tryz.func79, Tryz.ntmps79
  go_wp2_with (at_builtin; refine wpList_append_own _ rfl _ _ 22 rfl (w.heap.size + 3) 5 i0 (.int .u8 0) 1 1 Tryz.underlying22 hi hz0 hz1 hz2 rfl (by decide) (.slice (some ⟨w.heap.size + 3, 0, none⟩) 0 0) 0 [] rfl ?h1 ⟨b, off + m, none⟩ (m + n - m) (cap - m) ((pieceD zs m n).map (.int .u8)) rfl ?h2 ?h3 (one_u8 _) ?h4 ?h5 ?h6 ?_)
  case h1 => exact own_empty _ _ _ (by simp) (by omega)
  case h2 => simp [hDl]; try omega
  case h3 => exact cells_rdb ((hr.piece m n).below (below_alloc4 _ _ _ _ _))
  case h4 => unfold maxLen; omega
  case h5 => omega
  case h6 => simp
  intro v1 w1 hown hgrow hnil
  obtain ⟨g, c, rfl⟩ : ∃ g c, v1 = .slice (some ⟨g, 0, none⟩) (n) c := by
   rcases Joins.ownsRow_forms hown with h | ⟨g, c, h⟩
   ·exact absurd h.1 hnil
   ·exact ⟨g, c, h⟩
  have hb4 : Below (w.heap.size + 3) _ w1 := (Below.refl _ _).grown hgrow (by simp) (by intro k hk; simp [Value.ownBlock] at hk; omega)
  have hlt0 : w.heap.size + 2 < w1.heap.size := Nat.lt_of_lt_of_le (by simp) hb4.size
  have hlt1 : w.heap.size + 1 < w1.heap.size := by omega
  have hf := (bcell hb4).2
  have f1 : ∀ o, w1.frozen? ⟨w.heap.size + 1, o, none⟩ = false := fun o => by rw [hf _ _ (by omega)]; go_simp
  have f2 : ∀ o, w1.frozen? ⟨w.heap.size + 1 + 1, o, none⟩ = false := fun o => by rw [hf _ _ (by omega)]; go_simp
  have Z : Boxed w1 (w.heap.size + 1) zeroPk (.slice none 0 0) := (((Boxed.newAt (w.alloc _) (w.heap.size + 1) zeroPk (.slice none 0 0) 29 (by simp)).below (zBa _ _)).below (zBa _ _)).upto hb4 (by omega)
  have Q : Boxed w1 (w.heap.size + 1 + 1) ⟨p.src, p.dst, p.kind, p.id, p.hops, p.whole, p.off + m, true⟩ (.slice (some ⟨b, off, none⟩) len cap) := ((Boxed.newAt ((w.alloc _).alloc _) (w.heap.size + 1 + 1) ⟨p.src, p.dst, p.kind, p.id, p.hops, p.whole, p.off + m, true⟩ (.slice (some ⟨b, off, none⟩) len cap) 29 (by simp)).below (zBa _ _)).upto hb4 (by omega)
  obtain ⟨_, z0, z1, z2, z3, z4, z5, z6, z7, z8⟩ := Z
  obtain ⟨_, c0, c1, c2, c3, c4, c5, c6, c7, c8⟩ := Q
  have HB : Hid (Below w.heap.size w w1) := (below_alloc4 _ _ _ _ _).trans (hb4.mono (by omega))
  have HO : Hid (w1.ownsRow (w.heap.size + 3) 5 1 (.slice (some ⟨g, 0, none⟩) (n) c) (n) ((pieceD zs m n).map (.int .u8))) := by simpa [Hid] using hown
  clear hown hgrow hnil hb4 hf hcell
  go_wp2
  refine bodyPost_ret (v := .agg #[.int .i64 p.src, .int .i64 p.dst, .int .i64 p.kind, .int .i64 p.id, .int .i64 p.hops, .bool p.whole, .int .i64 (p.off + m), .bool true, .slice (some ⟨g, 0, none⟩) (n) c]) (by simp [results, Tryz.results79, go_sem, z0, z1, z2, z3, z4, z5, z6, z7, z8]) rfl ⟨g, c, rfl, ?_, ?_⟩
  ·exact Joins.ownsRow_le (own9 (ownsRow_setCell_below HO.out (by simp) _) (by omega) _ _ _ _ _ _ _ _ _) (by omega)
  ·exact below9 (Below.setCell HB.out (by simp; omega) _) (by omega) _ _ _ _ _ _ _ _ _
 ·have hPe : pieceP p len m n = ⟨p.src, p.dst, p.kind, p.id, p.hops, p.whole, p.off + m, p.more⟩ := by unfold pieceP; rw [if_neg hc1]
  have hDl : (pieceD zs m n).length = len - m := by have := hr.1; simp [pieceD]; omega
  rw [hPe, hDl]
  have hi1 : (len : Int) ≤ (m : Int) + (n : Int) := by omega
  have hi2 : (m : Int) ≤ (len : Int) := by omega
  have hi3 : (len : Int) ≤ (cap : Int) := by omega
  go_enter Tryz.func79, Tryz.ntmps79
  go_wp2_with (at_builtin; refine wpList_append_own _ rfl _ _ 22 rfl (w.heap.size + 3) 5 i0 (.int .u8 0) 1 1 Tryz.underlying22 hi hz0 hz1 hz2 rfl (by decide) (.slice (some ⟨w.heap.size + 3, 0, none⟩) 0 0) 0 [] rfl ?h1 ⟨b, off + m, none⟩ (len - m) (cap - m) ((pieceD zs m n).map (.int .u8)) rfl ?h2 ?h3 (one_u8 _) ?h4 ?h5 ?h6 ?_)
  case h1 => exact own_empty _ _ _ (by simp) (by omega)
  case h2 => simp [hDl]; try omega
  case h3 => exact cells_rdb ((hr.piece m n).below (below_alloc4 _ _ _ _ _))
  case h4 => unfold maxLen; omega
  case h5 => omega
  case h6 => simp
  intro v1 w1 hown hgrow hnil
  obtain ⟨g, c, rfl⟩ : ∃ g c, v1 = .slice (some ⟨g, 0, none⟩) (len - m) c := by
   rcases Joins.ownsRow_forms hown with h | ⟨g, c, h⟩
   ·exact absurd h.1 hnil
   ·exact ⟨g, c, h⟩
  have hb4 : Below (w.heap.size + 3) _ w1 := (Below.refl _ _).grown hgrow (by simp) (by intro k hk; simp [Value.ownBlock] at hk; omega)
  have hlt0 : w.heap.size + 2 < w1.heap.size := Nat.lt_of_lt_of_le (by simp) hb4.size
  have hlt1 : w.heap.size + 1 < w1.heap.size := by omega
  have hf := (bcell hb4).2
  have f1 : ∀ o, w1.frozen? ⟨w.heap.size + 1, o, none⟩ = false := fun o => by rw [hf _ _ (by omega)]; go_simp
  have f2 : ∀ o, w1.frozen? ⟨w.heap.size + 1 + 1, o, none⟩ = false := fun o => by rw [hf _ _ (by omega)]; go_simp
  have Z : Boxed w1 (w.heap.size + 1) zeroPk (.slice none 0 0) := (((Boxed.newAt (w.alloc _) (w.heap.size + 1) zeroPk (.slice none 0 0) 29 (by simp)).below (zBa _ _)).below (zBa _ _)).upto hb4 (by omega)
  have Q : Boxed w1 (w.heap.size + 1 + 1) ⟨p.src, p.dst, p.kind, p.id, p.hops, p.whole, p.off + m, p.more⟩ (.slice (some ⟨b, off, none⟩) len cap) := ((Boxed.newAt ((w.alloc _).alloc _) (w.heap.size + 1 + 1) ⟨p.src, p.dst, p.kind, p.id, p.hops, p.whole, p.off + m, p.more⟩ (.slice (some ⟨b, off, none⟩) len cap) 29 (by simp)).below (zBa _ _)).upto hb4 (by omega)
  obtain ⟨_, z0, z1, z2, z3, z4, z5, z6, z7, z8⟩ := Z
  obtain ⟨_, c0, c1, c2, c3, c4, c5, c6, c7, c8⟩ := Q
  have HB : Hid (Below w.heap.size w w1) := (below_alloc4 _ _ _ _ _).trans (hb4.mono (by omega))
  have HO : Hid (w1.ownsRow (w.heap.size + 3) 5 1 (.slice (some ⟨g, 0, none⟩) (len - m) c) (len - m) ((pieceD zs m n).map (.int .u8))) := by simpa [Hid] using hown
  clear hown hgrow hnil hb4 hf hcell
  go_wp2
  refine bodyPost_ret (v := .agg #[.int .i64 p.src, .int .i64 p.dst, .int .i64 p.kind, .int .i64 p.id, .int .i64 p.hops, .bool p.whole, .int .i64 (p.off + m), .bool p.more, .slice (some ⟨g, 0, none⟩) (len - m) c]) (by simp [results, Tryz.results79, go_sem, z0, z1, z2, z3, z4, z5, z6, z7, z8]) rfl ⟨g, c, rfl, ?_, ?_⟩
  ·exact Joins.ownsRow_le (own9 (ownsRow_setCell_below HO.out (by simp) _) (by omega) _ _ _ _ _ _ _ _ _) (by omega)
  ·exact below9 (Below.setCell HB.out (by simp; omega) _) (by omega) _ _ _ _ _ _ _ _ _
end Go.Proofs.YtjbkgmbakjnlhaaGreatDoor
