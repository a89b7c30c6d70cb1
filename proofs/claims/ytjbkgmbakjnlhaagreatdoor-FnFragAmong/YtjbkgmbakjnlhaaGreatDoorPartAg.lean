import Derived.Test.YtjbkgmbakjnlhaaGreatDoorPartAf
import Derived.Test.YtjbkgmbakjnlhaaGreatDoorPartAe
import Derived.Test.YtjbkgmbakjnlhaaGreatDoorPartAa
import Derived.Laws.CopyOwn
import Derived.Test.YtjbkgmbakjnlhaaGreatDoorPartAd
import Derived.Test.YtjbkgmbakjnlhaaGreatDoorPartAb
import Derived.Deep.WholeRow
namespace Go.Proofs.YtjbkgmbakjnlhaaGreatDoor
set_option maxRecDepth 100000
open Go.RowKit
theorem Tryz.info78 : (Tryz.prog.info? 78).map (fun i => (i.zero, i.size)) = some (some (.agg (tcells noTab)), 256) := by kernel_rfl
theorem set_tab {w : World} {tb n : Nat} {T : Tab} {z : Int} (h : w.heap[tb]? = some (.cells (tcells T) 78 (0, 0))) (hn : n < T.length) :
  ((w.setCell ⟨tb, n * 2, none⟩ (.int .u8 z)).setCell ⟨tb, n * 2 + 1, none⟩ (.bool true)).heap[tb]? = some (.cells (tcells (T.set n (z, true))) 78 (0, 0)) := by
 rw [setCell_eq_setRow w tb (n * 2) _ _ _ _ h, setCell_eq_setRow _ tb (n * 2 + 1) _ _ _ _ (setRow_heap _ _ _ _ _ _ h), setRow_heap _ _ _ _ _ _ (setRow_heap _ _ _ _ _ _ h), tcells_set T n z true hn]
theorem heap2 (w : World) (b i j k : Nat) (h : k ≠ b) (x y : Value) : ((w.setCell ⟨b, i, none⟩ x).setCell ⟨b, j, none⟩ y).heap[k]? = w.heap[k]? :=
 (zHs h).trans (zHs h)
structure PW (w wr : World) (T : Tab) : Prop where
 res : wr.heap[w.heap.size]? = some (.cells (tcells noTab) 78 (0, 0))
 tab : wr.heap[w.heap.size + 1]? = some (.cells (tcells T) 78 (0, 0))
 bel : Below w.heap.size w wr
theorem PW.start (w : World) : PW w ((w.alloc (.cells (tcells noTab) 78)).alloc (.cells (tcells noTab) 78)) noTab :=
 ⟨(zHa (by simp)).trans (heap_new _ _ _ rfl), heap_new _ _ _ (by simp), Joins.below_alloc2 _ _ _⟩
theorem PW.alloc {w wr : World} {T : Tab} (h : PW w wr T) (o : Obj) : PW w (wr.alloc o) T :=
 ⟨(zHa (lt_of_block h.res)).trans h.res, (zHa (lt_of_block h.tab)).trans h.tab, h.bel.alloc h.bel.size _⟩
theorem PW.set {w wr : World} {T : Tab} {n : Nat} {z : Int} (h : PW w wr T) (hn : n < T.length) : PW w ((wr.setCell ⟨w.heap.size + 1, n * 2, none⟩ (.int .u8 z)).setCell ⟨w.heap.size + 1, n * 2 + 1, none⟩ (.bool true)) (T.set n (z, true)) :=
 ⟨(heap2 _ _ _ _ _ (by omega) _ _).trans h.res, set_tab h.tab hn, (h.bel.setCell (by simp) _).setCell (by simp) _⟩
set_option maxHeartbeats 3200000 in
theorem placed_any (g cl : Nat) (xs : List RV) (w : World) (hL : RL w g xs) (hm : xs.length ≤ 40) (ho : ∀ x ∈ xs, 0 ≤ x.p.off ∧ x.p.off + (x.zs.length : Int) ≤ 128) :
  Calls Tryz.prog 44 #[.slice (some ⟨g, 0, none⟩) xs.length cl] w fun e w' => ∃ T, e = .returned (.agg (tcells T)) ∧ Says (xs.map RV.key) T ∧ Below w.heap.size w w' := by
 obtain ⟨hz, hsz⟩ := zero_of_info Tryz.info78
 have HS : Hid ((Tryz.prog.info? 78).map (·.size) = some 256) := hsz
 have HL : Hid (RL w g xs) := hL
 have HO : Hid (∀ x ∈ xs, 0 ≤ x.p.off ∧ x.p.off + (x.zs.length : Int) ≤ 128) := ho
 clear hL ho hsz
 go_enter Tryz.func44, Tryz.ntmps44
 go_wp2
 go_loopw [10] (fun i wr => ∃ (k : Nat) (T : Tab), k ≤ xs.length ∧ i = .int .i64 k ∧ Hid (Says ((xs.map RV.key).take k) T) ∧ Hid (PW w wr T)) (fun i _ => xs.length - (intOf i).toNat)
 case atStart => exact ⟨0, noTab, by omega, rfl, says_no, PW.start w⟩
 case round =>
  obtain ⟨k, T, hk, rfl, HT, HP⟩ := hrel
  obtain ⟨ws, rfl⟩ : ∃ ws, ws = wr := ⟨_, rfl⟩
  have B0 : Hid (Below w.heap.size w ws) := HP.out.bel
  have hs0 := B0.out.size
  by_cases hlt : k < xs.length
  ·obtain ⟨x, hx⟩ := get_of_lt hlt
   have HX : Hid (xs[k]? = some x) := hx
   have Lr := HL.out.below B0.out
   have hxm := List.mem_of_getElem? hx
   have HR : Hid (ROk w x) := HL.out.each x hxm
   have hgr := Lr.lt
   have Hk := Lr.elem k x hx
   have hi : (k : Int) < (xs.length : Int) := by omega
   obtain ⟨o0, o1⟩ := HO.out x hxm
   clear hx Lr hxm
   obtain ⟨c0, c1, c2, c3, c4, c5, c6, c7, c8⟩ := Hk
   go_wp2
   go_loopw [17] (fun j wq => ∃ (m : Nat) (T' : Tab), m ≤ x.zs.length ∧ j = .int .i64 m ∧ Hid (Says (upTo (xs.map RV.key) k m x.key) T') ∧ Hid (PW w wq T') ∧ Hid (Boxed wq ws.heap.size x.p (.slice x.a x.zs.length x.c))) (fun j _ => x.zs.length - (intOf j).toNat)
   case atStart => exact ⟨0, T, by omega, rfl, says_begin HT.out, HP.out.alloc _, Boxed.new _ _ _ _⟩
   case round =>
    obtain ⟨m, T', hmk, rfl, HS', HP', HX'⟩ := hrel
    by_cases hmlt : m < x.zs.length
    ·obtain ⟨-, h0 | ⟨ba, oa, ha, hba, hca⟩⟩ := HR.out.rd
     ·omega
     have hw : ws.heap.size < wr.heap.size := HX'.out.lt
     have cz : wr.cell? ⟨ba, oa + m, none⟩ = some (.int .u8 (x.zs.getD m 0)) := (HP'.out.bel.cell (p := ⟨ba, oa + m, none⟩) hba).trans (hca m hmlt)
     obtain ⟨n, hn⟩ : ∃ n : Nat, x.p.off + (m : Int) = (n : Int) := ⟨(x.p.off + m).toNat, by omega⟩
     have n0 : (0 : Int) ≤ (n : Int) := by omega
     have n1 : (n : Int) < 128 := by omega
     have hml : (m : Int) < (x.zs.length : Int) := by omega
     obtain ⟨e, he⟩ : ∃ e, T'[n]? = some e := get_of_lt (by rw [HS'.out.len]; omega)
     obtain ⟨t0, t1⟩ := tcells_at he
     have d0 : wr.cell? ⟨w.heap.size + 1, n * 2, none⟩ = some (.int .u8 e.1) := by rw [zCr HP'.out.tab]; exact t0
     have d1 : wr.cell? ⟨w.heap.size + 1, n * 2 + 1, none⟩ = some (.bool e.2) := by rw [zCr HP'.out.tab]; exact t1
     have fz : ∀ o, wr.frozen? ⟨w.heap.size + 1, o, none⟩ = false := fun o => zUf HP'.out.tab o
     have ltq := lt_of_block HP'.out.tab
     obtain ⟨lx, k0, k1, k2, k3, k4, k5, k6, k7, k8⟩ := id HX'.out
     rw [ha] at k8
     have hoff : x.p.off ≤ 128 := by omega
     clear c0 c1 c2 c3 c4 c5 c6 c7 c8 t0 t1 he hca
     have hne : ws.heap.size ≠ w.heap.size + 1 := by have := lt_of_block HP.out.tab; omega
     have hxz : x.key.2[m]? = some (x.zs.getD m 0) := by simp [RV.key, List.getD, List.getElem?_eq_getElem hmlt]
     have HZ : Hid (x.zs.getD m 0 = x.zs[m]) := by simp [Hid, List.getD, List.getElem?_eq_getElem hmlt]
     have HXZ : Hid (x.key.2[m]? = some (x.zs.getD m 0)) := hxz
     clear hxz
     go_wp2
     go_roundw
     case rel =>
      rw [← HZ.out]
      exact ⟨m + 1, T'.set n (x.zs.getD m 0, true), by omega, by go_num, says_step HS'.out hmlt HXZ.out hn (by omega), HP'.out.set (by rw [HS'.out.len]; omega), HX'.out.kept (by simp) (heap2 _ _ _ _ _ hne _ _)⟩
     case measure => simp [intOf]; omega
    ·have em : m = x.zs.length := by omega
     subst em
     clear c0 c1 c2 c3 c4 c5 c6 c7 c8
     go_wp2
     go_roundw
     case rel => exact ⟨k + 1, T', by omega, by go_num, says_end (map_get HX.out) HS'.out, HP'.out⟩
     case measure => simp [intOf]; omega
  ·have ek : k = xs.length := by omega
   subst ek
   have ln := HT.out.len
   have hi1 : (Tryz.prog.info? 78).map (·.size) = some (tcells T).size := by rw [tcells_size, ln]; exact HS.out
   have HI : Hid ((Tryz.prog.info? 78).map (·.size) = some (tcells T).size) := hi1
   have HTT : Hid (Says (xs.map RV.key) T) := by
    have h := HT.out
    rw [List.take_of_length_le (by simp)] at h
    exact h
   have htab := HP.out.tab
   have hres := HP.out.res
   clear hi1
   go_wp2_with (first
    | (refine wpList_load_row rfl 78 _ rfl (w.heap.size + 1) rfl 78 (tcells T) (0, 0) _ htab Tryz.underlying78 rfl HI.out ?_)
    | (refine wpList_store_row rfl 78 _ _ rfl w.heap.size (tcells T) rfl rfl 78 (tcells noTab) hres HI.out (by rw [tcells_size, tcells_size, ln]; rfl) (tcells_one T) ?_))
   exact bodyPost_ret (v := .agg (tcells T)) (results_cell_row rfl _ _ w.heap.size 78 (tcells T) (0, 0) _ rfl (setRow_heap _ _ _ _ _ _ hres) Tryz.underlying78 rfl HI.out) rfl ⟨T, rfl, HTT.out, below_setRow B0.out (Nat.le_refl _) _⟩
theorem knownB_succ {T : Tab} {k : Nat} {e : Int × Bool} (he : T[k]? = some e) : knownB T (k + 1) = (knownB T k && e.2) := by
 unfold knownB
 rw [List.take_add_one, he, List.all_append]
 simp
theorem knownB_no {T : Tab} {k n : Nat} {e : Int × Bool} (he : T[k]? = some e) (h : e.2 = false) (hk : k < n) : knownB T n = false := by
 unfold knownB
 rw [← Bool.not_eq_true, List.all_eq_true]
 intro hall
 have := hall e (List.mem_of_getElem? (i := k) (by rw [List.getElem?_take, if_pos hk]; exact he))
 rw [h] at this
 cases this
set_option maxHeartbeats 3200000 in
theorem knownUpTo_any (T : Tab) (n : Nat) (w : World) (hT : T.length = 128) (hn : n ≤ 128) :
  Calls Tryz.prog 45 #[.agg (tcells T), .int .i64 n] w fun e w' => e = .returned (.bool (knownB T n)) ∧ Below w.heap.size w w' := by
 have HH : Hid (∀ W : World, Below (w.heap.size + 1) (w.alloc (.cells (tcells T) 78)) W → W.heap[w.heap.size]? = some (.cells (tcells T) 78 (0, 0))) := fun W h => (h.block w.heap.size (by omega)).trans (heap_new _ _ _ rfl)
 have n0 : (0 : Int) ≤ (n : Int) := by omega
 have n1 : (n : Int) ≤ 128 := by omega
 go_enter Tryz.func45, Tryz.ntmps45
 go_wp2
 go_loopw [10] (fun i wr => ∃ k : Nat, k ≤ n ∧ i = .int .i64 k ∧ Hid (knownB T k = true) ∧ Hid (Below (w.heap.size + 1) (w.alloc (.cells (tcells T) 78)) wr)) (fun i _ => n - (intOf i).toNat)
 case atStart => exact ⟨0, by omega, rfl, (show knownB T 0 = true by simp [knownB]), Below.refl _ _⟩
 case round =>
  obtain ⟨k, hk, rfl, HK, HB⟩ := hrel
  have hsz : w.heap.size + 1 ≤ wr.heap.size := Nat.le_trans (by simp) HB.out.size
  have B0 : Hid (Below w.heap.size w wr) := (zBa _ _).trans (HB.out.mono (by omega))
  by_cases hlt : k < n
  ·obtain ⟨e, he⟩ := get_of_lt (show k < T.length by omega)
   obtain ⟨t0, t1⟩ := tcells_at he
   have d0 : wr.cell? ⟨w.heap.size, k * 2, none⟩ = some (.int .u8 e.1) := by rw [zCr (HH.out wr HB.out)]; exact t0
   have d1 : wr.cell? ⟨w.heap.size, k * 2 + 1, none⟩ = some (.bool e.2) := by rw [zCr (HH.out wr HB.out)]; exact t1
   have HE : Hid (T[k]? = some e) := he
   have hi : (k : Int) < (n : Int) := by omega
   have hlt0 : w.heap.size < wr.heap.size := by omega
   clear he t0 t1
   obtain ⟨z, bl⟩ := e
   cases bl
   ·go_wp2
    go_ret
    exact ⟨ret_bool (knownB_no HE.out rfl hlt).symm, B0.out.alloc (by omega) _⟩
   ·go_wp2
    go_roundw
    case rel => exact ⟨k + 1, by omega, by go_num, (show knownB T (k + 1) = true by rw [knownB_succ HE.out, HK.out]; rfl), HB.out.alloc hsz _⟩
    case measure => simp [intOf]; omega
  ·go_wp2
   go_ret
   obtain rfl : k = n := by omega
   exact ⟨ret_bool HK.out.symm, B0.out⟩
set_option maxHeartbeats 3200000 in
theorem upTo_any (T : Tab) (n : Nat) (w : World) (hT : T.length = 128) (hn : n ≤ 128) :
  Calls Tryz.prog 47 #[.agg (tcells T), .int .i64 n] w fun e w' => ∃ gd, e = .returned (.slice (some ⟨gd, 0, none⟩) n n) ∧ w.heap.size ≤ gd ∧ w'.heap[gd]? = some (.cells (cellsOf (valsT T n)) 5 (0, 0)) ∧ Below w.heap.size w w' := by
 have lv : (valsT T n).length = n := by simp [valsT]; omega
 have hmk := run_make_row' (P := Tryz.prog) 22 5 (.int .u8 0) 1 Tryz.underlying22 Tryz.info5 rfl .i64 .i64 n (by omega) (by omega)
 have e0 : madeCells #[.int .u8 0] n = cellsTo (valsT T n) 0 := by rw [cellsTo_zero, lv]
 rw [e0] at hmk
 clear e0
 have n0 : (0 : Int) ≤ (n : Int) := by omega
 have HH : Hid ((w.alloc (.cells (tcells T) 78)).heap[w.heap.size]? = some (.cells (tcells T) 78 (0, 0))) := heap_new _ _ _ rfl
 go_enter Tryz.func47, Tryz.ntmps47
 go_wp2
 go_loopw [11] (fun i wr => ∃ k : Nat, k ≤ n ∧ i = .int .i64 k ∧ wr = (w.alloc (.cells (tcells T) 78)).alloc (.cells (cellsTo (valsT T n) k) 5)) (fun i _ => n - (intOf i).toNat)
 case atStart => exact ⟨0, by omega, rfl, rfl⟩
 case round =>
  obtain ⟨k, hk, rfl, rfl⟩ := hrel
  by_cases hlt : k < n
  ·obtain ⟨e, he⟩ := get_of_lt (show k < T.length by omega)
   obtain ⟨t0, t1⟩ := tcells_at he
   have d0 : ((w.alloc (.cells (tcells T) 78)).alloc (.cells (cellsTo (valsT T n) k) 5)).cell? ⟨w.heap.size, k * 2, none⟩ = some (.int .u8 e.1) := by
    rw [zCr ((zHa (by simp)).trans HH.out)]; exact t0
   have hi : (k : Int) < (n : Int) := by omega
   have hi2 : (k : Int) < 128 := by omega
   have hck := cellsTo_at (valsT T n) k (by omega)
   have hv : (valsT T n).getD k 0 = e.1 := by
    simp [valsT, List.getD, hlt, he]
   have h := cellsTo_succ (valsT T n) k (by omega)
   rw [hv] at h
   have HS : Hid ((cellsTo (valsT T n) k).setIfInBounds k (.int .u8 e.1) = cellsTo (valsT T n) (k + 1)) := h
   clear h hv he t0 t1 hmk
   go_wp2
   go_roundw
   case rel => exact ⟨k + 1, by omega, by go_num, by rw [HS.out]⟩
   case measure => simp [intOf]; omega
  ·go_wp2
   go_ret
   obtain rfl : k = n := by omega
   refine ⟨w.heap.size + 1, rfl, by omega, ?_, Joins.below_alloc2 _ _ _⟩
   rw [← cellsTo_all, lv]
   exact heap_new _ _ _ (by simp)
def leastH (h : Int) (y : PB) : Int := if y.1.hops < h then y.1.hops else h
def headTo (x0 : RV) (L : List PB) (k : Nat) : Pk := ⟨x0.p.src, x0.p.dst, x0.p.kind, x0.p.id, (L.take k).foldl leastH x0.p.hops, x0.p.whole || (L.take k).any (fun y => y.1.whole), 0, false⟩
theorem headTo_succ {x0 : RV} {L : List PB} {k : Nat} {x : PB} (hx : L[k]? = some x) : headTo x0 L (k + 1) = { headTo x0 L k with hops := leastH (headTo x0 L k).hops x, whole := (headTo x0 L k).whole || x.1.whole } := by
 unfold headTo
 rw [List.take_add_one, hx]
 simp [List.foldl_append, List.any_append, Bool.or_assoc]
theorem headTo_all {x0 : RV} {L : List PB} (h0 : L[0]? = some x0.key) : headTo x0 L L.length = headL L := by
 match L, h0 with
 | x :: r, h0 =>
  simp at h0
  subst h0
  unfold headTo headL
  have hw : (x0.p.whole || (x0.key :: r).any (fun y => y.1.whole)) = (x0.key :: r).any (fun y => y.1.whole) := by simp [RV.key]
  rw [List.take_length, hw]
  rfl
structure HW (w wr : World) (rb bb : Nat) (p : Pk) (v : Value) : Prop where
 res : wr.heap[rb]? = some (.cells (pcells zeroPk (.slice none 0 0)) 29 (0, 0))
 box : wr.heap[bb]? = some (.cells (pcells p v) 29 (0, 0))
 bel : Below w.heap.size w wr
theorem HW.alloc {w wr : World} {rb bb : Nat} {p : Pk} {v : Value} (h : HW w wr rb bb p v) (o : Obj) : HW w (wr.alloc o) rb bb p v :=
 ⟨(zHa (lt_of_block h.res)).trans h.res, (zHa (lt_of_block h.box)).trans h.box, h.bel.alloc h.bel.size _⟩
theorem HW.set5 {w wr : World} {rb bb : Nat} {p : Pk} {v : Value} (h : HW w wr rb bb p v) (hb : w.heap.size ≤ bb) (hne : rb ≠ bb) (y : Bool) : HW w (wr.setCell ⟨bb, 5, none⟩ (.bool y)) rb bb ⟨p.src, p.dst, p.kind, p.id, p.hops, y, p.off, p.more⟩ v := by
 refine ⟨(zHs hne).trans h.res, ?_, h.bel.setCell hb _⟩
 rw [setCell_eq_setRow wr bb 5 _ _ _ _ h.box, setRow_heap _ _ _ _ _ _ h.box]
 rfl
theorem HW.set4 {w wr : World} {rb bb : Nat} {p : Pk} {v : Value} (h : HW w wr rb bb p v) (hb : w.heap.size ≤ bb) (hne : rb ≠ bb) (y : Int) : HW w (wr.setCell ⟨bb, 4, none⟩ (.int .i64 y)) rb bb ⟨p.src, p.dst, p.kind, p.id, y, p.whole, p.off, p.more⟩ v := by
 refine ⟨(zHs hne).trans h.res, ?_, h.bel.setCell hb _⟩
 rw [setCell_eq_setRow wr bb 4 _ _ _ _ h.box, setRow_heap _ _ _ _ _ _ h.box]
 rfl
theorem HW.start (w : World) (p : Pk) (v : Value) : HW w ((w.alloc (.cells (pcells zeroPk (.slice none 0 0)) 29)).alloc (.cells (pcells p v) 29)) w.heap.size (w.heap.size + 1) p v :=
 ⟨(zHa (by simp)).trans (heap_new _ _ _ rfl), heap_new _ _ _ (by simp), Joins.below_alloc2 _ _ _⟩
set_option maxHeartbeats 3200000 in
theorem joined_any (g cl : Nat) (xs : List RV) (x0 : RV) (ad : Option Addr) (m c : Nat) (w : World) (hL : RL w g xs) (hm : xs.length ≤ 40) (h0 : xs[0]? = some x0) :
  Calls Tryz.prog 46 #[.slice (some ⟨g, 0, none⟩) xs.length cl, .slice ad m c] w fun e w' => e = .returned ((headL (xs.map RV.key)).val (.slice ad m c)) ∧ Below w.heap.size w w' := by
 have hpos : (0 : Int) < (xs.length : Int) := by
  rcases Nat.lt_or_ge 0 xs.length with h | h
  ·omega
  ·rw [List.getElem?_eq_none h] at h0; cases h0
 have HL : Hid (RL w g xs) := hL
 have H0 : Hid (xs[0]? = some x0) := h0
 have hg := hL.lt
 obtain ⟨c0, c1, c2, c3, c4, c5, c6, c7, c8⟩ := (hL.elem 0 x0 h0).head
 clear hL h0
 go_enter Tryz.func46, Tryz.ntmps46
 go_wp2
 go_loopw [17] (fun i wr => ∃ (k : Nat) (p : Pk), k ≤ xs.length ∧ i = .int .i64 k ∧ Hid (p = headTo x0 (xs.map RV.key) k) ∧ Hid (HW w wr w.heap.size (w.heap.size + 1) p (.slice ad m c))) (fun i _ => xs.length - (intOf i).toNat)
 case atStart => exact ⟨0, headTo x0 (xs.map RV.key) 0, by omega, rfl, rfl, by
   have h := HW.start w ⟨x0.p.src, x0.p.dst, x0.p.kind, x0.p.id, x0.p.hops, x0.p.whole, 0, false⟩ (.slice ad m c)
   have e : headTo x0 (xs.map RV.key) 0 = ⟨x0.p.src, x0.p.dst, x0.p.kind, x0.p.id, x0.p.hops, x0.p.whole, 0, false⟩ := by simp [headTo]
   rw [e]
   exact h⟩
 case round =>
  obtain ⟨k, p, hk, rfl, HP, HW0⟩ := hrel
  have B0 := HW0.out.bel
  have hs0 := B0.size
  have hrl := lt_of_block HW0.out.res
  have hbl := lt_of_block HW0.out.box
  have fx : ∀ o, wr.frozen? ⟨w.heap.size + 1, o, none⟩ = false := fun o => zUf HW0.out.box o
  have fz : ∀ o, wr.frozen? ⟨w.heap.size, o, none⟩ = false := fun o => zUf HW0.out.res o
  clear c0 c1 c2 c3 c4 c5 c6 c7 c8
  obtain ⟨_, k0, k1, k2, k3, k4, k5, k6, k7, k8⟩ := Boxed.of_block HW0.out.box
  by_cases hlt : k < xs.length
  ·obtain ⟨x, hx⟩ := get_of_lt hlt
   have Lr := HL.out.below B0
   have hgr := Lr.lt
   obtain ⟨c0, c1, c2, c3, c4, c5, c6, c7, c8⟩ := Lr.elem k x hx
   have HN : Hid (headTo x0 (xs.map RV.key) (k + 1) = ⟨p.src, p.dst, p.kind, p.id, leastH p.hops x.key, p.whole || x.p.whole, p.off, p.more⟩) := by
    show headTo x0 (xs.map RV.key) (k + 1) = _
    rw [headTo_succ (map_get hx), ← HP.out]
    rfl
   have hi : (k : Int) < (xs.length : Int) := by omega
   have hnb : wr.heap.size ≠ w.heap.size + 1 := by omega
   clear hx Lr
   have e4 : (if x.p.hops < p.hops then x.p.hops else p.hops) = leastH p.hops x.key := rfl
   obtain ⟨s2, d2, n2, i2, h2, w2, o2, m2⟩ := p
   obtain ⟨lh, hlh⟩ : ∃ lh, leastH h2 x.key = lh := ⟨_, rfl⟩
   simp only [hlh] at e4 HN
   cases w2
   all_goals
    go_wp2
    go_roundw
    case rel =>
     refine ⟨k + 1, _, by omega, by go_num, HN.out.symm, ?_⟩
     exact ((HW0.out.set4 (by omega) (by omega) lh).set5 (by omega) (by omega) _).alloc _
    case measure => simp [intOf]; omega
  ·obtain rfl : k = xs.length := by omega
   have HE : Hid (p = headL (xs.map RV.key)) := by
    have h := headTo_all (x0 := x0) (L := xs.map RV.key) (map_get H0.out)
    rw [List.length_map] at h
    show p = _
    rw [HP.out, h]
   obtain ⟨_, z0, z1, z2, z3, z4, z5, z6, z7, z8⟩ := Boxed.of_block HW0.out.res
   have BH : Hid (Below w.heap.size w wr) := B0
   clear B0
   go_wp2
   refine bodyPost_ret (v := .agg #[.int .i64 p.src, .int .i64 p.dst, .int .i64 p.kind, .int .i64 p.id, .int .i64 p.hops, .bool p.whole, .int .i64 p.off, .bool p.more, .slice ad m c]) (by simp [results, Tryz.results46, go_sem, z0, z1, z2, z3, z4, z5, z6, z7, z8]) rfl ⟨?_, ?_⟩
   ·rw [← HE.out]
    rfl
   ·exact below9 BH.out (Nat.le_refl _) _ _ _ _ _ _ _ _ _
end Go.Proofs.YtjbkgmbakjnlhaaGreatDoor
