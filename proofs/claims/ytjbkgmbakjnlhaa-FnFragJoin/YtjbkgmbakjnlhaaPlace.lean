/- The program's table: placed. -/
import Derived.Test.YtjbkgmbakjnlhaaTable
import Derived.Test.YtjbkgmbakjnlhaaJoinA
import Derived.Test.YtjbkgmbakjnlhaaKept
import Derived.Laws.CopyOwn
namespace Go.Proofs.Ytjbkgmbakjnlhaa
open Go.RowKit

theorem Try.info61 : (Try.prog.info? 61).map (fun i => (i.zero, i.size)) = some (some (.agg (tcells noTab)), 256) := by kernel_rfl

theorem set_tab {w : World} {tb n : Nat} {T : Tab} {z : Int} (h : w.heap[tb]? = some (.cells (tcells T) 61 (0, 0))) (hn : n < T.length) :
    ((w.setCell ⟨tb, n * 2, none⟩ (.int .u8 z)).setCell ⟨tb, n * 2 + 1, none⟩ (.bool true)).heap[tb]? = some (.cells (tcells (T.set n (z, true))) 61 (0, 0)) := by
  rw [setCell_eq_setRow w tb (n * 2) _ _ _ _ h, setCell_eq_setRow _ tb (n * 2 + 1) _ _ _ _ (setRow_heap _ _ _ _ _ _ h), setRow_heap _ _ _ _ _ _ (setRow_heap _ _ _ _ _ _ h), tcells_set T n z true hn]
theorem heap2 (w : World) (b i j k : Nat) (h : k ≠ b) (x y : Value) : ((w.setCell ⟨b, i, none⟩ x).setCell ⟨b, j, none⟩ y).heap[k]? = w.heap[k]? :=
  (Below.heap_setCell _ _ _ _ h).trans (Below.heap_setCell _ _ _ _ h)
/-- the two tables in memory: the answer's and the one that is written -/
structure PW (w wr : World) (T : Tab) : Prop where
  res : wr.heap[w.heap.size]? = some (.cells (tcells noTab) 61 (0, 0))
  tab : wr.heap[w.heap.size + 1]? = some (.cells (tcells T) 61 (0, 0))
  bel : Below w.heap.size w wr
theorem PW.start (w : World) : PW w ((w.alloc (.cells (tcells noTab) 61)).alloc (.cells (tcells noTab) 61)) noTab :=
  ⟨(Below.heap_alloc _ _ _ (by simp)).trans (heap_new _ _ _ rfl), heap_new _ _ _ (by simp), Joins.below_alloc2 _ _ _⟩
theorem PW.alloc {w wr : World} {T : Tab} (h : PW w wr T) (o : Obj) : PW w (wr.alloc o) T :=
  ⟨(Below.heap_alloc _ _ _ (lt_of_block h.res)).trans h.res, (Below.heap_alloc _ _ _ (lt_of_block h.tab)).trans h.tab, h.bel.alloc h.bel.size _⟩
theorem PW.set {w wr : World} {T : Tab} {n : Nat} {z : Int} (h : PW w wr T) (hn : n < T.length) : PW w ((wr.setCell ⟨w.heap.size + 1, n * 2, none⟩ (.int .u8 z)).setCell ⟨w.heap.size + 1, n * 2 + 1, none⟩ (.bool true)) (T.set n (z, true)) :=
  ⟨(heap2 _ _ _ _ _ (by omega) _ _).trans h.res, set_tab h.tab hn, (h.bel.setCell (by simp) _).setCell (by simp) _⟩

set_option maxRecDepth 100000 in
set_option maxHeartbeats 3200000 in
theorem placed_any (g cl : Nat) (xs : List RV) (w : World) (hL : RL w g xs) (hm : xs.length ≤ 40) (ho : ∀ x ∈ xs, 0 ≤ x.p.off ∧ x.p.off + (x.zs.length : Int) ≤ 128) :
    Calls Try.prog 41 #[.slice (some ⟨g, 0, none⟩) xs.length cl] w fun e w' => ∃ T, e = .returned (.agg (tcells T)) ∧ Says (xs.map RV.key) T ∧ Below w.heap.size w w' := by
  obtain ⟨hz, hsz⟩ := zero_of_info Try.info61
  have HS : Hid ((Try.prog.info? 61).map (·.size) = some 256) := hsz
  have HL : Hid (RL w g xs) := hL
  have HO : Hid (∀ x ∈ xs, 0 ≤ x.p.off ∧ x.p.off + (x.zs.length : Int) ≤ 128) := ho
  clear hL ho hsz
  go_enter Try.func41, Try.ntmps41
  go_wp2
  go_loopw [10] (fun i wr => ∃ (k : Nat) (T : Tab), k ≤ xs.length ∧ i = .int .i64 k ∧ Hid (Says ((xs.map RV.key).take k) T) ∧ Hid (PW w wr T)) (fun i _ => xs.length - (intOf i).toNat)
  case atStart => exact ⟨0, noTab, by omega, rfl, says_no, PW.start w⟩
  case round =>
    obtain ⟨k, T, hk, rfl, HT, HP⟩ := hrel
    obtain ⟨ws, rfl⟩ : ∃ ws, ws = wr := ⟨_, rfl⟩
    have B0 : Hid (Below w.heap.size w ws) := HP.out.bel
    have hs0 := B0.out.size
    by_cases hlt : k < xs.length
    · obtain ⟨x, hx⟩ := get_of_lt hlt
      have HX : Hid (xs[k]? = some x) := hx
      have Lr := HL.out.below B0.out
      have hxm := List.mem_of_getElem? hx
      have HR : Hid (ROk w x) := HL.out.each x hxm
      have hgr := Lr.lt
      have Hk := Lr.elem k x hx
      have hi : (k : Int) < (xs.length : Int) := by omega
      obtain ⟨o0, o1⟩ := HO.out x hxm
      clear hx Lr hxm
      obtain ⟨c0, c1, c2, c3, c4, c5, c6, c7, c8⟩ := Hk
      go_wp2
      go_loopw [17] (fun j wq => ∃ (m : Nat) (T' : Tab), m ≤ x.zs.length ∧ j = .int .i64 m ∧ Hid (Says (upTo (xs.map RV.key) k m x.key) T') ∧ Hid (PW w wq T') ∧ Hid (Boxed wq ws.heap.size x.p (.slice x.a x.zs.length x.c))) (fun j _ => x.zs.length - (intOf j).toNat)
      case atStart => exact ⟨0, T, by omega, rfl, says_begin HT.out, HP.out.alloc _, Boxed.new _ _ _ _⟩
      case round =>
        obtain ⟨m, T', hmk, rfl, HS', HP', HX'⟩ := hrel
        by_cases hmlt : m < x.zs.length
        · obtain ⟨-, h0 | ⟨ba, oa, ha, hba, hca⟩⟩ := HR.out.rd
          · omega
          have hw : ws.heap.size < wr.heap.size := HX'.out.lt
          have cz : wr.cell? ⟨ba, oa + m, none⟩ = some (.int .u8 (x.zs.getD m 0)) := (HP'.out.bel.cell (p := ⟨ba, oa + m, none⟩) hba).trans (hca m hmlt)
          obtain ⟨n, hn⟩ : ∃ n : Nat, x.p.off + (m : Int) = (n : Int) := ⟨(x.p.off + m).toNat, by omega⟩
          have n0 : (0 : Int) ≤ (n : Int) := by omega
          have n1 : (n : Int) < 128 := by omega
          have hml : (m : Int) < (x.zs.length : Int) := by omega
          obtain ⟨e, he⟩ : ∃ e, T'[n]? = some e := get_of_lt (by rw [HS'.out.len]; omega)
          obtain ⟨t0, t1⟩ := tcells_at he
          have d0 : wr.cell? ⟨w.heap.size + 1, n * 2, none⟩ = some (.int .u8 e.1) := by rw [cell_of_row _ _ _ _ _ _ HP'.out.tab]; exact t0
          have d1 : wr.cell? ⟨w.heap.size + 1, n * 2 + 1, none⟩ = some (.bool e.2) := by rw [cell_of_row _ _ _ _ _ _ HP'.out.tab]; exact t1
          have fz : ∀ o, wr.frozen? ⟨w.heap.size + 1, o, none⟩ = false := fun o => Joins.unfrozen_of_block HP'.out.tab o
          have ltq := lt_of_block HP'.out.tab
          obtain ⟨lx, k0, k1, k2, k3, k4, k5, k6, k7, k8⟩ := id HX'.out
          rw [ha] at k8
          have hoff : x.p.off ≤ 128 := by omega
          clear c0 c1 c2 c3 c4 c5 c6 c7 c8 t0 t1 he hca
          have hne : ws.heap.size ≠ w.heap.size + 1 := by have := lt_of_block HP.out.tab; omega
          have hxz : x.key.2[m]? = some (x.zs.getD m 0) := by simp [RV.key, List.getD, List.getElem?_eq_getElem hmlt]
          have HZ : Hid (x.zs.getD m 0 = x.zs[m]) := by simp [Hid, List.getD, List.getElem?_eq_getElem hmlt]
          have HXZ : Hid (x.key.2[m]? = some (x.zs.getD m 0)) := hxz
          clear hxz
          go_wp2
          go_roundw
          case rel =>
            rw [← HZ.out]
            exact ⟨m + 1, T'.set n (x.zs.getD m 0, true), by omega, by go_num, says_step HS'.out hmlt HXZ.out hn (by omega), HP'.out.set (by rw [HS'.out.len]; omega), HX'.out.kept (by simp) (heap2 _ _ _ _ _ hne _ _)⟩
          case measure => simp [intOf]; omega
        · have em : m = x.zs.length := by omega
          subst em
          clear c0 c1 c2 c3 c4 c5 c6 c7 c8
          go_wp2
          go_roundw
          case rel => exact ⟨k + 1, T', by omega, by go_num, says_end (map_get HX.out) HS'.out, HP'.out⟩
          case measure => simp [intOf]; omega
    · have ek : k = xs.length := by omega
      subst ek
      have ln := HT.out.len
      have hi1 : (Try.prog.info? 61).map (·.size) = some (tcells T).size := by rw [tcells_size, ln]; exact HS.out
      have HI : Hid ((Try.prog.info? 61).map (·.size) = some (tcells T).size) := hi1
      have HTT : Hid (Says (xs.map RV.key) T) := by
        have h := HT.out
        rw [List.take_of_length_le (by simp)] at h
        exact h
      have htab := HP.out.tab
      have hres := HP.out.res
      clear hi1
      go_wp2_with (first
        | (refine wpList_load_row rfl 61 _ rfl (w.heap.size + 1) rfl 61 (tcells T) (0, 0) _ htab Try.underlying61 rfl HI.out ?_)
        | (refine wpList_store_row rfl 61 _ _ rfl w.heap.size (tcells T) rfl rfl 61 (tcells noTab) hres HI.out (by rw [tcells_size, tcells_size, ln]; rfl) (tcells_one T) ?_))
      exact bodyPost_ret (v := .agg (tcells T)) (results_cell_row rfl _ _ w.heap.size 61 (tcells T) (0, 0) _ rfl (setRow_heap _ _ _ _ _ _ hres) Try.underlying61 rfl HI.out) rfl ⟨T, rfl, HTT.out, below_setRow B0.out (Nat.le_refl _) _⟩
end Go.Proofs.Ytjbkgmbakjnlhaa
