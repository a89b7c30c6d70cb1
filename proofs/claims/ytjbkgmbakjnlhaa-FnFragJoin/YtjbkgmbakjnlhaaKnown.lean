/- The program's knownUpTo and upTo. -/
import Derived.Test.YtjbkgmbakjnlhaaPlace
namespace Go.Proofs.Ytjbkgmbakjnlhaa
open Go.RowKit

theorem knownB_succ {T : Tab} {k : Nat} {e : Int × Bool} (he : T[k]? = some e) : knownB T (k + 1) = (knownB T k && e.2) := by
  unfold knownB
  rw [List.take_add_one, he, List.all_append]
  simp
theorem knownB_no {T : Tab} {k n : Nat} {e : Int × Bool} (he : T[k]? = some e) (h : e.2 = false) (hk : k < n) : knownB T n = false := by
  unfold knownB
  rw [← Bool.not_eq_true, List.all_eq_true]
  intro hall
  have := hall e (List.mem_of_getElem? (i := k) (by rw [List.getElem?_take, if_pos hk]; exact he))
  rw [h] at this
  cases this

set_option maxRecDepth 100000 in
set_option maxHeartbeats 3200000 in
theorem knownUpTo_any (T : Tab) (n : Nat) (w : World) (hT : T.length = 128) (hn : n ≤ 128) :
    Calls Try.prog 42 #[.agg (tcells T), .int .i64 n] w fun e w' => e = .returned (.bool (knownB T n)) ∧ Below w.heap.size w w' := by
  have HH : Hid (∀ W : World, Below (w.heap.size + 1) (w.alloc (.cells (tcells T) 61)) W → W.heap[w.heap.size]? = some (.cells (tcells T) 61 (0, 0))) := fun W h => (h.block w.heap.size (by omega)).trans (heap_new _ _ _ rfl)
  have n0 : (0 : Int) ≤ (n : Int) := by omega
  have n1 : (n : Int) ≤ 128 := by omega
  go_enter Try.func42, Try.ntmps42
  go_wp2
  go_loopw [10] (fun i wr => ∃ k : Nat, k ≤ n ∧ i = .int .i64 k ∧ Hid (knownB T k = true) ∧ Hid (Below (w.heap.size + 1) (w.alloc (.cells (tcells T) 61)) wr)) (fun i _ => n - (intOf i).toNat)
  case atStart => exact ⟨0, by omega, rfl, (show knownB T 0 = true by simp [knownB]), Below.refl _ _⟩
  case round =>
    obtain ⟨k, hk, rfl, HK, HB⟩ := hrel
    have hsz : w.heap.size + 1 ≤ wr.heap.size := Nat.le_trans (by simp) HB.out.size
    have B0 : Hid (Below w.heap.size w wr) := (Joins.below_alloc1 _ _).trans (HB.out.mono (by omega))
    by_cases hlt : k < n
    · obtain ⟨e, he⟩ := get_of_lt (show k < T.length by omega)
      obtain ⟨t0, t1⟩ := tcells_at he
      have d0 : wr.cell? ⟨w.heap.size, k * 2, none⟩ = some (.int .u8 e.1) := by rw [cell_of_row _ _ _ _ _ _ (HH.out wr HB.out)]; exact t0
      have d1 : wr.cell? ⟨w.heap.size, k * 2 + 1, none⟩ = some (.bool e.2) := by rw [cell_of_row _ _ _ _ _ _ (HH.out wr HB.out)]; exact t1
      have HE : Hid (T[k]? = some e) := he
      have hi : (k : Int) < (n : Int) := by omega
      have hlt0 : w.heap.size < wr.heap.size := by omega
      clear he t0 t1
      obtain ⟨z, bl⟩ := e
      cases bl
      · go_wp2
        go_ret
        exact ⟨ret_bool (knownB_no HE.out rfl hlt).symm, B0.out.alloc (by omega) _⟩
      · go_wp2
        go_roundw
        case rel => exact ⟨k + 1, by omega, by go_num, (show knownB T (k + 1) = true by rw [knownB_succ HE.out, HK.out]; rfl), HB.out.alloc hsz _⟩
        case measure => simp [intOf]; omega
    · go_wp2
      go_ret
      obtain rfl : k = n := by omega
      exact ⟨ret_bool HK.out.symm, B0.out⟩

set_option maxRecDepth 100000 in
set_option maxHeartbeats 3200000 in
theorem upTo_any (T : Tab) (n : Nat) (w : World) (hT : T.length = 128) (hn : n ≤ 128) :
    Calls Try.prog 44 #[.agg (tcells T), .int .i64 n] w fun e w' => ∃ gd, e = .returned (.slice (some ⟨gd, 0, none⟩) n n) ∧ w.heap.size ≤ gd ∧ w'.heap[gd]? = some (.cells (cellsOf (valsT T n)) 5 (0, 0)) ∧ Below w.heap.size w w' := by
  have lv : (valsT T n).length = n := by simp [valsT]; omega
  have hmk := run_make_row' (P := Try.prog) 22 5 (.int .u8 0) 1 Try.underlying22 Try.info5 rfl .i64 .i64 n (by omega) (by omega)
  have e0 : madeCells #[.int .u8 0] n = cellsTo (valsT T n) 0 := by rw [cellsTo_zero, lv]
  rw [e0] at hmk
  clear e0
  have n0 : (0 : Int) ≤ (n : Int) := by omega
  have HH : Hid ((w.alloc (.cells (tcells T) 61)).heap[w.heap.size]? = some (.cells (tcells T) 61 (0, 0))) := heap_new _ _ _ rfl
  go_enter Try.func44, Try.ntmps44
  go_wp2
  go_loopw [11] (fun i wr => ∃ k : Nat, k ≤ n ∧ i = .int .i64 k ∧ wr = (w.alloc (.cells (tcells T) 61)).alloc (.cells (cellsTo (valsT T n) k) 5)) (fun i _ => n - (intOf i).toNat)
  case atStart => exact ⟨0, by omega, rfl, rfl⟩
  case round =>
    obtain ⟨k, hk, rfl, rfl⟩ := hrel
    by_cases hlt : k < n
    · obtain ⟨e, he⟩ := get_of_lt (show k < T.length by omega)
      obtain ⟨t0, t1⟩ := tcells_at he
      have d0 : ((w.alloc (.cells (tcells T) 61)).alloc (.cells (cellsTo (valsT T n) k) 5)).cell? ⟨w.heap.size, k * 2, none⟩ = some (.int .u8 e.1) := by
        rw [cell_of_row _ _ _ _ _ _ ((Below.heap_alloc _ _ _ (by simp)).trans HH.out)]; exact t0
      have hi : (k : Int) < (n : Int) := by omega
      have hi2 : (k : Int) < 128 := by omega
      have hck := cellsTo_at (valsT T n) k (by omega)
      have hv : (valsT T n).getD k 0 = e.1 := by
        simp [valsT, List.getD, hlt, he]
      have h := cellsTo_succ (valsT T n) k (by omega)
      rw [hv] at h
      have HS : Hid ((cellsTo (valsT T n) k).setIfInBounds k (.int .u8 e.1) = cellsTo (valsT T n) (k + 1)) := h
      clear h hv he t0 t1 hmk
      go_wp2
      go_roundw
      case rel => exact ⟨k + 1, by omega, by go_num, by rw [HS.out]⟩
      case measure => simp [intOf]; omega
    · go_wp2
      go_ret
      obtain rfl : k = n := by omega
      refine ⟨w.heap.size + 1, rfl, by omega, ?_, Joins.below_alloc2 _ _ _⟩
      rw [← cellsTo_all, lv]
      exact heap_new _ _ _ (by simp)
end Go.Proofs.Ytjbkgmbakjnlhaa
