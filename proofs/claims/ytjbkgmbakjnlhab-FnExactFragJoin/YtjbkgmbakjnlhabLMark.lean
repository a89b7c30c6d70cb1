/- Lists of packets of the laws: marked. -/
import Derived.Test.YtjbkgmbakjnlhabLEq
namespace Go.Proofs.Ytjbkgmbakjnlhab
open Go.RowKit

theorem own_gy {w : World} {gy : Nat} {zs : List Int} (hz : zs.length ≤ 1048576) (h : w.heap[gy]? = some (.cells (cellsOf zs) 5 (0, 0))) : w.ownsRow gy 5 1 (.slice (some ⟨gy, 0, none⟩) zs.length zs.length) zs.length (zs.map (.int .u8)) :=
  own_of_block (Nat.le_refl _) (by unfold maxLen; omega) h

set_option maxRecDepth 100000 in
set_option maxHeartbeats 6400000 in
theorem markFragPacketS_any (gL cl n : Nat) (ys : List RV) (w : World) (hn : ys.length = n) (hM : MB w gL n ys) (hm : n + sumLen ys ≤ 1048576) :
    Calls Try.prog 16 #[.slice (some ⟨gL, 0, none⟩) n cl, .int .i64 1] w fun e w' => ∃ k : Int, e = .returned (.int .i64 k) ∧ 0 ≤ k ∧ Left gL ys w w' := by
  have HM : Hid (MB w gL n ys) := hM
  clear hM
  go_enter Try.func16, Try.ntmps16
  go_wp2
  go_loopw [1, 5] (fun l i wr => ∃ (m : Nat) (kk : Int), m ≤ n ∧ i = .int .i64 m ∧ l = .int .i64 kk ∧ 0 ≤ kk ∧ kk ≤ 1 + 8 * (m : Int) + (sumLen (ys.take m) : Int) ∧ Hid (MB wr gL n ys) ∧ Hid (Left gL ys w wr)) (fun _ i _ => n - (intOf i).toNat)
  case atStart => exact ⟨0, 1, by omega, rfl, rfl, by omega, by simp [sumLen], HM.out, ⟨rfl, rfl, rfl, Nat.le_refl _, fun _ _ _ => rfl⟩⟩
  case round =>
    obtain ⟨m, kk, hmn, rfl, rfl, hk0, hk1, HB, HF⟩ := hrel
    by_cases hlt : m < n
    · obtain ⟨y, hy⟩ := get_of_lt (show m < ys.length by omega)
      have hi : (m : Int) < (n : Int) := by omega
      have hsl := sumLen_mem (List.mem_of_getElem? hy)
      have hst := sumLen_take hy
      have hle : sumLen (ys.take m) ≤ 1048576 := by
        have : sumLen (ys.take m) ≤ sumLen ys := sumLen_le ys m
        omega
      obtain ⟨cur, hc, hcs, r⟩ := HB.out.blk
      obtain ⟨gy, zs, ha, hz, hd⟩ := HB.out.each y (List.mem_of_getElem? hy)
      have r8 := r m y hy
      rw [ha] at r8
      have hgl := lt_of_block hc
      have hgy := lt_of_block hd
      have hne : gy ≠ gL := fun e => by
        rw [e, hc] at hd
        cases hd
      have HY : Hid (ys[m]? = some y) := hy
      have HA : Hid (y.a = some ⟨gy, 0, none⟩) := ha
      have HD : Hid (wr.heap[gy]? = some (.cells (cellsOf zs) 5 (0, 0))) := hd
      have HZ : Hid (zs.length = y.zs.length) := hz
      have HT : Hid (sumLen (ys.take (m + 1)) = sumLen (ys.take m) + y.zs.length) := hst
      have fz : ∀ o, wr.frozen? ⟨gL, o, none⟩ = false := fun o => Joins.unfrozen_of_block hc o
      have ce : ∀ o, wr.cell? ⟨gL, o, none⟩ = cur[o]? := fun o => cell_of_row _ _ _ _ _ _ hc
      obtain ⟨u0, h0⟩ := cells_there (cur := cur) (o := m * 9) (by omega)
      obtain ⟨u1, h1⟩ := cells_there (cur := cur) (o := m * 9 + 1) (by omega)
      obtain ⟨u2, h2⟩ := cells_there (cur := cur) (o := m * 9 + 2) (by omega)
      obtain ⟨u3, h3⟩ := cells_there (cur := cur) (o := m * 9 + 3) (by omega)
      obtain ⟨u4, h4⟩ := cells_there (cur := cur) (o := m * 9 + 4) (by omega)
      obtain ⟨u5, h5⟩ := cells_there (cur := cur) (o := m * 9 + 5) (by omega)
      obtain ⟨u6, h6⟩ := cells_there (cur := cur) (o := m * 9 + 6) (by omega)
      obtain ⟨u7, h7⟩ := cells_there (cur := cur) (o := m * 9 + 7) (by omega)
      have q0 := (ce _).trans h0
      have q1 := (ce _).trans h1
      have q2 := (ce _).trans h2
      have q3 := (ce _).trans h3
      have q4 := (ce _).trans h4
      have q5 := (ce _).trans h5
      have q6 := (ce _).trans h6
      have q7 := (ce _).trans h7
      have q8 := (ce _).trans r8
      obtain ⟨sm, hsm⟩ : ∃ sm, sumLen (ys.take m) = sm := ⟨_, rfl⟩
      rw [hsm] at hk1 hle HT
      have hyl : y.zs.length ≤ 1048576 := by omega
      clear h0 h1 h2 h3 h4 h5 h6 h7 ce hc hcs hd r r8 hy ha hz hst hsm
      go_wp2_with fail
      have M8 := HB.out.put8 (k := m) (.int .i64 kk) (.int .i64 (kk + 1)) (.int .i64 (kk + 1 + 1)) (.int .i64 (kk + 1 + 1 + 1)) (.int .i64 (kk + 1 + 1 + 1 + 1)) (.bool ((kk + 1 + 1 + 1 + 1 + 1) % 3 == 0)) (.int .i64 (kk + 1 + 1 + 1 + 1 + 1 + 1)) (.bool ((kk + 1 + 1 + 1 + 1 + 1 + 1 + 1) % 3 == 0))
      have F8 := HF.out.put8 (k := m) (.int .i64 kk) (.int .i64 (kk + 1)) (.int .i64 (kk + 1 + 1)) (.int .i64 (kk + 1 + 1 + 1)) (.int .i64 (kk + 1 + 1 + 1 + 1)) (.bool ((kk + 1 + 1 + 1 + 1 + 1) % 3 == 0)) (.int .i64 (kk + 1 + 1 + 1 + 1 + 1 + 1)) (.bool ((kk + 1 + 1 + 1 + 1 + 1 + 1 + 1) % 3 == 0))
      have D8 := (far8 wr gL (m * 9) gy hne (.int .i64 kk) (.int .i64 (kk + 1)) (.int .i64 (kk + 1 + 1)) (.int .i64 (kk + 1 + 1 + 1)) (.int .i64 (kk + 1 + 1 + 1 + 1)) (.bool ((kk + 1 + 1 + 1 + 1 + 1) % 3 == 0)) (.int .i64 (kk + 1 + 1 + 1 + 1 + 1 + 1)) (.bool ((kk + 1 + 1 + 1 + 1 + 1 + 1 + 1) % 3 == 0))).trans HD.out
      generalize ((((((((wr.setCell ⟨gL, m * 9, none⟩ (.int .i64 kk)).setCell ⟨gL, m * 9 + 1, none⟩ (.int .i64 (kk + 1))).setCell ⟨gL, m * 9 + 2, none⟩ (.int .i64 (kk + 1 + 1))).setCell ⟨gL, m * 9 + 3, none⟩ (.int .i64 (kk + 1 + 1 + 1))).setCell ⟨gL, m * 9 + 4, none⟩ (.int .i64 (kk + 1 + 1 + 1 + 1))).setCell ⟨gL, m * 9 + 5, none⟩ (.bool ((kk + 1 + 1 + 1 + 1 + 1) % 3 == 0))).setCell ⟨gL, m * 9 + 6, none⟩ (.int .i64 (kk + 1 + 1 + 1 + 1 + 1 + 1))).setCell ⟨gL, m * 9 + 7, none⟩ (.bool ((kk + 1 + 1 + 1 + 1 + 1 + 1 + 1) % 3 == 0))) = w8 at M8 F8 D8 ⊢
      have O8 := own_gy (by rw [HZ.out]; exact hyl) D8
      rw [HZ.out] at O8
      refine (markByteS_any (some ⟨gy, 0, none⟩) y.zs.length y.zs.length gy (kk + 1 + 1 + 1 + 1 + 1 + 1 + 1 + 1) zs _ HZ.out O8 (by omega) (by omega) hyl).mono ?_
      rintro e w9 ⟨rfl, o9, g9⟩
      have M9 : Hid (MB w9 gL n ys) := M8.bytes g9 o9 ⟨zs, HZ.out, D8⟩
      have F9 : Hid (Left gL ys w w9) := F8.bytes g9 (List.mem_of_getElem? HY.out) HA.out
      clear M8 F8 D8 O8 o9 g9 q0 q1 q2 q3 q4 q5 q6 q7 q8 fz
      go_wp2
      go_roundw
      case rel => exact ⟨m + 1, _, by omega, by go_num, rfl, by omega, by rw [HT.out]; omega, M9.out, F9.out⟩
      case measure => simp [intOf]; omega
    · obtain rfl : m = n := by omega
      go_wp2
      go_ret
      exact ⟨kk, rfl, hk0, HF.out⟩
end Go.Proofs.Ytjbkgmbakjnlhab
