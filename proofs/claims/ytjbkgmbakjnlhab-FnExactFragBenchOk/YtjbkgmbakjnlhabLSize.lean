/- Lists of packets of the laws: their size, their copy. -/
import Derived.Test.YtjbkgmbakjnlhabLArg
import Derived.Test.YtjbkgmbakjnlhabKept
namespace Go.Proofs.Ytjbkgmbakjnlhab
open Go.RowKit

def sumLen (xs : List RV) : Nat := (xs.map fun x => x.zs.length).sum
theorem sumLen_take {xs : List RV} {k : Nat} {x : RV} (hx : xs[k]? = some x) : sumLen (xs.take (k + 1)) = sumLen (xs.take k) + x.zs.length := by
  unfold sumLen
  rw [List.take_add_one, hx]
  simp
theorem sumLen_mem {xs : List RV} {x : RV} (hx : x ∈ xs) : x.zs.length ≤ sumLen xs := by
  induction xs with
  | nil => cases hx
  | cons y r ih =>
    unfold sumLen
    simp only [List.map_cons, List.sum_cons]
    rcases List.mem_cons.1 hx with rfl | h
    · omega
    · have := ih h
      unfold sumLen at this
      omega

theorem sumLen_le (xs : List RV) (k : Nat) : sumLen (xs.take k) ≤ sumLen xs := by
  induction xs generalizing k with
  | nil => simp [sumLen]
  | cons y r ih =>
    match k with
    | 0 => simp [sumLen]
    | k + 1 =>
      have := ih k
      unfold sumLen at this ⊢
      simp only [List.take_succ_cons, List.map_cons, List.sum_cons]
      omega

set_option maxRecDepth 100000 in
set_option maxHeartbeats 3200000 in
theorem szFragPacketS_any (a : Option Addr) (cl : Nat) (xs : List RV) (w : World) (hL : RLo w a xs) (hm : xs.length ≤ 9223372036854775807) :
    Calls Try.prog 11 #[.slice a xs.length cl, .int .i64 1048576] w fun e w' => ∃ r : Int, e = .returned (.int .i64 r) ∧ (r = -1 ∨ (0 ≤ r ∧ xs.length + sumLen xs ≤ 1048576)) ∧ Below w.heap.size w w' := by
  by_cases hbig : 1048576 < xs.length
  · have hbig' : (1048576 : Int) - (xs.length : Int) < 0 := by omega
    clear hL
    go_enter Try.func11, Try.ntmps11
    go_wp2
    go_ret
    exact ⟨-1, rfl, Or.inl rfl, Below.refl _ _⟩
  have hbig' : ¬ ((1048576 : Int) - (xs.length : Int) < 0) := by omega
  have HL : Hid (RLo w a xs) := hL
  clear hL
  go_enter Try.func11, Try.ntmps11
  go_wp2
  go_loopw [1, 5] (fun l i wr => ∃ k : Nat, k ≤ xs.length ∧ i = .int .i64 k ∧ xs.length + sumLen (xs.take k) ≤ 1048576 ∧ l = .int .i64 (1048576 - (xs.length : Int) - (sumLen (xs.take k) : Int)) ∧ Hid (Below w.heap.size w wr)) (fun _ i _ => xs.length - (intOf i).toNat)
  case atStart => exact ⟨0, by omega, rfl, by simp [sumLen]; omega, by simp [sumLen], Below.refl _ _⟩
  case round =>
    obtain ⟨k, hk, rfl, hsum, rfl, HB⟩ := hrel
    have hsz := HB.out.size
    by_cases hlt : k < xs.length
    · obtain ⟨x, hx⟩ := get_of_lt hlt
      have hi : (k : Int) < (xs.length : Int) := by omega
      have Lr := HL.out.below HB.out
      rcases Lr.at_ with h0 | ⟨g, off, rfl, hgr, he⟩
      · rw [h0] at hlt; simp at hlt
      have Hk := he k x hx
      have hp := (Lr.each x (List.mem_of_getElem? hx)).len
      have HS : Hid (sumLen (xs.take (k + 1)) = sumLen (xs.take k) + x.zs.length) := sumLen_take hx
      obtain ⟨sm, hsm⟩ : ∃ sm, sumLen (xs.take k) = sm := ⟨_, rfl⟩
      rw [hsm] at hsum HS ⊢
      clear hx Lr he hsm
      obtain ⟨c0, c1, c2, c3, c4, c5, c6, c7, c8⟩ := Hk
      have KZ : Hid (∀ W : World, Calls Try.prog 6 #[.agg #[.int .i64 x.p.src, .int .i64 x.p.dst, .int .i64 x.p.kind, .int .i64 x.p.id, .int .i64 x.p.hops, .bool x.p.whole, .int .i64 x.p.off, .bool x.p.more, .slice x.a x.zs.length x.c], .int .i64 (1048576 - (xs.length : Int) - (sm : Int))] W fun e w' => e = .returned (.int .i64 (if (1048576 - (xs.length : Int) - (sm : Int)) < (x.zs.length : Int) then -1 else (1048576 - (xs.length : Int) - (sm : Int)) - (x.zs.length : Int))) ∧ Below W.heap.size W w') := fun W => szFragPacket_any x.p x.a x.zs.length x.c _ W (by omega) (by omega) (by omega)
      by_cases hz : (1048576 - (xs.length : Int) - (sm : Int)) < (x.zs.length : Int)
      · rw [if_pos hz] at KZ
        clear hz
        go_wp2_with (go_at_call 6; (with_reducible refine (KZ.out _).mono ?_); rintro e w1 ⟨rfl, b1⟩)
        go_ret
        exact ⟨-1, rfl, Or.inl rfl, HB.out.trans (b1.mono hsz)⟩
      · rw [if_neg hz] at KZ
        have hz' : ¬ (1048576 - (xs.length : Int) - (sm : Int) - (x.zs.length : Int) < 0) := by omega
        go_wp2_with (go_at_call 6; (with_reducible refine (KZ.out _).mono ?_); rintro e w1 ⟨rfl, b1⟩)
        go_roundw
        case rel => exact ⟨k + 1, by omega, by go_num, by rw [HS.out]; omega, by rw [HS.out]; go_num, HB.out.trans (b1.mono hsz)⟩
        case measure => simp [intOf]; omega
    · obtain rfl : k = xs.length := by omega
      rw [List.take_length] at hsum
      go_wp2
      go_ret
      exact ⟨_, rfl, Or.inr ⟨by rw [List.take_length]; omega, hsum⟩, HB.out⟩
end Go.Proofs.Ytjbkgmbakjnlhab
