/- The size of a bench of the laws. -/
import Derived.Test.YtjbkgmbakjnlhabBArg
import Derived.Test.YtjbkgmbakjnlhabLSize
namespace Go.Proofs.Ytjbkgmbakjnlhab
open Go.RowKit

set_option maxRecDepth 100000 in
set_option maxHeartbeats 3200000 in
theorem szPackets_any (a : Option Addr) (cl : Nat) (xs : List RV) (L : Int) (w : World) (hL : RLo w a xs) (hm : xs.length ≤ 9223372036854775807) (h0 : 0 ≤ L) (h1 : L ≤ 1048576) :
    Calls Try.prog 11 #[.slice a xs.length cl, .int .i64 L] w fun e w' => ∃ r : Int, e = .returned (.int .i64 r) ∧ (r = -1 ∨ (0 ≤ r ∧ r = L - (xs.length : Int) - (sumLen xs : Int))) ∧ Below w.heap.size w w' := by
  by_cases hbig : L < (xs.length : Int)
  · have hbig' : L - (xs.length : Int) < 0 := by omega
    clear hL
    go_enter Try.func11, Try.ntmps11
    go_wp2
    go_ret
    exact ⟨-1, rfl, Or.inl rfl, Below.refl _ _⟩
  have hbig' : ¬ (L - (xs.length : Int) < 0) := by omega
  have HL : Hid (RLo w a xs) := hL
  clear hL
  go_enter Try.func11, Try.ntmps11
  go_wp2
  go_loopw [1, 5] (fun l i wr => ∃ k : Nat, k ≤ xs.length ∧ i = .int .i64 k ∧ (xs.length : Int) + (sumLen (xs.take k) : Int) ≤ L ∧ l = .int .i64 (L - (xs.length : Int) - (sumLen (xs.take k) : Int)) ∧ Hid (Below w.heap.size w wr)) (fun _ i _ => xs.length - (intOf i).toNat)
  case atStart => exact ⟨0, by omega, rfl, by simp [sumLen]; omega, by simp [sumLen], Below.refl _ _⟩
  case round =>
    obtain ⟨k, hk, rfl, hsum, rfl, HB⟩ := hrel
    have hsz := HB.out.size
    by_cases hlt : k < xs.length
    · obtain ⟨x, hx⟩ := get_of_lt hlt
      have hi : (k : Int) < (xs.length : Int) := by omega
      have Lr := HL.out.below HB.out
      rcases Lr.at_ with h0 | ⟨g, off, rfl, hgr, he⟩
      · rw [h0] at hlt; simp at hlt
      have Hk := he k x hx
      have hp := (Lr.each x (List.mem_of_getElem? hx)).len
      have HS : Hid (sumLen (xs.take (k + 1)) = sumLen (xs.take k) + x.zs.length) := sumLen_take hx
      obtain ⟨sm, hsm⟩ : ∃ sm, sumLen (xs.take k) = sm := ⟨_, rfl⟩
      rw [hsm] at hsum HS ⊢
      clear hx Lr he hsm
      obtain ⟨c0, c1, c2, c3, c4, c5, c6, c7, c8⟩ := Hk
      have KZ : Hid (∀ W : World, Calls Try.prog 6 #[.agg #[.int .i64 x.p.src, .int .i64 x.p.dst, .int .i64 x.p.kind, .int .i64 x.p.id, .int .i64 x.p.hops, .bool x.p.whole, .int .i64 x.p.off, .bool x.p.more, .slice x.a x.zs.length x.c], .int .i64 (L - (xs.length : Int) - (sm : Int))] W fun e w' => e = .returned (.int .i64 (if (L - (xs.length : Int) - (sm : Int)) < (x.zs.length : Int) then -1 else (L - (xs.length : Int) - (sm : Int)) - (x.zs.length : Int))) ∧ Below W.heap.size W w') := fun W => szFragPacket_any x.p x.a x.zs.length x.c _ W (by omega) (by omega) (by omega)
      by_cases hz : (L - (xs.length : Int) - (sm : Int)) < (x.zs.length : Int)
      · rw [if_pos hz] at KZ
        clear hz
        go_wp2_with (go_at_call 6; (with_reducible refine (KZ.out _).mono ?_); rintro e w1 ⟨rfl, b1⟩)
        go_ret
        exact ⟨-1, rfl, Or.inl rfl, HB.out.trans (b1.mono hsz)⟩
      · rw [if_neg hz] at KZ
        have hz' : ¬ (L - (xs.length : Int) - (sm : Int) - (x.zs.length : Int) < 0) := by omega
        go_wp2_with (go_at_call 6; (with_reducible refine (KZ.out _).mono ?_); rintro e w1 ⟨rfl, b1⟩)
        go_roundw
        case rel => exact ⟨k + 1, by omega, by go_num, by rw [HS.out]; omega, by rw [HS.out]; go_num, HB.out.trans (b1.mono hsz)⟩
        case measure => simp [intOf]; omega
    · obtain rfl : k = xs.length := by omega
      rw [List.take_length] at hsum
      go_wp2
      go_ret
      exact ⟨_, rfl, Or.inr ⟨by rw [List.take_length]; omega, by rw [List.take_length]⟩, HB.out⟩

/-- what a slot weighs -/
def SV.sz (s : SV) : Nat := s.xs.length + sumLen s.xs
def sumSz (xs : List SV) : Nat := (xs.map SV.sz).sum
theorem sumSz_take {xs : List SV} {k : Nat} {x : SV} (hx : xs[k]? = some x) : sumSz (xs.take (k + 1)) = sumSz (xs.take k) + x.sz := by
  unfold sumSz
  rw [List.take_add_one, hx]
  simp
theorem sumSz_mem {xs : List SV} {x : SV} (hx : x ∈ xs) : x.sz ≤ sumSz xs := by
  induction xs with
  | nil => cases hx
  | cons y r ih =>
    unfold sumSz
    simp only [List.map_cons, List.sum_cons]
    rcases List.mem_cons.1 hx with rfl | h
    · omega
    · have := ih h
      unfold sumSz at this
      omega

set_option maxRecDepth 100000 in
set_option maxHeartbeats 3200000 in
theorem szFragSlot_any (s : SV) (L : Int) (w : World) (hL : SArg w s) (h0 : 0 ≤ L) (h1 : L ≤ 1048576) :
    Calls Try.prog 61 #[.agg #[.slice s.a s.xs.length s.c, .int .i64 s.since, .bool s.bad], .int .i64 L] w fun e w' => ∃ r : Int, e = .returned (.int .i64 r) ∧ (r = -1 ∨ (0 ≤ r ∧ r = L - (s.sz : Int))) ∧ Below w.heap.size w w' := by
  have KP : Hid (∀ W : World, Below w.heap.size w W → Calls Try.prog 11 #[.slice s.a s.xs.length s.c, .int .i64 L] W fun e w' => ∃ r : Int, e = .returned (.int .i64 r) ∧ (r = -1 ∨ (0 ≤ r ∧ r = L - (s.xs.length : Int) - (sumLen s.xs : Int))) ∧ Below W.heap.size W w') := fun W h => szPackets_any s.a s.c s.xs L W (hL.rl.below h) hL.len h0 h1
  clear hL
  go_enter Try.func61, Try.ntmps61
  go_wp2_with fail
  refine (KP.out _ (Joins.below_alloc1 _ _)).mono ?_
  rintro e w1 ⟨r, rfl, hr, b1⟩
  have B1 : Hid (Below w.heap.size w w1) := (Joins.below_alloc1 _ _).trans (b1.mono (by simp))
  clear b1
  by_cases hn : r < 0
  · go_wp2
    go_ret
    exact ⟨-1, rfl, Or.inl rfl, B1.out⟩
  · go_wp2
    go_ret
    exact ⟨r, rfl, Or.inr ⟨by omega, by unfold SV.sz; omega⟩, B1.out⟩

set_option maxRecDepth 100000 in
set_option maxHeartbeats 3200000 in
theorem szFragSlotS_any (a : Option Addr) (cl : Nat) (xs : List SV) (L : Int) (w : World) (hL : SLo w a xs) (hm : xs.length ≤ 9223372036854775807) (h0 : 0 ≤ L) (h1 : L ≤ 1048576) :
    Calls Try.prog 44 #[.slice a xs.length cl, .int .i64 L] w fun e w' => ∃ r : Int, e = .returned (.int .i64 r) ∧ (r = -1 ∨ (0 ≤ r ∧ r = L - (xs.length : Int) - (sumSz xs : Int))) ∧ Below w.heap.size w w' := by
  by_cases hbig : L < (xs.length : Int)
  · have hbig' : L - (xs.length : Int) < 0 := by omega
    clear hL
    go_enter Try.func44, Try.ntmps44
    go_wp2
    go_ret
    exact ⟨-1, rfl, Or.inl rfl, Below.refl _ _⟩
  have hbig' : ¬ (L - (xs.length : Int) < 0) := by omega
  have HL : Hid (SLo w a xs) := hL
  clear hL
  go_enter Try.func44, Try.ntmps44
  go_wp2
  go_loopw [1, 5] (fun l i wr => ∃ k : Nat, k ≤ xs.length ∧ i = .int .i64 k ∧ (xs.length : Int) + (sumSz (xs.take k) : Int) ≤ L ∧ l = .int .i64 (L - (xs.length : Int) - (sumSz (xs.take k) : Int)) ∧ Hid (Below w.heap.size w wr)) (fun _ i _ => xs.length - (intOf i).toNat)
  case atStart => exact ⟨0, by omega, rfl, by simp [sumSz]; omega, by simp [sumSz], Below.refl _ _⟩
  case round =>
    obtain ⟨k, hk, rfl, hsum, rfl, HB⟩ := hrel
    have hsz := HB.out.size
    by_cases hlt : k < xs.length
    · obtain ⟨x, hx⟩ := get_of_lt hlt
      have hi : (k : Int) < (xs.length : Int) := by omega
      have Lr := HL.out.below HB.out
      rcases Lr.at_ with h0 | ⟨g, off, rfl, hgr, he⟩
      · rw [h0] at hlt; simp at hlt
      obtain ⟨c0, c1, c2⟩ := he k x hx
      have HX : Hid (SArg wr x) := Lr.each x (List.mem_of_getElem? hx)
      have HS : Hid (sumSz (xs.take (k + 1)) = sumSz (xs.take k) + x.sz) := sumSz_take hx
      obtain ⟨sm, hsm⟩ : ∃ sm, sumSz (xs.take k) = sm := ⟨_, rfl⟩
      rw [hsm] at hsum HS ⊢
      clear hx Lr he hsm
      have KZ : Hid (∀ W : World, Below wr.heap.size wr W → Calls Try.prog 61 #[.agg #[.slice x.a x.xs.length x.c, .int .i64 x.since, .bool x.bad], .int .i64 (L - (xs.length : Int) - (sm : Int))] W fun e w' => ∃ r : Int, e = .returned (.int .i64 r) ∧ (r = -1 ∨ (0 ≤ r ∧ r = L - (xs.length : Int) - (sm : Int) - (x.sz : Int))) ∧ Below W.heap.size W w') := fun W h => szFragSlot_any x _ W (HX.out.below h) (by omega) (by omega)
      go_wp2_with fail
      refine (KZ.out _ (Below.refl _ _)).mono ?_
      rintro e w1 ⟨r, rfl, hr, b1⟩
      have HB1 : Hid (Below w.heap.size w w1) := HB.out.trans (b1.mono hsz)
      clear b1
      by_cases hn : r < 0
      · go_wp2
        go_ret
        exact ⟨-1, rfl, Or.inl rfl, HB1.out⟩
      · have hr' : r = L - (xs.length : Int) - (sm : Int) - (x.sz : Int) := by omega
        clear hr
        have HR : Hid (r = L - (xs.length : Int) - (sm : Int) - (x.sz : Int)) := hr'
        clear hr'
        go_wp2
        go_roundw
        case rel => exact ⟨k + 1, by omega, by go_num, by have := HR.out; rw [HS.out]; omega, by have := HR.out; rw [HS.out]; rw [this]; go_num, HB1.out⟩
        case measure => simp [intOf]; omega
    · obtain rfl : k = xs.length := by omega
      rw [List.take_length] at hsum
      go_wp2
      go_ret
      exact ⟨_, rfl, Or.inr ⟨by rw [List.take_length]; omega, by rw [List.take_length]⟩, HB.out⟩

set_option maxRecDepth 100000 in
theorem szFragBench_any (now : Int) (a : Option Addr) (cl : Nat) (xs : List SV) (w : World) (hL : SLo w a xs) (hm : xs.length ≤ 9223372036854775807) :
    Calls Try.prog 19 #[.agg #[.int .i64 now, .slice a xs.length cl], .int .i64 1048576] w fun e w' => ∃ r : Int, e = .returned (.int .i64 r) ∧ (r = -1 ∨ (0 ≤ r ∧ xs.length + sumSz xs ≤ 1048576 ∧ r = 1048576 - (xs.length : Int) - (sumSz xs : Int))) ∧ Below w.heap.size w w' := by
  have KP : Hid (∀ W : World, Below w.heap.size w W → Calls Try.prog 44 #[.slice a xs.length cl, .int .i64 1048576] W fun e w' => ∃ r : Int, e = .returned (.int .i64 r) ∧ (r = -1 ∨ (0 ≤ r ∧ r = 1048576 - (xs.length : Int) - (sumSz xs : Int))) ∧ Below W.heap.size W w') := fun W h => szFragSlotS_any a cl xs 1048576 W (hL.below h) hm (by omega) (by omega)
  clear hL
  go_enter Try.func19, Try.ntmps19
  go_wp2_with fail
  refine (KP.out _ (Joins.below_alloc1 _ _)).mono ?_
  rintro e w1 ⟨r, rfl, hr, b1⟩
  have B1 : Hid (Below w.heap.size w w1) := (Joins.below_alloc1 _ _).trans (b1.mono (by simp))
  clear b1
  by_cases hn : r < 0
  · go_wp2
    go_ret
    exact ⟨-1, rfl, Or.inl rfl, B1.out⟩
  · go_wp2
    go_ret
    exact ⟨r, rfl, Or.inr ⟨by omega, by omega, by omega⟩, B1.out⟩
end Go.Proofs.Ytjbkgmbakjnlhab
