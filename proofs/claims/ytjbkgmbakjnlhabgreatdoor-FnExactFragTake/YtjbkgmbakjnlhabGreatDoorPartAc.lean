/- What is kept in memory where one block alone is written. -/
import Derived.Test.YtjbkgmbakjnlhabGreatDoorPartAb
namespace Go.Proofs.YtjbkgmbakjnlhabGreatDoor
set_option maxRecDepth 100000
open Go.RowKit

theorem Boxed.kept {w w' : World} {b : Nat} {p : Pk} {v : Value} (h : Boxed w b p v) (hs : w.heap.size ≤ w'.heap.size) (hk : w'.heap[b]? = w.heap[b]?) : Boxed w' b p v :=
  have e : ∀ o, w'.cell? ⟨b, o, none⟩ = w.cell? ⟨b, o, none⟩ := fun _ => World.cell?_of_block (w := w) hk
  ⟨Nat.lt_of_lt_of_le h.lt hs, (e 0).trans h.c0, (e 1).trans h.c1, (e 2).trans h.c2, (e 3).trans h.c3, (e 4).trans h.c4, (e 5).trans h.c5, (e 6).trans h.c6, (e 7).trans h.c7, (e 8).trans h.c8⟩

theorem own_kept {w w' : World} {base : Nat} {e : TypeId} {size n : Nat} {v : Value} {xs : List Value} (h : w.ownsRow base e size v n xs) (hk : ∀ k, v.ownBlock = some k → w'.heap[k]? = w.heap[k]?) : w'.ownsRow base e size v n xs := by
  refine ⟨h.1, h.2.imp id ?_⟩
  rintro ⟨g, cap, cur, hv, hg, hh, r⟩
  exact ⟨g, cap, cur, hv, hg, (hk g (by rw [hv]; rfl)).trans hh, r⟩
theorem own_lt {w : World} {base : Nat} {e : TypeId} {size n : Nat} {v : Value} {xs : List Value} (h : w.ownsRow base e size v n xs) : ∀ k, v.ownBlock = some k → base ≤ k ∧ k < w.heap.size := by
  intro k hk
  rcases h.2 with ⟨hv, _⟩ | ⟨g, cap, cur, hv, hg, hh, _⟩
  · rw [hv] at hk; cases hk
  · rw [hv] at hk
    cases hk
    refine ⟨hg, ?_⟩
    rcases Nat.lt_or_ge g w.heap.size with h' | h'
    · exact h'
    · rw [Array.getElem?_eq_none h'] at hh; cases hh
theorem own_below {w w' : World} {base : Nat} {e : TypeId} {size n : Nat} {v : Value} {xs : List Value} (h : w.ownsRow base e size v n xs) (hb : Below w.heap.size w w') : w'.ownsRow base e size v n xs :=
  own_kept h fun k hk => hb.block k (own_lt h k hk).2
/-- what is owned reads as bytes -/
theorem RdB.of_own {w : World} {base len cap : Nat} {ao : Option Addr} {zs : List Int} (hz : zs.length = len) (h : w.ownsRow base 5 1 (.slice ao len cap) len (zs.map (.int .u8))) : RdB w ao len zs := by
  refine ⟨hz, ?_⟩
  rcases h.2 with ⟨_, hn⟩ | ⟨g, c, cur, hv, hg, hh, _⟩
  · exact Or.inl hn
  · simp at hv
    obtain ⟨rfl, rfl⟩ := hv
    refine Or.inr ⟨g, 0, rfl, (own_lt h g rfl).2, fun k hk => ?_⟩
    rw [Nat.zero_add, h.cellAt k (by omega)]
    simp [List.getD, List.getElem?_eq_getElem (show k < zs.length by omega)]
/-- a new row of bytes is owned -/
theorem own_of_block {w : World} {g base : Nat} {zs : List Int} (hb : base ≤ g) (hz : zs.length ≤ maxLen) (h : w.heap[g]? = some (.cells (cellsOf zs) 5 (0, 0))) : w.ownsRow base 5 1 (.slice (some ⟨g, 0, none⟩) zs.length zs.length) zs.length (zs.map (.int .u8)) :=
  ⟨by simp, Or.inr ⟨g, zs.length, cellsOf zs, rfl, hb, h, Nat.le_refl _, hz, by simp [cellsOf], by simp only [cellsOf, Nat.mul_one]; exact List.take_of_length_le (by simp)⟩⟩
end Go.Proofs.YtjbkgmbakjnlhabGreatDoor

/- Lists of packets of the laws: their size, their copy. -/
namespace Go.Proofs.YtjbkgmbakjnlhabGreatDoor
set_option maxRecDepth 100000
open Go.RowKit

def sumLen (xs : List RV) : Nat := (xs.map fun x => x.zs.length).sum
theorem sumLen_take {xs : List RV} {k : Nat} {x : RV} (hx : xs[k]? = some x) : sumLen (xs.take (k + 1)) = sumLen (xs.take k) + x.zs.length := by
  unfold sumLen
  rw [List.take_add_one, hx]
  simp
theorem sumLen_mem {xs : List RV} {x : RV} (hx : x ∈ xs) : x.zs.length ≤ sumLen xs := by
  induction xs with
  | nil => cases hx
  | cons y r ih =>
    unfold sumLen
    simp only [List.map_cons, List.sum_cons]
    rcases List.mem_cons.1 hx with rfl | h
    · omega
    · have := ih h
      unfold sumLen at this
      omega

theorem sumLen_le (xs : List RV) (k : Nat) : sumLen (xs.take k) ≤ sumLen xs := by
  induction xs generalizing k with
  | nil => simp [sumLen]
  | cons y r ih =>
    match k with
    | 0 => simp [sumLen]
    | k + 1 =>
      have := ih k
      unfold sumLen at this ⊢
      simp only [List.take_succ_cons, List.map_cons, List.sum_cons]
      omega

set_option maxRecDepth 100000 in
set_option maxHeartbeats 3200000 in
theorem szFragPacketS_any (a : Option Addr) (cl : Nat) (xs : List RV) (w : World) (hL : RLo w a xs) (hm : xs.length ≤ 9223372036854775807) :
    Calls Tryz.prog 64 #[.slice a xs.length cl, .int .i64 1048576] w fun e w' => ∃ r : Int, e = .returned (.int .i64 r) ∧ (r = -1 ∨ (0 ≤ r ∧ xs.length + sumLen xs ≤ 1048576)) ∧ Below w.heap.size w w' := by
  by_cases hbig : 1048576 < xs.length
  · have hbig' : (1048576 : Int) - (xs.length : Int) < 0 := by omega
    clear hL
    go_enter Tryz.func64, Tryz.ntmps64
    go_wp2
    go_ret
    exact ⟨-1, rfl, Or.inl rfl, Below.refl _ _⟩
  have hbig' : ¬ ((1048576 : Int) - (xs.length : Int) < 0) := by omega
  have HL : Hid (RLo w a xs) := hL
  clear hL
  go_enter Tryz.func64, Tryz.ntmps64
  go_wp2
  go_loopw [1, 5] (fun l i wr => ∃ k : Nat, k ≤ xs.length ∧ i = .int .i64 k ∧ xs.length + sumLen (xs.take k) ≤ 1048576 ∧ l = .int .i64 (1048576 - (xs.length : Int) - (sumLen (xs.take k) : Int)) ∧ Hid (Below w.heap.size w wr)) (fun _ i _ => xs.length - (intOf i).toNat)
  case atStart => exact ⟨0, by omega, rfl, by simp [sumLen]; omega, by simp [sumLen], Below.refl _ _⟩
  case round =>
    obtain ⟨k, hk, rfl, hsum, rfl, HB⟩ := hrel
    have hsz := HB.out.size
    by_cases hlt : k < xs.length
    · obtain ⟨x, hx⟩ := get_of_lt hlt
      have hi : (k : Int) < (xs.length : Int) := by omega
      have Lr := HL.out.below HB.out
      rcases Lr.at_ with h0 | ⟨g, off, rfl, hgr, he⟩
      · rw [h0] at hlt; simp at hlt
      have Hk := he k x hx
      have hp := (Lr.each x (List.mem_of_getElem? hx)).len
      have HS : Hid (sumLen (xs.take (k + 1)) = sumLen (xs.take k) + x.zs.length) := sumLen_take hx
      obtain ⟨sm, hsm⟩ : ∃ sm, sumLen (xs.take k) = sm := ⟨_, rfl⟩
      rw [hsm] at hsum HS ⊢
      clear hx Lr he hsm
      obtain ⟨c0, c1, c2, c3, c4, c5, c6, c7, c8⟩ := Hk
      have KZ : Hid (∀ W : World, Calls Tryz.prog 6 #[.agg #[.int .i64 x.p.src, .int .i64 x.p.dst, .int .i64 x.p.kind, .int .i64 x.p.id, .int .i64 x.p.hops, .bool x.p.whole, .int .i64 x.p.off, .bool x.p.more, .slice x.a x.zs.length x.c], .int .i64 (1048576 - (xs.length : Int) - (sm : Int))] W fun e w' => e = .returned (.int .i64 (if (1048576 - (xs.length : Int) - (sm : Int)) < (x.zs.length : Int) then -1 else (1048576 - (xs.length : Int) - (sm : Int)) - (x.zs.length : Int))) ∧ Below W.heap.size W w') := fun W => szFragPacket_any x.p x.a x.zs.length x.c _ W (by omega) (by omega) (by omega)
      by_cases hz : (1048576 - (xs.length : Int) - (sm : Int)) < (x.zs.length : Int)
      · rw [if_pos hz] at KZ
        clear hz
        go_wp2_with (go_at_call 6; (with_reducible refine (KZ.out _).mono ?_); rintro e w1 ⟨rfl, b1⟩)
        go_ret
        exact ⟨-1, rfl, Or.inl rfl, HB.out.trans (b1.mono hsz)⟩
      · rw [if_neg hz] at KZ
        have hz' : ¬ (1048576 - (xs.length : Int) - (sm : Int) - (x.zs.length : Int) < 0) := by omega
        go_wp2_with (go_at_call 6; (with_reducible refine (KZ.out _).mono ?_); rintro e w1 ⟨rfl, b1⟩)
        go_roundw
        case rel => exact ⟨k + 1, by omega, by go_num, by rw [HS.out]; omega, by rw [HS.out]; go_num, HB.out.trans (b1.mono hsz)⟩
        case measure => simp [intOf]; omega
    · obtain rfl : k = xs.length := by omega
      rw [List.take_length] at hsum
      go_wp2
      go_ret
      exact ⟨_, rfl, Or.inr ⟨by rw [List.take_length]; omega, hsum⟩, HB.out⟩
end Go.Proofs.YtjbkgmbakjnlhabGreatDoor

/- The size of a bench of the laws. -/
namespace Go.Proofs.YtjbkgmbakjnlhabGreatDoor
set_option maxRecDepth 100000
open Go.RowKit

set_option maxRecDepth 100000 in
set_option maxHeartbeats 3200000 in
theorem szPackets_any (a : Option Addr) (cl : Nat) (xs : List RV) (L : Int) (w : World) (hL : RLo w a xs) (hm : xs.length ≤ 9223372036854775807) (h0 : 0 ≤ L) (h1 : L ≤ 1048576) :
    Calls Tryz.prog 64 #[.slice a xs.length cl, .int .i64 L] w fun e w' => ∃ r : Int, e = .returned (.int .i64 r) ∧ (r = -1 ∨ (0 ≤ r ∧ r = L - (xs.length : Int) - (sumLen xs : Int))) ∧ Below w.heap.size w w' := by
  by_cases hbig : L < (xs.length : Int)
  · have hbig' : L - (xs.length : Int) < 0 := by omega
    clear hL
    go_enter Tryz.func64, Tryz.ntmps64
    go_wp2
    go_ret
    exact ⟨-1, rfl, Or.inl rfl, Below.refl _ _⟩
  have hbig' : ¬ (L - (xs.length : Int) < 0) := by omega
  have HL : Hid (RLo w a xs) := hL
  clear hL
  go_enter Tryz.func64, Tryz.ntmps64
  go_wp2
  go_loopw [1, 5] (fun l i wr => ∃ k : Nat, k ≤ xs.length ∧ i = .int .i64 k ∧ (xs.length : Int) + (sumLen (xs.take k) : Int) ≤ L ∧ l = .int .i64 (L - (xs.length : Int) - (sumLen (xs.take k) : Int)) ∧ Hid (Below w.heap.size w wr)) (fun _ i _ => xs.length - (intOf i).toNat)
  case atStart => exact ⟨0, by omega, rfl, by simp [sumLen]; omega, by simp [sumLen], Below.refl _ _⟩
  case round =>
    obtain ⟨k, hk, rfl, hsum, rfl, HB⟩ := hrel
    have hsz := HB.out.size
    by_cases hlt : k < xs.length
    · obtain ⟨x, hx⟩ := get_of_lt hlt
      have hi : (k : Int) < (xs.length : Int) := by omega
      have Lr := HL.out.below HB.out
      rcases Lr.at_ with h0 | ⟨g, off, rfl, hgr, he⟩
      · rw [h0] at hlt; simp at hlt
      have Hk := he k x hx
      have hp := (Lr.each x (List.mem_of_getElem? hx)).len
      have HS : Hid (sumLen (xs.take (k + 1)) = sumLen (xs.take k) + x.zs.length) := sumLen_take hx
      obtain ⟨sm, hsm⟩ : ∃ sm, sumLen (xs.take k) = sm := ⟨_, rfl⟩
      rw [hsm] at hsum HS ⊢
      clear hx Lr he hsm
      obtain ⟨c0, c1, c2, c3, c4, c5, c6, c7, c8⟩ := Hk
      have KZ : Hid (∀ W : World, Calls Tryz.prog 6 #[.agg #[.int .i64 x.p.src, .int .i64 x.p.dst, .int .i64 x.p.kind, .int .i64 x.p.id, .int .i64 x.p.hops, .bool x.p.whole, .int .i64 x.p.off, .bool x.p.more, .slice x.a x.zs.length x.c], .int .i64 (L - (xs.length : Int) - (sm : Int))] W fun e w' => e = .returned (.int .i64 (if (L - (xs.length : Int) - (sm : Int)) < (x.zs.length : Int) then -1 else (L - (xs.length : Int) - (sm : Int)) - (x.zs.length : Int))) ∧ Below W.heap.size W w') := fun W => szFragPacket_any x.p x.a x.zs.length x.c _ W (by omega) (by omega) (by omega)
      by_cases hz : (L - (xs.length : Int) - (sm : Int)) < (x.zs.length : Int)
      · rw [if_pos hz] at KZ
        clear hz
        go_wp2_with (go_at_call 6; (with_reducible refine (KZ.out _).mono ?_); rintro e w1 ⟨rfl, b1⟩)
        go_ret
        exact ⟨-1, rfl, Or.inl rfl, HB.out.trans (b1.mono hsz)⟩
      · rw [if_neg hz] at KZ
        have hz' : ¬ (L - (xs.length : Int) - (sm : Int) - (x.zs.length : Int) < 0) := by omega
        go_wp2_with (go_at_call 6; (with_reducible refine (KZ.out _).mono ?_); rintro e w1 ⟨rfl, b1⟩)
        go_roundw
        case rel => exact ⟨k + 1, by omega, by go_num, by rw [HS.out]; omega, by rw [HS.out]; go_num, HB.out.trans (b1.mono hsz)⟩
        case measure => simp [intOf]; omega
    · obtain rfl : k = xs.length := by omega
      rw [List.take_length] at hsum
      go_wp2
      go_ret
      exact ⟨_, rfl, Or.inr ⟨by rw [List.take_length]; omega, by rw [List.take_length]⟩, HB.out⟩

/-- what a slot weighs -/
def SV.sz (s : SV) : Nat := s.xs.length + sumLen s.xs
def sumSz (xs : List SV) : Nat := (xs.map SV.sz).sum
theorem sumSz_take {xs : List SV} {k : Nat} {x : SV} (hx : xs[k]? = some x) : sumSz (xs.take (k + 1)) = sumSz (xs.take k) + x.sz := by
  unfold sumSz
  rw [List.take_add_one, hx]
  simp
theorem sumSz_mem {xs : List SV} {x : SV} (hx : x ∈ xs) : x.sz ≤ sumSz xs := by
  induction xs with
  | nil => cases hx
  | cons y r ih =>
    unfold sumSz
    simp only [List.map_cons, List.sum_cons]
    rcases List.mem_cons.1 hx with rfl | h
    · omega
    · have := ih h
      unfold sumSz at this
      omega

set_option maxRecDepth 100000 in
set_option maxHeartbeats 3200000 in
theorem szFragSlot_any (s : SV) (L : Int) (w : World) (hL : SArg w s) (h0 : 0 ≤ L) (h1 : L ≤ 1048576) :
    Calls Tryz.prog 41 #[.agg #[.slice s.a s.xs.length s.c, .int .i64 s.since, .bool s.bad], .int .i64 L] w fun e w' => ∃ r : Int, e = .returned (.int .i64 r) ∧ (r = -1 ∨ (0 ≤ r ∧ r = L - (s.sz : Int))) ∧ Below w.heap.size w w' := by
  have KP : Hid (∀ W : World, Below w.heap.size w W → Calls Tryz.prog 64 #[.slice s.a s.xs.length s.c, .int .i64 L] W fun e w' => ∃ r : Int, e = .returned (.int .i64 r) ∧ (r = -1 ∨ (0 ≤ r ∧ r = L - (s.xs.length : Int) - (sumLen s.xs : Int))) ∧ Below W.heap.size W w') := fun W h => szPackets_any s.a s.c s.xs L W (hL.rl.below h) hL.len h0 h1
  clear hL
  go_enter Tryz.func41, Tryz.ntmps41
  go_wp2_with fail
  refine (KP.out _ (Joins.below_alloc1 _ _)).mono ?_
  rintro e w1 ⟨r, rfl, hr, b1⟩
  have B1 : Hid (Below w.heap.size w w1) := (Joins.below_alloc1 _ _).trans (b1.mono (by simp))
  clear b1
  by_cases hn : r < 0
  · go_wp2
    go_ret
    exact ⟨-1, rfl, Or.inl rfl, B1.out⟩
  · go_wp2
    go_ret
    exact ⟨r, rfl, Or.inr ⟨by omega, by unfold SV.sz; omega⟩, B1.out⟩

set_option maxRecDepth 100000 in
set_option maxHeartbeats 3200000 in
theorem szFragSlotS_any (a : Option Addr) (cl : Nat) (xs : List SV) (L : Int) (w : World) (hL : SLo w a xs) (hm : xs.length ≤ 9223372036854775807) (h0 : 0 ≤ L) (h1 : L ≤ 1048576) :
    Calls Tryz.prog 19 #[.slice a xs.length cl, .int .i64 L] w fun e w' => ∃ r : Int, e = .returned (.int .i64 r) ∧ (r = -1 ∨ (0 ≤ r ∧ r = L - (xs.length : Int) - (sumSz xs : Int))) ∧ Below w.heap.size w w' := by
  by_cases hbig : L < (xs.length : Int)
  · have hbig' : L - (xs.length : Int) < 0 := by omega
    clear hL
    go_enter Tryz.func19, Tryz.ntmps19
    go_wp2
    go_ret
    exact ⟨-1, rfl, Or.inl rfl, Below.refl _ _⟩
  have hbig' : ¬ (L - (xs.length : Int) < 0) := by omega
  have HL : Hid (SLo w a xs) := hL
  clear hL
  go_enter Tryz.func19, Tryz.ntmps19
  go_wp2
  go_loopw [1, 5] (fun l i wr => ∃ k : Nat, k ≤ xs.length ∧ i = .int .i64 k ∧ (xs.length : Int) + (sumSz (xs.take k) : Int) ≤ L ∧ l = .int .i64 (L - (xs.length : Int) - (sumSz (xs.take k) : Int)) ∧ Hid (Below w.heap.size w wr)) (fun _ i _ => xs.length - (intOf i).toNat)
  case atStart => exact ⟨0, by omega, rfl, by simp [sumSz]; omega, by simp [sumSz], Below.refl _ _⟩
  case round =>
    obtain ⟨k, hk, rfl, hsum, rfl, HB⟩ := hrel
    have hsz := HB.out.size
    by_cases hlt : k < xs.length
    · obtain ⟨x, hx⟩ := get_of_lt hlt
      have hi : (k : Int) < (xs.length : Int) := by omega
      have Lr := HL.out.below HB.out
      rcases Lr.at_ with h0 | ⟨g, off, rfl, hgr, he⟩
      · rw [h0] at hlt; simp at hlt
      obtain ⟨c0, c1, c2⟩ := he k x hx
      have HX : Hid (SArg wr x) := Lr.each x (List.mem_of_getElem? hx)
      have HS : Hid (sumSz (xs.take (k + 1)) = sumSz (xs.take k) + x.sz) := sumSz_take hx
      obtain ⟨sm, hsm⟩ : ∃ sm, sumSz (xs.take k) = sm := ⟨_, rfl⟩
      rw [hsm] at hsum HS ⊢
      clear hx Lr he hsm
      have KZ : Hid (∀ W : World, Below wr.heap.size wr W → Calls Tryz.prog 41 #[.agg #[.slice x.a x.xs.length x.c, .int .i64 x.since, .bool x.bad], .int .i64 (L - (xs.length : Int) - (sm : Int))] W fun e w' => ∃ r : Int, e = .returned (.int .i64 r) ∧ (r = -1 ∨ (0 ≤ r ∧ r = L - (xs.length : Int) - (sm : Int) - (x.sz : Int))) ∧ Below W.heap.size W w') := fun W h => szFragSlot_any x _ W (HX.out.below h) (by omega) (by omega)
      go_wp2_with fail
      refine (KZ.out _ (Below.refl _ _)).mono ?_
      rintro e w1 ⟨r, rfl, hr, b1⟩
      have HB1 : Hid (Below w.heap.size w w1) := HB.out.trans (b1.mono hsz)
      clear b1
      by_cases hn : r < 0
      · go_wp2
        go_ret
        exact ⟨-1, rfl, Or.inl rfl, HB1.out⟩
      · have hr' : r = L - (xs.length : Int) - (sm : Int) - (x.sz : Int) := by omega
        clear hr
        have HR : Hid (r = L - (xs.length : Int) - (sm : Int) - (x.sz : Int)) := hr'
        clear hr'
        go_wp2
        go_roundw
        case rel => exact ⟨k + 1, by omega, by go_num, by have := HR.out; rw [HS.out]; omega, by have := HR.out; rw [HS.out]; rw [this]; go_num, HB1.out⟩
        case measure => simp [intOf]; omega
    · obtain rfl : k = xs.length := by omega
      rw [List.take_length] at hsum
      go_wp2
      go_ret
      exact ⟨_, rfl, Or.inr ⟨by rw [List.take_length]; omega, by rw [List.take_length]⟩, HB.out⟩

set_option maxRecDepth 100000 in
theorem szFragBench_any (now : Int) (a : Option Addr) (cl : Nat) (xs : List SV) (w : World) (hL : SLo w a xs) (hm : xs.length ≤ 9223372036854775807) :
    Calls Tryz.prog 5 #[.agg #[.int .i64 now, .slice a xs.length cl], .int .i64 1048576] w fun e w' => ∃ r : Int, e = .returned (.int .i64 r) ∧ (r = -1 ∨ (0 ≤ r ∧ xs.length + sumSz xs ≤ 1048576 ∧ r = 1048576 - (xs.length : Int) - (sumSz xs : Int))) ∧ Below w.heap.size w w' := by
  have KP : Hid (∀ W : World, Below w.heap.size w W → Calls Tryz.prog 19 #[.slice a xs.length cl, .int .i64 1048576] W fun e w' => ∃ r : Int, e = .returned (.int .i64 r) ∧ (r = -1 ∨ (0 ≤ r ∧ r = 1048576 - (xs.length : Int) - (sumSz xs : Int))) ∧ Below W.heap.size W w') := fun W h => szFragSlotS_any a cl xs 1048576 W (hL.below h) hm (by omega) (by omega)
  clear hL
  go_enter Tryz.func5, Tryz.ntmps5
  go_wp2_with fail
  refine (KP.out _ (Joins.below_alloc1 _ _)).mono ?_
  rintro e w1 ⟨r, rfl, hr, b1⟩
  have B1 : Hid (Below w.heap.size w w1) := (Joins.below_alloc1 _ _).trans (b1.mono (by simp))
  clear b1
  by_cases hn : r < 0
  · go_wp2
    go_ret
    exact ⟨-1, rfl, Or.inl rfl, B1.out⟩
  · go_wp2
    go_ret
    exact ⟨r, rfl, Or.inr ⟨by omega, by omega, by omega⟩, B1.out⟩
end Go.Proofs.YtjbkgmbakjnlhabGreatDoor
