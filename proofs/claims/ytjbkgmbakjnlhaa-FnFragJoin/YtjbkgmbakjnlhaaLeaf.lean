/- Contracts of the leaves: l1In, clamp, szByteS, toByteS, eqByteS at equal bytes. -/
import Derived.Test.YtjbkgmbakjnlhaaProg
import Derived.WalkKit
import Derived.WalkSpells
import Derived.WalkLawsBesides
import Derived.Deep.QuietTactic
import Derived.BigQuiet
import Derived.Deep.OwnRows
namespace Go.Proofs.Ytjbkgmbakjnlhaa
open Go.RowKit

theorem ret_int {k : IntKind} {a b : Int} (h : a = b) : Ending.returned (.int k a) = .returned (.int k b) := by rw [h]
theorem ret_bool {a b : Bool} (h : a = b) : Ending.returned (.bool a) = .returned (.bool b) := by rw [h]

def inB (n lo hi : Int) : Bool := decide (lo ≤ n) && decide (n ≤ hi)
def clampI (n lo hi : Int) : Int := if hi < (if n < lo then lo else n) then hi else (if n < lo then lo else n)

theorem clamp_eq (n lo hi : Int) (h : lo ≤ hi) : (n == clampI n lo hi) = inB n lo hi := by
  unfold clampI inB
  rw [Bool.eq_iff_iff]
  simp only [beq_iff_eq, Bool.and_eq_true, decide_eq_true_eq]
  repeat' split
  all_goals omega

set_option maxHeartbeats 400000 in
theorem l1In_any (n lo hi : Int) (w : World) :
    Calls Try.prog 54 #[.int .i64 n, .int .i64 lo, .int .i64 hi] w fun e w' => e = .returned (.bool (inB n lo hi)) ∧ w' = w := by
  by_cases h1 : lo ≤ n <;> by_cases h2 : n ≤ hi
  all_goals
    go_enter Try.func54, Try.ntmps54
    go_wp2
    go_ret
    refine ⟨?_, rfl⟩
    simp [inB, h1, h2]

set_option maxHeartbeats 400000 in
theorem clamp_any (n lo hi : Int) (w : World) :
    Calls Try.prog 89 #[.int .i64 n, .int .i64 lo, .int .i64 hi] w fun e w' => e = .returned (.int .i64 (clampI n lo hi)) ∧ w' = w := by
  go_enter Try.func89, Try.ntmps89
  go_wp2
  all_goals
    go_ret
    refine ⟨ret_int ?_, rfl⟩
    unfold clampI
    repeat' split
    all_goals first | rfl | (simp_all; done) | (simp_all; omega) | omega

set_option maxHeartbeats 400000 in
theorem szByteS_any (a : Option Addr) (len cap : Nat) (left : Int) (w : World) (h0 : 0 ≤ left) (h1 : left ≤ 1048576) (hl : (len : Int) ≤ 9223372036854775807) :
    Calls Try.prog 57 #[.slice a len cap, .int .i64 left] w fun e w' => e = .returned (.int .i64 (if left < len then -1 else left - len)) ∧ w' = w := by
  by_cases h : left < len
  all_goals
    go_enter Try.func57, Try.ntmps57
    go_wp2
    go_ret
    exact ⟨rfl, rfl⟩

/-- the cells of a row of bytes -/
def cellsOf (zs : List Int) : Array Value := (zs.map (Value.int .u8)).toArray
/-- the cells behind k rounds of a copy -/
def cellsTo (zs : List Int) (k : Nat) : Array Value := ((zs.take k).map (Value.int .u8) ++ List.replicate (zs.length - k) (Value.int .u8 0)).toArray

theorem cellsTo_zero (zs : List Int) : cellsTo zs 0 = madeCells #[.int .u8 0] zs.length := by
  apply Array.ext_getElem?
  intro i
  by_cases h : i < zs.length
  · simp [cellsTo, madeCells, h, Nat.mod_one]
  · simp [cellsTo, madeCells, h]
theorem cellsTo_all (zs : List Int) : cellsTo zs zs.length = cellsOf zs := by
  simp [cellsTo, cellsOf]
theorem cellsTo_succ (zs : List Int) (k : Nat) (h : k < zs.length) : (cellsTo zs k).setIfInBounds k (.int .u8 (zs.getD k 0)) = cellsTo zs (k + 1) := by
  apply Array.ext_getElem?
  intro i
  simp only [cellsTo, List.setIfInBounds_toArray, List.getElem?_toArray]
  rw [List.getElem?_set]
  have hl : (List.map (Value.int IntKind.u8) (List.take k zs)).length = k := by simp; omega
  have hl' : (List.map (Value.int IntKind.u8) (List.take (k + 1) zs)).length = k + 1 := by simp; omega
  rcases Nat.lt_trichotomy i k with hi | hi | hi
  · rw [if_neg (by omega), List.getElem?_append_left (by omega), List.getElem?_append_left (by omega)]
    simp [hi, show i < k + 1 by omega]
  · subst hi
    rw [if_pos rfl, if_pos (by simp; omega), List.getElem?_append_left (by omega)]
    simp [List.getElem?_eq_getElem h]
  · rw [if_neg (by omega), List.getElem?_append_right (by omega), List.getElem?_append_right (by omega), hl, hl']
    by_cases h2 : i < zs.length
    · simp [show i - k < zs.length - k by omega, show i - (k + 1) < zs.length - (k + 1) by omega]
    · simp [show ¬ i - k < zs.length - k by omega, show ¬ i - (k + 1) < zs.length - (k + 1) by omega]
theorem cellsTo_at (zs : List Int) (k : Nat) (h : k < zs.length) : (cellsTo zs k)[k]? = some (.int .u8 0) := by
  have hl : (List.map (Value.int IntKind.u8) (List.take k zs)).length = k := by simp; omega
  simp only [cellsTo, List.getElem?_toArray]
  rw [List.getElem?_append_right (by omega), hl, List.getElem?_replicate, if_pos (by omega)]
theorem cellsTo_size (zs : List Int) (k : Nat) (h : k ≤ zs.length) : (cellsTo zs k).size = zs.length := by
  simp [cellsTo]; omega

theorem Try.info5 : (Try.prog.info? 5).map (fun i => (i.zero, i.size, i.bytes)) = some (some (.int .u8 0), 1, 1) := by kernel_rfl

/-- WHAT A SLICE OF BYTES HOLDS: so many numbers, from its address on. -/
def RdB (w : World) (a : Option Addr) (len : Nat) (zs : List Int) : Prop :=
  zs.length = len ∧ (len = 0 ∨ ∃ b off, a = some ⟨b, off, none⟩ ∧ b < w.heap.size ∧ ∀ k, k < len → w.cell? ⟨b, off + k, none⟩ = some (.int .u8 (zs.getD k 0)))
theorem RdB.below {w w' : World} {a : Option Addr} {len : Nat} {zs : List Int} (h : RdB w a len zs) (hb : Below w.heap.size w w') : RdB w' a len zs := by
  refine ⟨h.1, h.2.imp id ?_⟩
  rintro ⟨b, off, ha, hlt, hc⟩
  exact ⟨b, off, ha, Nat.lt_of_lt_of_le hlt hb.size, fun k hk => (hb.cell (p := ⟨b, off + k, none⟩) hlt).trans (hc k hk)⟩
theorem RdB.of_block {w : World} {g : Nat} {zs : List Int} {t : TypeId} {fr : Nat × Nat} (h : w.heap[g]? = some (.cells (cellsOf zs) t fr)) : RdB w (some ⟨g, 0, none⟩) zs.length zs := by
  refine ⟨rfl, Or.inr ⟨g, 0, rfl, ?_, fun k hk => ?_⟩⟩
  · rcases Nat.lt_or_ge g w.heap.size with h' | h'
    · exact h'
    · rw [Array.getElem?_eq_none h'] at h; cases h
  · simp [World.cell?, h, cellsOf, List.getElem?_eq_getElem hk]

set_option maxHeartbeats 800000 in
theorem toByteS_any (a : Option Addr) (len cap : Nat) (zs : List Int) (w : World) (hr : RdB w a len zs) (hl : len ≤ 1048576) :
    Calls Try.prog 58 #[.slice a len cap] w fun e w' => e = .returned (.slice (some ⟨w.heap.size, 0, none⟩) len len) ∧ w' = w.alloc (.cells (cellsOf zs) 5) := by
  obtain ⟨hz, hc⟩ := hr
  subst hz
  have hmk := run_make_row' (P := Try.prog) 22 5 (.int .u8 0) 1 Try.underlying22 Try.info5 rfl .i64 .i64 zs.length (by omega) (by omega)
  rw [← cellsTo_zero] at hmk
  rcases hc with h0 | ⟨b, off, rfl, hb, hc⟩
  · have hnil : zs = [] := List.length_eq_zero_iff.1 h0
    subst hnil
    have hmk' : ∀ w : World, (Instr.makeSlice 22 (.int .i64 0) (.int .i64 0)).run Try.prog w = .ok (.slice (some ⟨w.heap.size, 0, none⟩) 0 0) (w.alloc (.cells (cellsTo [] 0) 5)) := hmk
    clear hmk
    go_enter Try.func58, Try.ntmps58
    go_wp2
    refine wp_loop_rounds 1 ?_
    rw [rounds_succ]
    go_wp2
    go_ret
    exact ⟨rfl, rfl⟩
  · go_enter Try.func58, Try.ntmps58
    go_wp2
    go_loopw [4] (fun i wr => ∃ k : Nat, k ≤ zs.length ∧ i = .int .i64 k ∧ wr = w.alloc (.cells (cellsTo zs k) 5)) (fun i _ => zs.length - (intOf i).toNat)
    case atStart => exact ⟨0, Nat.zero_le _, rfl, rfl⟩
    case round =>
      obtain ⟨k, hk, rfl, rfl⟩ := hrel
      by_cases hlt : k < zs.length
      · have hcell := hc k hlt
        have hck := cellsTo_at zs k hlt
        have h := cellsTo_succ zs k hlt
        simp only [List.getD, List.getElem?_eq_getElem hlt, Option.getD_some] at h
        have HS : Hid ((cellsTo zs k).setIfInBounds k (.int .u8 zs[k]) = cellsTo zs (k + 1)) := h
        clear h
        clear hc hmk
        go_wp2
        go_roundw
        case rel => exact ⟨k + 1, by omega, by go_num, by rw [HS.out]⟩
        case measure => simp [intOf]; omega
      · go_wp2
        go_ret
        have e : k = zs.length := by omega
        subst e
        exact ⟨rfl, by rw [cellsTo_all]⟩

set_option maxHeartbeats 800000 in
theorem eqByteS_same (a1 a2 : Option Addr) (len cap1 cap2 : Nat) (zs : List Int) (w : World) (hr1 : RdB w a1 len zs) (hr2 : RdB w a2 len zs) (hl : len ≤ 1048576) :
    Calls Try.prog 59 #[.slice a1 len cap1, .slice a2 len cap2] w fun e w' => e = .returned (.bool true) ∧ ∃ n, w' = w.drewN n := by
  obtain ⟨hz, hc1⟩ := hr1
  obtain ⟨_, hc2⟩ := hr2
  subst hz
  have hone : ((zs.length : Int) != (zs.length : Int)) = false := by simp
  by_cases h0 : zs.length = 0
  · have hnil : zs = [] := List.length_eq_zero_iff.1 h0
    subst hnil
    clear hc1 hc2 hone
    go_enter Try.func59, Try.ntmps59
    go_wp2
    refine wp_loop_rounds 1 ?_
    rw [rounds_succ]
    go_wp2
    go_ret
    exact ⟨rfl, 0, rfl⟩
  · obtain ⟨b1, off1, rfl, hb1, hc1⟩ := hc1.resolve_left h0
    obtain ⟨b2, off2, rfl, hb2, hc2⟩ := hc2.resolve_left h0
    go_enter Try.func59, Try.ntmps59
    go_wp2
    go_loopw [5] (fun i wr => ∃ k n : Nat, k ≤ zs.length ∧ i = .int .i64 k ∧ wr = w.drewN n) (fun i _ => zs.length - (intOf i).toNat)
    case atStart => exact ⟨0, 0, Nat.zero_le _, rfl, rfl⟩
    case round =>
      obtain ⟨k, n, hk, rfl, rfl⟩ := hrel
      by_cases hlt : k < zs.length
      · have hcell1 := hc1 k hlt
        have hcell2 := hc2 k hlt
        have hi : (k : Int) < (zs.length : Int) := by omega
        clear hc1 hc2
        go_wp2
        go_quiet (fail)
        go_wp2
        go_roundw
        case rel => exact ⟨k + 1, n + nq, by omega, by go_num, rfl⟩
        case measure => simp [intOf]; omega
      · go_wp2
        go_ret
        exact ⟨rfl, n, rfl⟩
end Go.Proofs.Ytjbkgmbakjnlhaa
