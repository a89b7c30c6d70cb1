/- The contracts of keyed, packetChecks and the six checks. -/
import Derived.Test.YtjbkgmbakjnlhaaPack
import Derived.Deep.RegionHeld3
namespace Go.Proofs.Ytjbkgmbakjnlhaa
open Go.RowKit

/-- a keyed packet as a value -/
def Pk.kval (p : Pk) (n : Int) : Value := .agg #[.int .i64 p.src, .int .i64 p.dst, .int .i64 p.kind, .int .i64 p.id, .int .i64 p.hops, .bool p.whole, .int .i64 p.off, .bool p.more, .int .i64 n]

set_option maxHeartbeats 400000 in
theorem keyed_any (p : Pk) (a : Option Addr) (len cap : Nat) (w : World) :
    Calls Try.prog 51 #[p.val (.slice a len cap)] w fun e w' => e = .returned (p.kval len) ∧ Below w.heap.size w w' := by
  unfold Pk.val Pk.kval
  go_enter Try.func51, Try.ntmps51
  go_wp2
  exact bodyPost_ret (v := p.kval len) (by simp [results, Try.results51, go_sem, Pk.kval]) rfl ⟨rfl, Joins.below_alloc2 _ _ _⟩

set_option maxHeartbeats 400000 in
theorem packetChecks_any (w : World) :
    Calls Try.prog 52 #[] w fun e w' => e = .returned (.slice (some ⟨w.heap.size, 0, none⟩) 6 6) ∧
      w' = w.alloc (.cells #[.func (.func 76) #[] #[], .func (.func 77) #[] #[], .func (.func 78) #[] #[], .func (.func 79) #[] #[], .func (.func 80) #[] #[], .func (.func 81) #[] #[]] 78) := by
  go_enter Try.func52, Try.ntmps52
  go_wp2
  go_ret
  exact ⟨rfl, rfl⟩

set_option maxHeartbeats 400000 in
theorem hops_any (p : Pk) (n : Int) (w : World) :
    Calls Try.prog 77 #[p.kval n] w fun e w' => e = .returned (.bool (inB p.hops 1 64)) ∧ Below w.heap.size w w' := by
  unfold Pk.kval
  rw [← clamp_eq p.hops 1 64 (by omega)]
  go_enter Try.func77, Try.ntmps77
  go_wp2
  go_quiet ((go_at_call 89; exact Calls.quiet_of_same (clamp_any _ _ _ _)))
  go_wp2
  go_ret
  exact ⟨rfl, (Joins.below_alloc1 _ _).trans (Joins.below_draws _ _ _)⟩

set_option maxHeartbeats 400000 in
theorem begins_any (p : Pk) (n : Int) (w : World) :
    Calls Try.prog 78 #[p.kval n] w fun e w' => e = .returned (.bool (inB p.off 0 128 && (p.off.tmod 4 == 0))) ∧ Below w.heap.size w w' := by
  unfold Pk.kval
  rw [← clamp_eq p.off 0 128 (by omega)]
  cases h : (p.off == clampI p.off 0 128)
  all_goals
    go_enter Try.func78, Try.ntmps78
    go_wp2
    go_quiet ((go_at_call 89; exact Calls.quiet_of_same (clamp_any _ _ _ _)))
    go_wp2
    go_ret
    exact ⟨rfl, (Joins.below_alloc1 _ _).trans (Joins.below_draws _ _ _)⟩

set_option maxHeartbeats 400000 in
theorem ends_any (p : Pk) (n : Int) (w : World) (h0 : 0 ≤ n) (h1 : n ≤ 1048576) :
    Calls Try.prog 79 #[p.kval n] w fun e w' => e = .returned (.bool (decide (n ≤ 128) && decide (p.off ≤ 128 - n))) ∧ Below w.heap.size w w' := by
  unfold Pk.kval
  by_cases h : n ≤ 128
  all_goals
    go_enter Try.func79, Try.ntmps79
    go_wp2
    go_ret
    refine ⟨ret_bool ?_, Joins.below_alloc1 _ _⟩
    first | (simp [h]; done) | (simp; intros; omega)

set_option maxHeartbeats 400000 in
theorem leaves_any (p : Pk) (n : Nat) (w : World) (h1 : n ≤ 1048576) :
    Calls Try.prog 80 #[p.kval n] w fun e w' => e = .returned (.bool (!p.more || (decide ((0 : Int) < n) && ((n : Int) % 4 == 0)))) ∧ Below w.heap.size w w' := by
  unfold Pk.kval
  go_enter Try.func80, Try.ntmps80
  go_wp2
  all_goals
    go_ret
    refine ⟨ret_bool ?_, Joins.below_alloc1 _ _⟩
    first | (simp_all; done) | (simp_all; omega)

set_option maxHeartbeats 400000 in
theorem whole_any (p : Pk) (n : Int) (w : World) :
    Calls Try.prog 81 #[p.kval n] w fun e w' => e = .returned (.bool (!p.whole || ((p.off == 0) && !p.more))) ∧ Below w.heap.size w w' := by
  unfold Pk.kval
  go_enter Try.func81, Try.ntmps81
  go_wp2
  all_goals
    go_ret
    refine ⟨ret_bool ?_, Joins.below_alloc1 _ _⟩
    first | (simp_all; done) | (simp_all; omega)

set_option maxHeartbeats 1600000 in
theorem nearest_any (s d k i : Int) (w : World) :
    Calls Try.prog 88 #[.agg #[.int .i64 s, .int .i64 d, .int .i64 k, .int .i64 i]] w fun e w' => e = .returned (.agg #[.int .i64 (clampI s 0 65535), .int .i64 (clampI d 0 65535), .int .i64 (clampI k 1 7), .int .i64 (clampI i 0 255)]) ∧ Below w.heap.size w w' := by
  go_enter Try.func88, Try.ntmps88
  go_wp2
  go_region_held3 (fun w' => w'.cell? ⟨w.heap.size, 0, none⟩ = some (.int .i64 s) ∧ w'.cell? ⟨w.heap.size, 1, none⟩ = some (.int .i64 d) ∧ w'.cell? ⟨w.heap.size, 2, none⟩ = some (.int .i64 k) ∧ w'.cell? ⟨w.heap.size, 3, none⟩ = some (.int .i64 i)) (go_keep)
    (first | (go_at_call 89; refine (clamp_any _ _ _ _).mono ?_; rintro e w' ⟨rfl, rfl⟩))
  go_wp2
  exact bodyPost_ret (v := .agg #[.int .i64 (clampI s 0 65535), .int .i64 (clampI d 0 65535), .int .i64 (clampI k 1 7), .int .i64 (clampI i 0 255)]) (by simp [results, Try.results88, go_sem]) rfl ⟨rfl, (Joins.below_alloc2 _ _ _).drew⟩

theorem eqg51 (x y : Operand) (xs ys : Array Value) (w : World) : (eqGuard .eql 70 x y (.agg xs) (.agg ys)).run Try.prog w = .ok () w := run_eqGuard_agg w .eql 70 x y xs ys (by kernel_rfl)
theorem eql51 (s d k i s' d' k' i' : Int) (w : World) : (binOp .eql 70 (.agg #[.int .i64 s, .int .i64 d, .int .i64 k, .int .i64 i]) (.agg #[.int .i64 s', .int .i64 d', .int .i64 k', .int .i64 i'])).run Try.prog w =
    .ok (.bool ((s == s') && (d == d') && (k == k') && (i == i'))) w := by
  rw [run_eql_struct, show (10000 : Nat) = 9999 + 1 from rfl, run_equalIn_agg w 9999 70 _ _ (by kernel_rfl) (by kernel_rfl)]
  go_simp
  by_cases h1 : s = s' <;> by_cases h2 : d = d' <;> by_cases h3 : k = k' <;> by_cases h4 : i = i' <;> simp [h1, h2, h3, h4]

set_option maxHeartbeats 1600000 in
theorem key_any (p : Pk) (n : Int) (w : World) :
    Calls Try.prog 76 #[p.kval n] w fun e w' => e = .returned (.bool (inB p.src 0 65535 && inB p.dst 0 65535 && inB p.kind 1 7 && inB p.id 0 255)) ∧ Below w.heap.size w w' := by
  unfold Pk.kval
  rw [← clamp_eq p.src 0 65535 (by omega), ← clamp_eq p.dst 0 65535 (by omega), ← clamp_eq p.kind 1 7 (by omega), ← clamp_eq p.id 0 255 (by omega)]
  have hg := eqg51
  have he := eql51
  go_enter Try.func76, Try.ntmps76
  go_wp2
  go_region_held3 (fun w' => w.heap.size < w'.heap.size ∧ w'.cell? ⟨w.heap.size, 0, none⟩ = some (.int .i64 p.src) ∧ w'.cell? ⟨w.heap.size, 1, none⟩ = some (.int .i64 p.dst) ∧ w'.cell? ⟨w.heap.size, 2, none⟩ = some (.int .i64 p.kind) ∧ w'.cell? ⟨w.heap.size, 3, none⟩ = some (.int .i64 p.id)) (first | go_keep)
    (first | (go_at_call 88; refine (nearest_any _ _ _ _ _).mono ?_; rintro e w' ⟨rfl, hb⟩; have hsz : w.heap.size < w'.heap.size := Nat.lt_of_lt_of_le (by simp) hb.size; have hc : ∀ b o, b < w.heap.size + 1 → w'.cell? ⟨b, o, none⟩ = _ := fun b o h => hb.cell (p := ⟨b, o, none⟩) (by simpa using h)))
  go_wp2
  go_ret
  exact ⟨rfl, (Joins.below_alloc1 _ _).drew.trans (hb.mono (by simp))⟩
end Go.Proofs.Ytjbkgmbakjnlhaa
