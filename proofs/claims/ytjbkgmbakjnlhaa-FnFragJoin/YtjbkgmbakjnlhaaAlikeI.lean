/- The contract of the program's FragAlike. -/
import Derived.Test.YtjbkgmbakjnlhaaAlikeF
import Derived.Deep.DrawnRows
namespace Go.Proofs.Ytjbkgmbakjnlhaa
open Go.RowKit
attribute [local go_sem ↓] Go.wp_at_zero Go.wp_at_succ

theorem fld46 (s d k i h o n : Int) (x m : Bool) : ∀ w : World, (Instr.field 72 (.agg #[.int .i64 s, .int .i64 d, .int .i64 k, .int .i64 i, .int .i64 h, .bool x, .int .i64 o, .bool m, .int .i64 n]) 0).run Try.prog w = .ok (.agg #[.int .i64 s, .int .i64 d, .int .i64 k, .int .i64 i]) w := fun _ => by kernel_rfl

set_option maxRecDepth 100000 in
set_option maxHeartbeats 12800000 in
theorem implAlike_any (p q : Pk) (a b : Option Addr) (zs ys : List Int) (c d : Nat) (w : World) (hp : zs.length ≤ 1048576) (hq : ys.length ≤ 1048576) :
    Calls Try.prog 67 #[p.val (.slice a zs.length c), q.val (.slice b ys.length d)] w fun e w' => e = .returned (.bool (alikeB (p, zs) (q, ys))) ∧ Below w.heap.size w w' := by
  unfold Pk.val
  cases hv : okB p zs.length
  · have HA : Hid (alikeB (p, zs) (q, ys) = false) := (show alikeB (p, zs) (q, ys) = false by simp [alikeB, hv])
    have K1 : Hid (∀ W : World, Calls Try.prog 16 #[.agg #[.int .i64 p.src, .int .i64 p.dst, .int .i64 p.kind, .int .i64 p.id, .int .i64 p.hops, .bool p.whole, .int .i64 p.off, .bool p.more, .slice a zs.length c]] W fun e w' => e = .returned (.bool false) ∧ Below W.heap.size W w') := fun W => by
      have h := implOk_any p a zs.length c W hp
      unfold Pk.val at h
      rw [hv] at h
      exact h
    clear hv
    go_enter Try.func67, Try.ntmps67
    go_wp2
    go_region_with
      (first
        | (go_at_call 16; with_reducible refine (K1.out _).mono ?_; rintro e w1 ⟨rfl, b1⟩; have hs1 : w.heap.size + 2 ≤ w1.heap.size := Nat.le_trans (by simp) b1.size; have hc1 : ∀ b o, b < w.heap.size + 2 → w1.cell? ⟨b, o, none⟩ = _ := fun b o h => b1.cell (p := ⟨b, o, none⟩) (by simpa using h)))
    all_goals
      go_wp2
      go_ret
      exact ⟨ret_bool HA.out.symm, (Joins.below_alloc2 _ _ _).drew.trans (b1.mono (by simp; omega))⟩
  have K1 : Hid (∀ W : World, Calls Try.prog 16 #[.agg #[.int .i64 p.src, .int .i64 p.dst, .int .i64 p.kind, .int .i64 p.id, .int .i64 p.hops, .bool p.whole, .int .i64 p.off, .bool p.more, .slice a zs.length c]] W fun e w' => e = .returned (.bool true) ∧ Below W.heap.size W w') := fun W => by
    have h := implOk_any p a zs.length c W hp
    unfold Pk.val at h
    rw [hv] at h
    exact h
  cases hu : okB q ys.length
  · have HA : Hid (alikeB (p, zs) (q, ys) = false) := (show alikeB (p, zs) (q, ys) = false by simp [alikeB, hu])
    have K2 : Hid (∀ W : World, Calls Try.prog 16 #[.agg #[.int .i64 q.src, .int .i64 q.dst, .int .i64 q.kind, .int .i64 q.id, .int .i64 q.hops, .bool q.whole, .int .i64 q.off, .bool q.more, .slice b ys.length d]] W fun e w' => e = .returned (.bool false) ∧ Below W.heap.size W w') := fun W => by
      have h := implOk_any q b ys.length d W hq
      unfold Pk.val at h
      rw [hu] at h
      exact h
    clear hv hu
    go_enter Try.func67, Try.ntmps67
    go_wp2
    go_region_with
      (first
        | (go_at_call 16; with_reducible refine (K1.out _).mono ?_; rintro e w1 ⟨rfl, b1⟩; have hs1 : w.heap.size + 2 ≤ w1.heap.size := Nat.le_trans (by simp) b1.size; have hc1 : ∀ b o, b < w.heap.size + 2 → w1.cell? ⟨b, o, none⟩ = _ := fun b o h => b1.cell (p := ⟨b, o, none⟩) (by simpa using h))
        | (go_at_call 16; with_reducible refine (K2.out _).mono ?_; rintro e w2 ⟨rfl, b2⟩; have hs2 : w.heap.size + 2 ≤ w2.heap.size := Nat.le_trans hs1 b2.size; have hc2 : ∀ b o, b < w.heap.size + 2 → w2.cell? ⟨b, o, none⟩ = _ := fun b o h => b2.cell (p := ⟨b, o, none⟩) (Nat.lt_of_lt_of_le h hs1)))
    all_goals
      go_wp2
      go_ret
      exact ⟨ret_bool HA.out.symm, ((Joins.below_alloc2 _ _ _).drew.trans (b1.mono (by simp; omega))).trans (b2.mono (by omega))⟩
  · have HA : Hid (alikeB (p, zs) (q, ys) = ((p.src == q.src) && (p.dst == q.dst) && (p.kind == q.kind) && (p.id == q.id))) := (show alikeB (p, zs) (q, ys) = _ by simp [alikeB, hv, hu])
    have K2 : Hid (∀ W : World, Calls Try.prog 16 #[.agg #[.int .i64 q.src, .int .i64 q.dst, .int .i64 q.kind, .int .i64 q.id, .int .i64 q.hops, .bool q.whole, .int .i64 q.off, .bool q.more, .slice b ys.length d]] W fun e w' => e = .returned (.bool true) ∧ Below W.heap.size W w') := fun W => by
      have h := implOk_any q b ys.length d W hq
      unfold Pk.val at h
      rw [hu] at h
      exact h
    have K3 : Hid (∀ W : World, Calls Try.prog 51 #[.agg #[.int .i64 p.src, .int .i64 p.dst, .int .i64 p.kind, .int .i64 p.id, .int .i64 p.hops, .bool p.whole, .int .i64 p.off, .bool p.more, .slice a zs.length c]] W fun e w' => e = .returned (.agg #[.int .i64 p.src, .int .i64 p.dst, .int .i64 p.kind, .int .i64 p.id, .int .i64 p.hops, .bool p.whole, .int .i64 p.off, .bool p.more, .int .i64 zs.length]) ∧ Below W.heap.size W w') := fun W => by
      have h := keyed_any p a zs.length c W
      unfold Pk.val Pk.kval at h
      exact h
    have K4 : Hid (∀ W : World, Calls Try.prog 51 #[.agg #[.int .i64 q.src, .int .i64 q.dst, .int .i64 q.kind, .int .i64 q.id, .int .i64 q.hops, .bool q.whole, .int .i64 q.off, .bool q.more, .slice b ys.length d]] W fun e w' => e = .returned (.agg #[.int .i64 q.src, .int .i64 q.dst, .int .i64 q.kind, .int .i64 q.id, .int .i64 q.hops, .bool q.whole, .int .i64 q.off, .bool q.more, .int .i64 ys.length]) ∧ Below W.heap.size W w') := fun W => by
      have h := keyed_any q b ys.length d W
      unfold Pk.val Pk.kval at h
      exact h
    clear hv hu
    have hg := eqg51
    have he := eql51
    have hfd := fld46
    go_enter Try.func67, Try.ntmps67
    go_wp2
    go_region_held3 (fun w' => w.heap.size + 2 ≤ w'.heap.size ∧ w'.cell? ⟨w.heap.size, 0, none⟩ = some (.int .i64 p.src) ∧ w'.cell? ⟨w.heap.size, 1, none⟩ = some (.int .i64 p.dst) ∧ w'.cell? ⟨w.heap.size, 2, none⟩ = some (.int .i64 p.kind) ∧ w'.cell? ⟨w.heap.size, 3, none⟩ = some (.int .i64 p.id) ∧ w'.cell? ⟨w.heap.size, 4, none⟩ = some (.int .i64 p.hops) ∧ w'.cell? ⟨w.heap.size, 5, none⟩ = some (.bool p.whole) ∧ w'.cell? ⟨w.heap.size, 6, none⟩ = some (.int .i64 p.off) ∧ w'.cell? ⟨w.heap.size, 7, none⟩ = some (.bool p.more) ∧ w'.cell? ⟨w.heap.size, 8, none⟩ = some (.slice a zs.length c) ∧ w'.cell? ⟨w.heap.size + 1, 0, none⟩ = some (.int .i64 q.src) ∧ w'.cell? ⟨w.heap.size + 1, 1, none⟩ = some (.int .i64 q.dst) ∧ w'.cell? ⟨w.heap.size + 1, 2, none⟩ = some (.int .i64 q.kind) ∧ w'.cell? ⟨w.heap.size + 1, 3, none⟩ = some (.int .i64 q.id) ∧ w'.cell? ⟨w.heap.size + 1, 4, none⟩ = some (.int .i64 q.hops) ∧ w'.cell? ⟨w.heap.size + 1, 5, none⟩ = some (.bool q.whole) ∧ w'.cell? ⟨w.heap.size + 1, 6, none⟩ = some (.int .i64 q.off) ∧ w'.cell? ⟨w.heap.size + 1, 7, none⟩ = some (.bool q.more) ∧ w'.cell? ⟨w.heap.size + 1, 8, none⟩ = some (.slice b ys.length d)) (go_keep)
      (first
        | (go_at_call 16; with_reducible refine (K1.out _).mono ?_; rintro e w1 ⟨rfl, b1⟩; have hs1 : w.heap.size + 2 ≤ w1.heap.size := Nat.le_trans (by simp) b1.size; have hc1 : ∀ b o, b < w.heap.size + 2 → w1.cell? ⟨b, o, none⟩ = _ := fun b o h => b1.cell (p := ⟨b, o, none⟩) (by simpa using h))
        | (go_at_call 16; with_reducible refine (K2.out _).mono ?_; rintro e w2 ⟨rfl, b2⟩; have hs2 : w.heap.size + 2 ≤ w2.heap.size := Nat.le_trans hs1 b2.size; have hc2 : ∀ b o, b < w.heap.size + 2 → w2.cell? ⟨b, o, none⟩ = _ := fun b o h => b2.cell (p := ⟨b, o, none⟩) (Nat.lt_of_lt_of_le h hs1))
        | (go_at_call 51; with_reducible refine (K3.out _).mono ?_; rintro e w3 ⟨rfl, b3⟩; have hs3 : w.heap.size + 2 ≤ w3.heap.size := Nat.le_trans hs2 b3.size; have hc3 : ∀ b o, b < w.heap.size + 2 → w3.cell? ⟨b, o, none⟩ = _ := fun b o h => b3.cell (p := ⟨b, o, none⟩) (Nat.lt_of_lt_of_le h hs2))
        | (go_at_call 51; with_reducible refine (K4.out _).mono ?_; rintro e w4 ⟨rfl, b4⟩; have hs4 : w.heap.size + 2 ≤ w4.heap.size := Nat.le_trans hs3 b4.size; have hc4 : ∀ b o, b < w.heap.size + 2 → w4.cell? ⟨b, o, none⟩ = _ := fun b o h => b4.cell (p := ⟨b, o, none⟩) (Nat.lt_of_lt_of_le h hs3)))
    go_wp2
    go_ret
    exact ⟨ret_bool HA.out.symm, (((Joins.below_alloc2 _ _ _).drew.trans (b1.mono (by simp; omega))).trans (b2.mono (by omega))).trans ((b3.mono (by omega)).trans (b4.mono (by omega)))⟩
end Go.Proofs.Ytjbkgmbakjnlhaa
