import Derived.Test.YtjbkgmbakjnlhaaGreatDoorPartAb
import Derived.Test.YtjbkgmbakjnlhaaGreatDoorPartAc
import Derived.Deep.DrawnRows
import Derived.Laws.BytesArg
import Derived.Deep.CutRange
import Derived.Deep.DeepCutAuto
namespace Go.Proofs.YtjbkgmbakjnlhaaGreatDoor
set_option maxRecDepth 100000
open Go.RowKit
set_option maxHeartbeats 1600000 in
theorem specAlike_any (p q : Pk) (a b : Option Addr) (zs ys : List Int) (c d : Nat) (w : World) (hp : zs.length ≤ 1048576) (hq : ys.length ≤ 1048576) :
  Calls Tryz.prog 16 #[p.val (.slice a zs.length c), q.val (.slice b ys.length d)] w fun e w' => e = .returned (.bool (alikeB (p, zs) (q, ys))) ∧ Below w.heap.size w w' := by
 unfold Pk.val
 cases hv : okB p zs.length
 ·have HA : Hid (alikeB (p, zs) (q, ys) = false) := by simp [Hid, alikeB, hv]
  go_enter Tryz.func16, Tryz.ntmps16
  go_wp2_with fail
  refine (specOk_any p a zs.length c _ hp).mono ?_
  rintro e w1 ⟨rfl, b1⟩
  have B1 : Hid (Below w.heap.size w w1) := (Joins.below_alloc2 _ _ _).trans (b1.mono (by simp; omega))
  clear b1
  go_wp2
  go_ret
  exact ⟨ret_bool HA.out.symm, B1.out⟩
 go_enter Tryz.func16, Tryz.ntmps16
 go_wp2_with fail
 refine (specOk_any p a zs.length c _ hp).mono ?_
 rintro e w1 ⟨rfl, b1⟩
 have B1 : Below w.heap.size w w1 := (Joins.below_alloc2 _ _ _).trans (b1.mono (by simp; omega))
 have X1 : Boxed w1 w.heap.size p (.slice a zs.length c) := ((Boxed.new w p (.slice a zs.length c) 29).below (zBa _ _)).below b1
 have Y1 : Boxed w1 (w.heap.size + 1) q (.slice b ys.length d) := (Boxed.newAt (w.alloc _) (w.heap.size + 1) q (.slice b ys.length d) 29 (by simp)).below b1
 clear b1
 obtain ⟨l1, k0, k1, k2, k3, k4, k5, k6, k7, k8⟩ := id Y1
 cases hu : okB q ys.length
 ·have HA : Hid (alikeB (p, zs) (q, ys) = false) := by simp [Hid, alikeB, hu]
  go_wp2_with fail
  refine (specOk_any q b ys.length d _ hq).mono ?_
  rintro e w2 ⟨rfl, b2⟩
  have B2 : Hid (Below w.heap.size w w2) := B1.trans (b2.mono (by omega))
  clear b2 B1
  go_wp2
  go_ret
  exact ⟨ret_bool HA.out.symm, B2.out⟩
 ·go_wp2_with fail
  refine (specOk_any q b ys.length d _ hq).mono ?_
  rintro e w2 ⟨rfl, b2⟩
  have B2 : Hid (Below w.heap.size w w2) := B1.trans (b2.mono (by omega))
  have X2 := X1.below b2
  have Y2 := Y1.below b2
  clear b2 B1 X1 Y1 k0 k1 k2 k3 k4 k5 k6 k7 k8 l1
  obtain ⟨l0, c0, c1, c2, c3, c4, c5, c6, c7, c8⟩ := id X2
  obtain ⟨l1, k0, k1, k2, k3, k4, k5, k6, k7, k8⟩ := id Y2
  have HV : Hid (okB p zs.length = true ∧ okB q ys.length = true) := ⟨hv, hu⟩
  clear hv hu
  go_wp2
  all_goals
   go_ret
   refine ⟨ret_bool ?_, B2.out⟩
   have h1 := HV.out.1
   have h2 := HV.out.2
   simp_all [alikeB]
attribute [local go_sem ↓] Go.wp_at_zero Go.wp_at_succ
theorem fld46 (s d k i h o n : Int) (x m : Bool) : ∀ w : World, (Instr.field 105 (.agg #[.int .i64 s, .int .i64 d, .int .i64 k, .int .i64 i, .int .i64 h, .bool x, .int .i64 o, .bool m, .int .i64 n]) 0).run Tryz.prog w = .ok (.agg #[.int .i64 s, .int .i64 d, .int .i64 k, .int .i64 i]) w := fun _ => by kernel_rfl
set_option maxHeartbeats 12800000 in
theorem implAlike_any (p q : Pk) (a b : Option Addr) (zs ys : List Int) (c d : Nat) (w : World) (hp : zs.length ≤ 1048576) (hq : ys.length ≤ 1048576) :
  Calls Tryz.prog 73 #[p.val (.slice a zs.length c), q.val (.slice b ys.length d)] w fun e w' => e = .returned (.bool (alikeB (p, zs) (q, ys))) ∧ Below w.heap.size w w' := by
 unfold Pk.val
 cases hv : okB p zs.length
 ·have HA : Hid (alikeB (p, zs) (q, ys) = false) := (show alikeB (p, zs) (q, ys) = false by simp [alikeB, hv])
  have K1 : Hid (∀ W : World, Calls Tryz.prog 67 #[.agg #[.int .i64 p.src, .int .i64 p.dst, .int .i64 p.kind, .int .i64 p.id, .int .i64 p.hops, .bool p.whole, .int .i64 p.off, .bool p.more, .slice a zs.length c]] W fun e w' => e = .returned (.bool false) ∧ Below W.heap.size W w') := fun W => by
   have h := implOk_any p a zs.length c W hp
   unfold Pk.val at h
   rw [hv] at h
   exact h
  clear hv
  go_enter Tryz.func73, Tryz.ntmps73
  go_wp2
  go_region_with
   (first
    | (go_at_call 67; with_reducible refine (K1.out _).mono ?_; rintro e w1 ⟨rfl, b1⟩; have hs1 : w.heap.size + 2 ≤ w1.heap.size := Nat.le_trans (by simp) b1.size; have hc1 : ∀ b o, b < w.heap.size + 2 → w1.cell? ⟨b, o, none⟩ = _ := fun b o h => b1.cell (p := ⟨b, o, none⟩) (by simpa using h)))
  all_goals
   go_wp2
   go_ret
   exact ⟨ret_bool HA.out.symm, (Joins.below_alloc2 _ _ _).drew.trans (b1.mono (by simp; omega))⟩
 have K1 : Hid (∀ W : World, Calls Tryz.prog 67 #[.agg #[.int .i64 p.src, .int .i64 p.dst, .int .i64 p.kind, .int .i64 p.id, .int .i64 p.hops, .bool p.whole, .int .i64 p.off, .bool p.more, .slice a zs.length c]] W fun e w' => e = .returned (.bool true) ∧ Below W.heap.size W w') := fun W => by
  have h := implOk_any p a zs.length c W hp
  unfold Pk.val at h
  rw [hv] at h
  exact h
 cases hu : okB q ys.length
 ·have HA : Hid (alikeB (p, zs) (q, ys) = false) := (show alikeB (p, zs) (q, ys) = false by simp [alikeB, hu])
  have K2 : Hid (∀ W : World, Calls Tryz.prog 67 #[.agg #[.int .i64 q.src, .int .i64 q.dst, .int .i64 q.kind, .int .i64 q.id, .int .i64 q.hops, .bool q.whole, .int .i64 q.off, .bool q.more, .slice b ys.length d]] W fun e w' => e = .returned (.bool false) ∧ Below W.heap.size W w') := fun W => by
   have h := implOk_any q b ys.length d W hq
   unfold Pk.val at h
   rw [hu] at h
   exact h
  clear hv hu
  go_enter Tryz.func73, Tryz.ntmps73
  go_wp2
  go_region_with
   (first
    | (go_at_call 67; with_reducible refine (K1.out _).mono ?_; rintro e w1 ⟨rfl, b1⟩; have hs1 : w.heap.size + 2 ≤ w1.heap.size := Nat.le_trans (by simp) b1.size; have hc1 : ∀ b o, b < w.heap.size + 2 → w1.cell? ⟨b, o, none⟩ = _ := fun b o h => b1.cell (p := ⟨b, o, none⟩) (by simpa using h))
    | (go_at_call 67; with_reducible refine (K2.out _).mono ?_; rintro e w2 ⟨rfl, b2⟩; have hs2 : w.heap.size + 2 ≤ w2.heap.size := Nat.le_trans hs1 b2.size; have hc2 : ∀ b o, b < w.heap.size + 2 → w2.cell? ⟨b, o, none⟩ = _ := fun b o h => b2.cell (p := ⟨b, o, none⟩) (Nat.lt_of_lt_of_le h hs1)))
  all_goals
   go_wp2
   go_ret
   exact ⟨ret_bool HA.out.symm, ((Joins.below_alloc2 _ _ _).drew.trans (b1.mono (by simp; omega))).trans (b2.mono (by omega))⟩
 ·have HA : Hid (alikeB (p, zs) (q, ys) = ((p.src == q.src) && (p.dst == q.dst) && (p.kind == q.kind) && (p.id == q.id))) := (show alikeB (p, zs) (q, ys) = _ by simp [alikeB, hv, hu])
  have K2 : Hid (∀ W : World, Calls Tryz.prog 67 #[.agg #[.int .i64 q.src, .int .i64 q.dst, .int .i64 q.kind, .int .i64 q.id, .int .i64 q.hops, .bool q.whole, .int .i64 q.off, .bool q.more, .slice b ys.length d]] W fun e w' => e = .returned (.bool true) ∧ Below W.heap.size W w') := fun W => by
   have h := implOk_any q b ys.length d W hq
   unfold Pk.val at h
   rw [hu] at h
   exact h
  have K3 : Hid (∀ W : World, Calls Tryz.prog 61 #[.agg #[.int .i64 p.src, .int .i64 p.dst, .int .i64 p.kind, .int .i64 p.id, .int .i64 p.hops, .bool p.whole, .int .i64 p.off, .bool p.more, .slice a zs.length c]] W fun e w' => e = .returned (.agg #[.int .i64 p.src, .int .i64 p.dst, .int .i64 p.kind, .int .i64 p.id, .int .i64 p.hops, .bool p.whole, .int .i64 p.off, .bool p.more, .int .i64 zs.length]) ∧ Below W.heap.size W w') := fun W => by
   have h := keyed_any p a zs.length c W
   unfold Pk.val Pk.kval at h
   exact h
  have K4 : Hid (∀ W : World, Calls Tryz.prog 61 #[.agg #[.int .i64 q.src, .int .i64 q.dst, .int .i64 q.kind, .int .i64 q.id, .int .i64 q.hops, .bool q.whole, .int .i64 q.off, .bool q.more, .slice b ys.length d]] W fun e w' => e = .returned (.agg #[.int .i64 q.src, .int .i64 q.dst, .int .i64 q.kind, .int .i64 q.id, .int .i64 q.hops, .bool q.whole, .int .i64 q.off, .bool q.more, .int .i64 ys.length]) ∧ Below W.heap.size W w') := fun W => by
   have h := keyed_any q b ys.length d W
   unfold Pk.val Pk.kval at h
   exact h
  clear hv hu
  have hg := eqg51
  have he := eql51
  have hfd := fld46
  go_enter Tryz.func73, Tryz.ntmps73
  go_wp2
  go_region_held3 (fun w' => w.heap.size + 2 ≤ w'.heap.size ∧ w'.cell? ⟨w.heap.size, 0, none⟩ = some (.int .i64 p.src) ∧ w'.cell? ⟨w.heap.size, 1, none⟩ = some (.int .i64 p.dst) ∧ w'.cell? ⟨w.heap.size, 2, none⟩ = some (.int .i64 p.kind) ∧ w'.cell? ⟨w.heap.size, 3, none⟩ = some (.int .i64 p.id) ∧ w'.cell? ⟨w.heap.size, 4, none⟩ = some (.int .i64 p.hops) ∧ w'.cell? ⟨w.heap.size, 5, none⟩ = some (.bool p.whole) ∧ w'.cell? ⟨w.heap.size, 6, none⟩ = some (.int .i64 p.off) ∧ w'.cell? ⟨w.heap.size, 7, none⟩ = some (.bool p.more) ∧ w'.cell? ⟨w.heap.size, 8, none⟩ = some (.slice a zs.length c) ∧ w'.cell? ⟨w.heap.size + 1, 0, none⟩ = some (.int .i64 q.src) ∧ w'.cell? ⟨w.heap.size + 1, 1, none⟩ = some (.int .i64 q.dst) ∧ w'.cell? ⟨w.heap.size + 1, 2, none⟩ = some (.int .i64 q.kind) ∧ w'.cell? ⟨w.heap.size + 1, 3, none⟩ = some (.int .i64 q.id) ∧ w'.cell? ⟨w.heap.size + 1, 4, none⟩ = some (.int .i64 q.hops) ∧ w'.cell? ⟨w.heap.size + 1, 5, none⟩ = some (.bool q.whole) ∧ w'.cell? ⟨w.heap.size + 1, 6, none⟩ = some (.int .i64 q.off) ∧ w'.cell? ⟨w.heap.size + 1, 7, none⟩ = some (.bool q.more) ∧ w'.cell? ⟨w.heap.size + 1, 8, none⟩ = some (.slice b ys.length d)) (go_keep)
   (first
    | (go_at_call 67; with_reducible refine (K1.out _).mono ?_; rintro e w1 ⟨rfl, b1⟩; have hs1 : w.heap.size + 2 ≤ w1.heap.size := Nat.le_trans (by simp) b1.size; have hc1 : ∀ b o, b < w.heap.size + 2 → w1.cell? ⟨b, o, none⟩ = _ := fun b o h => b1.cell (p := ⟨b, o, none⟩) (by simpa using h))
    | (go_at_call 67; with_reducible refine (K2.out _).mono ?_; rintro e w2 ⟨rfl, b2⟩; have hs2 : w.heap.size + 2 ≤ w2.heap.size := Nat.le_trans hs1 b2.size; have hc2 : ∀ b o, b < w.heap.size + 2 → w2.cell? ⟨b, o, none⟩ = _ := fun b o h => b2.cell (p := ⟨b, o, none⟩) (Nat.lt_of_lt_of_le h hs1))
    | (go_at_call 61; with_reducible refine (K3.out _).mono ?_; rintro e w3 ⟨rfl, b3⟩; have hs3 : w.heap.size + 2 ≤ w3.heap.size := Nat.le_trans hs2 b3.size; have hc3 : ∀ b o, b < w.heap.size + 2 → w3.cell? ⟨b, o, none⟩ = _ := fun b o h => b3.cell (p := ⟨b, o, none⟩) (Nat.lt_of_lt_of_le h hs2))
    | (go_at_call 61; with_reducible refine (K4.out _).mono ?_; rintro e w4 ⟨rfl, b4⟩; have hs4 : w.heap.size + 2 ≤ w4.heap.size := Nat.le_trans hs3 b4.size; have hc4 : ∀ b o, b < w.heap.size + 2 → w4.cell? ⟨b, o, none⟩ = _ := fun b o h => b4.cell (p := ⟨b, o, none⟩) (Nat.lt_of_lt_of_le h hs3)))
  go_wp2
  go_ret
  exact ⟨ret_bool HA.out.symm, (((Joins.below_alloc2 _ _ _).drew.trans (b1.mono (by simp; omega))).trans (b2.mono (by omega))).trans ((b3.mono (by omega)).trans (b4.mono (by omega)))⟩
theorem alikeL_none {L : List PB} (h : L.length = 0) : alikeL L = false := by
 rw [List.length_eq_zero_iff.1 h]; rfl
theorem alikeL_many {L : List PB} (h : 40 < L.length) : alikeL L = false := by
 match L, h with
 | x :: r, h =>
  unfold alikeL
  rw [Bool.and_eq_false_iff]
  left
  simp at h ⊢
  omega
theorem alikeL_yes {L : List PB} {x0 : PB} (h0 : L[0]? = some x0) (hl : L.length ≤ 40) (h : ∀ (j : Nat) x, L[j]? = some x → alikeB x0 x = true) : alikeL L = true := by
 match L, h0, hl, h with
 | x :: r, h0, hl, h =>
  simp at h0
  subst h0
  unfold alikeL
  rw [Bool.and_eq_true, List.all_eq_true]
  refine ⟨by simpa using hl, fun y hy => ?_⟩
  obtain ⟨j, hj⟩ := List.getElem?_of_mem hy
  exact h j y hj
theorem alikeL_no {L : List PB} {x0 x : PB} {j : Nat} (h0 : L[0]? = some x0) (hj : L[j]? = some x) (h : alikeB x0 x = false) : alikeL L = false := by
 match L, h0, hj with
 | y :: r, h0, hj =>
  simp at h0
  subst h0
  unfold alikeL
  rw [Bool.and_eq_false_iff]
  right
  rw [← Bool.not_eq_true, List.all_eq_true]
  intro hall
  have := hall x (List.mem_of_getElem? hj)
  rw [h] at this
  cases this
set_option maxHeartbeats 6400000 in
theorem mayJoin_any (g cl : Nat) (xs : List RV) (w : World) (hL : RL w g xs) (hm : xs.length ≤ 9223372036854775807) :
  Calls Tryz.prog 41 #[.slice (some ⟨g, 0, none⟩) xs.length cl] w fun e w' => e = .returned (.bool (alikeL (xs.map RV.key))) ∧ Below w.heap.size w w' := by
 by_cases h0 : xs.length = 0
 ·have HA : Hid (alikeL (xs.map RV.key) = false) := alikeL_none (by simpa using h0)
  have hz : ((xs.length : Int) == 0) = true := by simp [h0]
  clear h0 hL
  go_enter Tryz.func41, Tryz.ntmps41
  go_wp2
  go_ret
  exact ⟨ret_bool HA.out.symm, Below.refl _ _⟩
 have hz : ((xs.length : Int) == 0) = false := by rw [beq_eq_false_iff_ne]; omega
 by_cases h40 : 40 < xs.length
 ·have HA : Hid (alikeL (xs.map RV.key) = false) := alikeL_many (by simpa using h40)
  have h40' : (40 : Int) < (xs.length : Int) := by omega
  clear h0 hL h40
  go_enter Tryz.func41, Tryz.ntmps41
  go_wp2
  go_ret
  exact ⟨ret_bool HA.out.symm, Below.refl _ _⟩
 have h40' : ¬ (40 : Int) < (xs.length : Int) := by omega
 obtain ⟨x0, hx0⟩ := get_of_lt (show 0 < xs.length by omega)
 have HX0 : Hid (xs[0]? = some x0) := hx0
 have HL : Hid (RL w g xs) := hL
 have hp0 := (hL.each x0 (List.mem_of_getElem? hx0)).len
 have hpos : (0 : Int) < (xs.length : Int) := by omega
 have hposn : 0 < xs.length := by omega
 have hne : xs ≠ [] := fun e => by rw [e] at hposn; simp at hposn
 clear hx0 hL
 go_enter Tryz.func41, Tryz.ntmps41
 go_wp2
 go_loopw [15] (fun i wr => ∃ k : Nat, k ≤ xs.length ∧ i = .int .i64 k ∧ Hid (∀ j x, j < k → xs[j]? = some x → alikeB x0.key x.key = true) ∧ Hid (Below w.heap.size w wr)) (fun i _ => xs.length - (intOf i).toNat)
 case atStart => exact ⟨0, by omega, rfl, fun j x hj => by omega, Below.refl _ _⟩
 case round =>
  obtain ⟨k, hk, rfl, HC, HB⟩ := hrel
  have hsz := HB.out.size
  by_cases hlt : k < xs.length
  ·obtain ⟨x, hx⟩ := get_of_lt hlt
   have HX : Hid (xs[k]? = some x) := hx
   have Lr := HL.out.below HB.out
   have hp := (Lr.each x (List.mem_of_getElem? hx)).len
   have hgr := Lr.lt
   have H0 := (Lr.elem 0 x0 HX0.out).head
   have Hk := Lr.elem k x hx
   have hi : (k : Int) < (xs.length : Int) := by omega
   clear hx Lr
   obtain ⟨e0, e1, e2, e3, e4, e5, e6, e7, e8⟩ := id H0
   obtain ⟨c0, c1, c2, c3, c4, c5, c6, c7, c8⟩ := id Hk
   have hgn : g < wr.heap.size + 1 := by omega
   have KA : Hid (∀ W : World, Calls Tryz.prog 73 #[.agg #[.int .i64 x0.p.src, .int .i64 x0.p.dst, .int .i64 x0.p.kind, .int .i64 x0.p.id, .int .i64 x0.p.hops, .bool x0.p.whole, .int .i64 x0.p.off, .bool x0.p.more, .slice x0.a x0.zs.length x0.c], .agg #[.int .i64 x.p.src, .int .i64 x.p.dst, .int .i64 x.p.kind, .int .i64 x.p.id, .int .i64 x.p.hops, .bool x.p.whole, .int .i64 x.p.off, .bool x.p.more, .slice x.a x.zs.length x.c]] W fun e w' => e = .returned (.bool (alikeB x0.key x.key)) ∧ Below W.heap.size W w') := fun W => implAlike_any x0.p x.p x0.a x.a x0.zs x.zs x0.c x.c W hp0 hp
   cases hal : alikeB x0.key x.key
   ·have HN : Hid (alikeL (xs.map RV.key) = false) := alikeL_no (map_get HX0.out) (map_get HX.out) hal
    rw [hal] at KA
    clear hal
    go_wp2
    go_region_held3 (fun w' => w'.cell? ⟨g, 0, none⟩ = some (.int .i64 x0.p.src) ∧ w'.cell? ⟨g, 1, none⟩ = some (.int .i64 x0.p.dst) ∧ w'.cell? ⟨g, 2, none⟩ = some (.int .i64 x0.p.kind) ∧ w'.cell? ⟨g, 3, none⟩ = some (.int .i64 x0.p.id) ∧ w'.cell? ⟨g, 4, none⟩ = some (.int .i64 x0.p.hops) ∧ w'.cell? ⟨g, 5, none⟩ = some (.bool x0.p.whole) ∧ w'.cell? ⟨g, 6, none⟩ = some (.int .i64 x0.p.off) ∧ w'.cell? ⟨g, 7, none⟩ = some (.bool x0.p.more) ∧ w'.cell? ⟨g, 8, none⟩ = some (.slice x0.a x0.zs.length x0.c) ∧ w'.cell? ⟨wr.heap.size, 0, none⟩ = some (.int .i64 x.p.src) ∧ w'.cell? ⟨wr.heap.size, 1, none⟩ = some (.int .i64 x.p.dst) ∧ w'.cell? ⟨wr.heap.size, 2, none⟩ = some (.int .i64 x.p.kind) ∧ w'.cell? ⟨wr.heap.size, 3, none⟩ = some (.int .i64 x.p.id) ∧ w'.cell? ⟨wr.heap.size, 4, none⟩ = some (.int .i64 x.p.hops) ∧ w'.cell? ⟨wr.heap.size, 5, none⟩ = some (.bool x.p.whole) ∧ w'.cell? ⟨wr.heap.size, 6, none⟩ = some (.int .i64 x.p.off) ∧ w'.cell? ⟨wr.heap.size, 7, none⟩ = some (.bool x.p.more) ∧ w'.cell? ⟨wr.heap.size, 8, none⟩ = some (.slice x.a x.zs.length x.c)) (go_keep)
     (first
      | (go_at_call 73; with_reducible refine (KA.out _).mono ?_; rintro e w1 ⟨rfl, b1⟩; have hc1 : ∀ b o, b < wr.heap.size + 1 → w1.cell? ⟨b, o, none⟩ = _ := fun b o h => b1.cell (p := ⟨b, o, none⟩) (by simpa using h)))
    go_wp2
    go_ret
    exact ⟨ret_bool HN.out.symm, (HB.out.alloc hsz _).drew.trans (b1.mono (by simp; omega))⟩
   ·have HY : Hid (alikeB x0.key x.key = true) := hal
    rw [hal] at KA
    clear hal
    go_wp2
    go_region_held3 (fun w' => w'.cell? ⟨g, 0, none⟩ = some (.int .i64 x0.p.src) ∧ w'.cell? ⟨g, 1, none⟩ = some (.int .i64 x0.p.dst) ∧ w'.cell? ⟨g, 2, none⟩ = some (.int .i64 x0.p.kind) ∧ w'.cell? ⟨g, 3, none⟩ = some (.int .i64 x0.p.id) ∧ w'.cell? ⟨g, 4, none⟩ = some (.int .i64 x0.p.hops) ∧ w'.cell? ⟨g, 5, none⟩ = some (.bool x0.p.whole) ∧ w'.cell? ⟨g, 6, none⟩ = some (.int .i64 x0.p.off) ∧ w'.cell? ⟨g, 7, none⟩ = some (.bool x0.p.more) ∧ w'.cell? ⟨g, 8, none⟩ = some (.slice x0.a x0.zs.length x0.c) ∧ w'.cell? ⟨wr.heap.size, 0, none⟩ = some (.int .i64 x.p.src) ∧ w'.cell? ⟨wr.heap.size, 1, none⟩ = some (.int .i64 x.p.dst) ∧ w'.cell? ⟨wr.heap.size, 2, none⟩ = some (.int .i64 x.p.kind) ∧ w'.cell? ⟨wr.heap.size, 3, none⟩ = some (.int .i64 x.p.id) ∧ w'.cell? ⟨wr.heap.size, 4, none⟩ = some (.int .i64 x.p.hops) ∧ w'.cell? ⟨wr.heap.size, 5, none⟩ = some (.bool x.p.whole) ∧ w'.cell? ⟨wr.heap.size, 6, none⟩ = some (.int .i64 x.p.off) ∧ w'.cell? ⟨wr.heap.size, 7, none⟩ = some (.bool x.p.more) ∧ w'.cell? ⟨wr.heap.size, 8, none⟩ = some (.slice x.a x.zs.length x.c)) (go_keep)
     (first
      | (go_at_call 73; with_reducible refine (KA.out _).mono ?_; rintro e w1 ⟨rfl, b1⟩; have hc1 : ∀ b o, b < wr.heap.size + 1 → w1.cell? ⟨b, o, none⟩ = _ := fun b o h => b1.cell (p := ⟨b, o, none⟩) (by simpa using h)))
    go_wp2
    go_roundw
    case rel =>
     refine ⟨k + 1, by omega, by go_num, fun j y hj hy => ?_, (HB.out.alloc hsz _).drew.trans (b1.mono (by simp; omega))⟩
     rcases Nat.lt_or_ge j k with h | h
     ·exact HC.out j y h hy
     ·obtain rfl : j = k := by omega
      rw [HX.out] at hy
      obtain rfl := Option.some.inj hy
      exact HY.out
    case measure => simp [intOf]; omega
  ·go_wp2
   go_ret
   have ek : k = xs.length := by omega
   subst ek
   refine ⟨ret_bool (alikeL_yes (x0 := x0.key) (map_get HX0.out) (by simp; omega) fun j y hj => ?_).symm, HB.out⟩
   rw [List.getElem?_map] at hj
   cases hxj : xs[j]? with
   | none => rw [hxj] at hj; cases hj
   | some z =>
    rw [hxj] at hj
    obtain rfl := Option.some.inj hj
    refine HC.out j z ?_ hxj
    rcases Nat.lt_or_ge j xs.length with h | h
    ·exact h
    ·rw [List.getElem?_eq_none h] at hxj; cases hxj
def behindB (x y : PB) : Bool := !y.1.more && decide (endOf y < endOf x)
def fromI (x y : PB) : Int := if y.1.off > x.1.off then y.1.off else x.1.off
def toI (x y : PB) : Int := if endOf y < endOf x then endOf y else endOf x
def cutD (x y z : PB) : List Int := (z.2.drop (fromI x y - z.1.off).toNat).take (toI x y - fromI x y).toNat
def differB (x y : PB) : Bool := decide (fromI x y < toI x y) && !((strOfNums (cutD x y x)).toList == (strOfNums (cutD x y y)).toList)
def disB (x y : PB) : Bool := differB x y || behindB x y || behindB y x
set_option maxHeartbeats 400000 in
theorem endOf_any (p : Pk) (a : Option Addr) (len c : Nat) (w : World) (h0 : 0 ≤ p.off) (h1 : p.off ≤ 128) (hl : len ≤ 1048576) :
  Calls Tryz.prog 77 #[p.val (.slice a len c)] w fun e w' => e = .returned (.int .i64 (p.off + len)) ∧ Below w.heap.size w w' := by
 unfold Pk.val
 go_enter Tryz.func77, Tryz.ntmps77
 go_wp2
 go_ret
 exact ⟨rfl, zBa _ _⟩
set_option maxHeartbeats 800000 in
theorem equal_any (b1 o1 b2 o2 n c1 c2 : Nat) (xs ys : List Int) (w : World) (hx : xs.length = n) (hy : ys.length = n)
  (h1 : ∀ i, i < n → w.cell? ⟨b1, o1 + i, none⟩ = some (.int .u8 (xs.getD i 0))) (h2 : ∀ i, i < n → w.cell? ⟨b2, o2 + i, none⟩ = some (.int .u8 (ys.getD i 0))) :
  Calls Tryz.prog 101 #[.slice (some ⟨b1, o1, none⟩) n c1, .slice (some ⟨b2, o2, none⟩) n c2] w fun e w' => e = .returned (.bool ((strOfNums xs).toList == (strOfNums ys).toList)) ∧ w' = w := by
 have e1 := run_convert_bytes_arg (P := Tryz.prog) w 22 5 Tryz.underlying22 Tryz.underlying5 b1 o1 n c1 xs hx h1 9 Tryz.underlying9
 have e2 := run_convert_bytes_arg (P := Tryz.prog) w 22 5 Tryz.underlying22 Tryz.underlying5 b2 o2 n c2 ys hy h2 9 Tryz.underlying9
 clear h1 h2
 go_enter Tryz.func101, Tryz.ntmps101
 go_wp2
 go_ret
 exact ⟨rfl, rfl⟩
set_option maxHeartbeats 1600000 in
theorem endsBehind_any (p q : Pk) (a b : Option Addr) (zs ys : List Int) (c d : Nat) (w : World) (hp0 : 0 ≤ p.off) (hp1 : p.off ≤ 128) (hq0 : 0 ≤ q.off) (hq1 : q.off ≤ 128) (hp : zs.length ≤ 1048576) (hq : ys.length ≤ 1048576) :
  Calls Tryz.prog 76 #[p.val (.slice a zs.length c), q.val (.slice b ys.length d)] w fun e w' => e = .returned (.bool (behindB (p, zs) (q, ys))) ∧ Below w.heap.size w w' := by
 obtain ⟨s2, d2, k2, i2, h2, w2, o2, m2⟩ := q
 cases m2
 ·have HB : Hid (behindB (p, zs) (⟨s2, d2, k2, i2, h2, w2, o2, false⟩, ys) = decide (o2 + (ys.length : Int) < p.off + (zs.length : Int))) := (show behindB (p, zs) (⟨s2, d2, k2, i2, h2, w2, o2, false⟩, ys) = _ by simp [behindB, endOf]; rfl)
  unfold Pk.val
  go_enter Tryz.func76, Tryz.ntmps76
  go_wp2
  go_region_held3 (fun w' => w.heap.size + 2 ≤ w'.heap.size ∧ w'.cell? ⟨w.heap.size, 0, none⟩ = some (.int .i64 p.src) ∧ w'.cell? ⟨w.heap.size, 1, none⟩ = some (.int .i64 p.dst) ∧ w'.cell? ⟨w.heap.size, 2, none⟩ = some (.int .i64 p.kind) ∧ w'.cell? ⟨w.heap.size, 3, none⟩ = some (.int .i64 p.id) ∧ w'.cell? ⟨w.heap.size, 4, none⟩ = some (.int .i64 p.hops) ∧ w'.cell? ⟨w.heap.size, 5, none⟩ = some (.bool p.whole) ∧ w'.cell? ⟨w.heap.size, 6, none⟩ = some (.int .i64 p.off) ∧ w'.cell? ⟨w.heap.size, 7, none⟩ = some (.bool p.more) ∧ w'.cell? ⟨w.heap.size, 8, none⟩ = some (.slice a zs.length c) ∧ w'.cell? ⟨w.heap.size + 1, 0, none⟩ = some (.int .i64 s2) ∧ w'.cell? ⟨w.heap.size + 1, 1, none⟩ = some (.int .i64 d2) ∧ w'.cell? ⟨w.heap.size + 1, 2, none⟩ = some (.int .i64 k2) ∧ w'.cell? ⟨w.heap.size + 1, 3, none⟩ = some (.int .i64 i2) ∧ w'.cell? ⟨w.heap.size + 1, 4, none⟩ = some (.int .i64 h2) ∧ w'.cell? ⟨w.heap.size + 1, 5, none⟩ = some (.bool w2) ∧ w'.cell? ⟨w.heap.size + 1, 6, none⟩ = some (.int .i64 o2) ∧ w'.cell? ⟨w.heap.size + 1, 7, none⟩ = some (.bool false) ∧ w'.cell? ⟨w.heap.size + 1, 8, none⟩ = some (.slice b ys.length d)) (go_keep)
   (first
    | (go_at_call 77; refine (endOf_any p a zs.length c _ hp0 hp1 hp).mono ?_; rintro e w3 ⟨rfl, b3⟩; have hc3 : ∀ b o, b < w.heap.size + 2 → w3.cell? ⟨b, o, none⟩ = _ := fun b o h => b3.cell (p := ⟨b, o, none⟩) (by simpa using h); have hs3 : w.heap.size + 2 ≤ w3.heap.size := Nat.le_trans (by simp) b3.size)
    | (go_at_call 77; refine (endOf_any ⟨s2, d2, k2, i2, h2, w2, o2, false⟩ b ys.length d _ hq0 hq1 hq).mono ?_; rintro e w4 ⟨rfl, b4⟩; have hc4 : ∀ b o, b < w.heap.size + 2 → w4.cell? ⟨b, o, none⟩ = _ := fun b o h => b4.cell (p := ⟨b, o, none⟩) (Nat.lt_of_lt_of_le h hs3); have hs4 : w.heap.size + 2 ≤ w4.heap.size := Nat.le_trans hs3 b4.size))
  go_wp2
  go_ret
  exact ⟨ret_bool HB.out.symm, ((Joins.below_alloc2 _ _ _).drew.trans (b3.mono (by simp; omega))).trans (b4.mono (by omega))⟩
 ·have HB : Hid (behindB (p, zs) (⟨s2, d2, k2, i2, h2, w2, o2, true⟩, ys) = false) := (show behindB (p, zs) (⟨s2, d2, k2, i2, h2, w2, o2, true⟩, ys) = _ by simp [behindB])
  unfold Pk.val
  go_enter Tryz.func76, Tryz.ntmps76
  go_wp2
  go_quiet (fail)
  go_wp2
  go_ret
  exact ⟨ret_bool HB.out.symm, (Joins.below_alloc2 _ _ _).trans (Joins.below_draws _ _ _)⟩
set_option maxHeartbeats 6400000 in
theorem differ_any (p q : Pk) (a b : Option Addr) (zs ys : List Int) (c d : Nat) (w : World) (hp0 : 0 ≤ p.off) (hp1 : p.off ≤ 128) (hq0 : 0 ≤ q.off) (hq1 : q.off ≤ 128) (hx : ROk w ⟨p, a, c, zs⟩) (hy : ROk w ⟨q, b, d, ys⟩) :
  Calls Tryz.prog 75 #[p.val (.slice a zs.length c), q.val (.slice b ys.length d)] w fun e w' => e = .returned (.bool (differB (p, zs) (q, ys))) ∧ Below w.heap.size w w' := by
 obtain ⟨hpr, hp, hpc, hpm, -⟩ := hx
 obtain ⟨hqr, hq, hqc, hqm, -⟩ := hy
 simp only at hpr hp hpc hpm hqr hq hqc hqm
 obtain ⟨f, hf⟩ : ∃ f, (if p.off < q.off then q.off else p.off) = f := ⟨_, rfl⟩
 obtain ⟨t, ht⟩ : ∃ t, (if q.off + (ys.length : Int) < p.off + (zs.length : Int) then q.off + (ys.length : Int) else p.off + (zs.length : Int)) = t := ⟨_, rfl⟩
 have F : fromI (p, zs) (q, ys) = f := hf
 have T : toI (p, zs) (q, ys) = t := ht
 have f1 : p.off ≤ f := by rw [← hf]; split <;> omega
 have f2 : q.off ≤ f := by rw [← hf]; split <;> omega
 have f3 : f ≤ 128 := by rw [← hf]; split <;> omega
 have t1 : t ≤ p.off + zs.length := by rw [← ht]; split <;> omega
 have t2 : t ≤ q.off + ys.length := by rw [← ht]; split <;> omega
 have t3 : 0 ≤ t := by rw [← ht]; split <;> omega
 have HRp : Hid (RdB w a zs.length zs) := hpr
 have HRq : Hid (RdB w b ys.length ys) := hqr
 have HF : Hid (fromI (p, zs) (q, ys) = f ∧ toI (p, zs) (q, ys) = t) := ⟨F, T⟩
 clear hpr hqr F T
 unfold Pk.val
 go_enter Tryz.func75, Tryz.ntmps75
 go_upto_region 1 with fail
 go_cut [5, 6] (fun x y wx => x = .int .i64 f ∧ y = .int .i64 t ∧ Hid (Below (w.heap.size + 2) ((w.alloc (.cells (pcells p (.slice a zs.length c)) 29)).alloc (.cells (pcells q (.slice b ys.length d)) 29)) wx))
 case first =>
  go_region_held3 (fun w' => w.heap.size + 2 ≤ w'.heap.size ∧ w'.cell? ⟨w.heap.size, 0, none⟩ = some (.int .i64 p.src) ∧ w'.cell? ⟨w.heap.size, 1, none⟩ = some (.int .i64 p.dst) ∧ w'.cell? ⟨w.heap.size, 2, none⟩ = some (.int .i64 p.kind) ∧ w'.cell? ⟨w.heap.size, 3, none⟩ = some (.int .i64 p.id) ∧ w'.cell? ⟨w.heap.size, 4, none⟩ = some (.int .i64 p.hops) ∧ w'.cell? ⟨w.heap.size, 5, none⟩ = some (.bool p.whole) ∧ w'.cell? ⟨w.heap.size, 6, none⟩ = some (.int .i64 p.off) ∧ w'.cell? ⟨w.heap.size, 7, none⟩ = some (.bool p.more) ∧ w'.cell? ⟨w.heap.size, 8, none⟩ = some (.slice a zs.length c) ∧ w'.cell? ⟨w.heap.size + 1, 0, none⟩ = some (.int .i64 q.src) ∧ w'.cell? ⟨w.heap.size + 1, 1, none⟩ = some (.int .i64 q.dst) ∧ w'.cell? ⟨w.heap.size + 1, 2, none⟩ = some (.int .i64 q.kind) ∧ w'.cell? ⟨w.heap.size + 1, 3, none⟩ = some (.int .i64 q.id) ∧ w'.cell? ⟨w.heap.size + 1, 4, none⟩ = some (.int .i64 q.hops) ∧ w'.cell? ⟨w.heap.size + 1, 5, none⟩ = some (.bool q.whole) ∧ w'.cell? ⟨w.heap.size + 1, 6, none⟩ = some (.int .i64 q.off) ∧ w'.cell? ⟨w.heap.size + 1, 7, none⟩ = some (.bool q.more) ∧ w'.cell? ⟨w.heap.size + 1, 8, none⟩ = some (.slice b ys.length d)) (go_keep)
   (first
    | (go_at_call 77; refine (endOf_any p a zs.length c _ hp0 hp1 hp).mono ?_; rintro e w3 ⟨rfl, b3⟩; have hc3 : ∀ b o, b < w.heap.size + 2 → w3.cell? ⟨b, o, none⟩ = _ := fun b o h => b3.cell (p := ⟨b, o, none⟩) (by simpa using h); have hs3 : w.heap.size + 2 ≤ w3.heap.size := Nat.le_trans (by simp) b3.size)
    | (go_at_call 77; refine (endOf_any q b ys.length d _ hq0 hq1 hq).mono ?_; rintro e w4 ⟨rfl, b4⟩; have hc4 : ∀ b o, b < w.heap.size + 2 → w4.cell? ⟨b, o, none⟩ = _ := fun b o h => b4.cell (p := ⟨b, o, none⟩) (Nat.lt_of_lt_of_le h hs3); have hs4 : w.heap.size + 2 ≤ w4.heap.size := Nat.le_trans hs3 b4.size))
  all_goals
   go_wp2
   go_meet
   case rel =>
    refine ⟨rfl, rfl, ?_⟩
    exact (((draw1 _).trans b3).mono (by simp)).trans (b4.mono hs3)
 case rest =>
  obtain ⟨rfl, rfl, B4⟩ := hcut
  have X4 : Boxed wc w.heap.size p (.slice a zs.length c) := ((Boxed.new w p (.slice a zs.length c) 29).below (zBa _ _)).upto B4.out (by omega)
  have Y4 : Boxed wc (w.heap.size + 1) q (.slice b ys.length d) := (Boxed.newAt (w.alloc _) (w.heap.size + 1) q (.slice b ys.length d) 29 (by simp)).upto B4.out (by omega)
  have HB : Hid (Below w.heap.size w wc) := (Joins.below_alloc2 _ _ _).trans (B4.out.mono (by omega))
  clear B4 hf ht
  obtain ⟨l0, c0, c1, c2, c3, c4, c5, c6, c7, c8⟩ := id X4
  obtain ⟨l1, k0, k1, k2, k3, k4, k5, k6, k7, k8⟩ := id Y4
  by_cases hft : f < t
  ·obtain ⟨m1, hm1⟩ : ∃ m : Nat, f - p.off = (m : Int) := ⟨(f - p.off).toNat, by omega⟩
   obtain ⟨m2, hm2⟩ : ∃ m : Nat, f - q.off = (m : Int) := ⟨(f - q.off).toNat, by omega⟩
   obtain ⟨n, hn⟩ : ∃ n : Nat, t - f = (n : Int) := ⟨(t - f).toNat, by omega⟩
   have hn1 : t - p.off = ((m1 + n : Nat) : Int) := by omega
   have hn2 : t - q.off = ((m2 + n : Nat) : Int) := by omega
   obtain ⟨-, h0 | ⟨ba, oa, rfl, hba, hca⟩⟩ := HRp.out
   ·omega
   obtain ⟨-, h0 | ⟨bb, ob, rfl, hbb, hcb⟩⟩ := HRq.out
   ·omega
   have HD : Hid (differB (p, zs) (q, ys) = !((strOfNums ((zs.drop m1).take n)).toList == (strOfNums ((ys.drop m2).take n)).toList)) := by
    show differB (p, zs) (q, ys) = _
    unfold differB cutD
    rw [HF.out.1, HF.out.2]
    simp only [hm1, hm2, hn, Int.toNat_natCast]
    simp [hft]
   have E1 : Hid (∀ W : World, Below w.heap.size w W → ∀ i, i < n → W.cell? ⟨ba, oa + m1 + i, none⟩ = some (.int .u8 (((zs.drop m1).take n).getD i 0))) := fun W hW i hi => by
    rw [hW.cell (p := ⟨ba, oa + m1 + i, none⟩) hba, Nat.add_assoc, hca (m1 + i) (by omega)]
    simp [List.getD, List.getElem?_drop, hi]
   have E2 : Hid (∀ W : World, Below w.heap.size w W → ∀ i, i < n → W.cell? ⟨bb, ob + m2 + i, none⟩ = some (.int .u8 (((ys.drop m2).take n).getD i 0))) := fun W hW i hi => by
    rw [hW.cell (p := ⟨bb, ob + m2 + i, none⟩) hbb, Nat.add_assoc, hcb (m2 + i) (by omega)]
    simp [List.getD, List.getElem?_drop, hi]
   have L1 : ((zs.drop m1).take n).length = n := by simp; omega
   have L2 : ((ys.drop m2).take n).length = n := by simp; omega
   have i1 : (m1 : Int) ≤ ((m1 + n : Nat) : Int) := by omega
   have i2 : ((m1 + n : Nat) : Int) ≤ (c : Int) := by omega
   have i3 : (m2 : Int) ≤ ((m2 + n : Nat) : Int) := by omega
   have i4 : ((m2 + n : Nat) : Int) ≤ (d : Int) := by omega
   have i5 : m1 < c := by omega
   have i6 : m2 < d := by omega
   clear hca hcb hba hbb hn
   go_wp2
   go_quiet ((go_at_call 101; exact Calls.quiet_of_same (equal_any ba (oa + m1) bb (ob + m2) n _ _ _ _ _ L1 L2 (E1.out _ (HB.out.trans (Joins.below_draws _ _ _))) (E2.out _ (HB.out.trans (Joins.below_draws _ _ _))))))
   go_wp2
   go_ret
   exact ⟨ret_bool HD.out.symm, HB.out.trans (Joins.below_draws _ _ _)⟩
  ·have HD : Hid (differB (p, zs) (q, ys) = false) := by
    show differB (p, zs) (q, ys) = _
    unfold differB
    rw [HF.out.1, HF.out.2]
    simp [hft]
   go_wp2
   go_ret
   exact ⟨ret_bool HD.out.symm, HB.out⟩
end Go.Proofs.YtjbkgmbakjnlhaaGreatDoor
