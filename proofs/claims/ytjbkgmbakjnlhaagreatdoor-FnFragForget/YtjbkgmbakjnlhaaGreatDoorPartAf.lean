import Derived.Test.YtjbkgmbakjnlhaaGreatDoorPartAe
import Derived.Laws.BytesArg
import Derived.Deep.CutRange
import Derived.Deep.DeepCutAuto
import Derived.Lib.Bytes
namespace Go.Proofs.YtjbkgmbakjnlhaaGreatDoor
set_option maxRecDepth 100000
open Go.RowKit
theorem alikeL_none {L : List PB} (h : L.length = 0) : alikeL L = false := by
 rw [List.length_eq_zero_iff.1 h]; rfl
theorem alikeL_many {L : List PB} (h : 40 < L.length) : alikeL L = false := by
 match L, h with
 | x :: r, h =>
  unfold alikeL
  rw [Bool.and_eq_false_iff]
  left
  simp at h ⊢
  omega
theorem alikeL_yes {L : List PB} {x0 : PB} (h0 : L[0]? = some x0) (hl : L.length ≤ 40) (h : ∀ (j : Nat) x, L[j]? = some x → alikeB x0 x = true) : alikeL L = true := by
 match L, h0, hl, h with
 | x :: r, h0, hl, h =>
  simp at h0
  subst h0
  unfold alikeL
  rw [Bool.and_eq_true, List.all_eq_true]
  refine ⟨by simpa using hl, fun y hy => ?_⟩
  obtain ⟨j, hj⟩ := List.getElem?_of_mem hy
  exact h j y hj
theorem alikeL_no {L : List PB} {x0 x : PB} {j : Nat} (h0 : L[0]? = some x0) (hj : L[j]? = some x) (h : alikeB x0 x = false) : alikeL L = false := by
 match L, h0, hj with
 | y :: r, h0, hj =>
  simp at h0
  subst h0
  unfold alikeL
  rw [Bool.and_eq_false_iff]
  right
  rw [← Bool.not_eq_true, List.all_eq_true]
  intro hall
  have := hall x (List.mem_of_getElem? hj)
  rw [h] at this
  cases this
set_option maxHeartbeats 6400000 in
theorem mayJoin_any (g cl : Nat) (xs : List RV) (w : World) (hL : RL w g xs) (hm : xs.length ≤ 9223372036854775807) :
  Calls Tryz.prog 41 #[.slice (some ⟨g, 0, none⟩) xs.length cl] w fun e w' => e = .returned (.bool (alikeL (xs.map RV.key))) ∧ Below w.heap.size w w' := by
 by_cases h0 : xs.length = 0
 ·have HA : Hid (alikeL (xs.map RV.key) = false) := alikeL_none (by simpa using h0)
  have hz : ((xs.length : Int) == 0) = true := by simp [h0]
  clear h0 hL
  go_enter Tryz.func41, Tryz.ntmps41
  go_wp2
  go_ret
  exact ⟨ret_bool HA.out.symm, Below.refl _ _⟩
 have hz : ((xs.length : Int) == 0) = false := by rw [beq_eq_false_iff_ne]; omega
 by_cases h40 : 40 < xs.length
 ·have HA : Hid (alikeL (xs.map RV.key) = false) := alikeL_many (by simpa using h40)
  have h40' : (40 : Int) < (xs.length : Int) := by omega
  clear h0 hL h40
  go_enter Tryz.func41, Tryz.ntmps41
  go_wp2
  go_ret
  exact ⟨ret_bool HA.out.symm, Below.refl _ _⟩
 have h40' : ¬ (40 : Int) < (xs.length : Int) := by omega
 obtain ⟨x0, hx0⟩ := get_of_lt (show 0 < xs.length by omega)
 have HX0 : Hid (xs[0]? = some x0) := hx0
 have HL : Hid (RL w g xs) := hL
 have hp0 := (hL.each x0 (List.mem_of_getElem? hx0)).len
 have hpos : (0 : Int) < (xs.length : Int) := by omega
 have hposn : 0 < xs.length := by omega
 have hne : xs ≠ [] := fun e => by rw [e] at hposn; simp at hposn
 clear hx0 hL
 go_enter Tryz.func41, Tryz.ntmps41
 go_wp2
 go_loopw [15] (fun i wr => ∃ k : Nat, k ≤ xs.length ∧ i = .int .i64 k ∧ Hid (∀ j x, j < k → xs[j]? = some x → alikeB x0.key x.key = true) ∧ Hid (Below w.heap.size w wr)) (fun i _ => xs.length - (intOf i).toNat)
 case atStart => exact ⟨0, by omega, rfl, fun j x hj => by omega, Below.refl _ _⟩
 case round =>
  obtain ⟨k, hk, rfl, HC, HB⟩ := hrel
  have hsz := HB.out.size
  by_cases hlt : k < xs.length
  ·obtain ⟨x, hx⟩ := get_of_lt hlt
   have HX : Hid (xs[k]? = some x) := hx
   have Lr := HL.out.below HB.out
   have hp := (Lr.each x (List.mem_of_getElem? hx)).len
   have hgr := Lr.lt
   have H0 := (Lr.elem 0 x0 HX0.out).head
   have Hk := Lr.elem k x hx
   have hi : (k : Int) < (xs.length : Int) := by omega
   clear hx Lr
   obtain ⟨e0, e1, e2, e3, e4, e5, e6, e7, e8⟩ := id H0
   obtain ⟨c0, c1, c2, c3, c4, c5, c6, c7, c8⟩ := id Hk
   have hgn : g < wr.heap.size + 1 := by omega
   have KA : Hid (∀ W : World, Calls Tryz.prog 73 #[.agg #[.int .i64 x0.p.src, .int .i64 x0.p.dst, .int .i64 x0.p.kind, .int .i64 x0.p.id, .int .i64 x0.p.hops, .bool x0.p.whole, .int .i64 x0.p.off, .bool x0.p.more, .slice x0.a x0.zs.length x0.c], .agg #[.int .i64 x.p.src, .int .i64 x.p.dst, .int .i64 x.p.kind, .int .i64 x.p.id, .int .i64 x.p.hops, .bool x.p.whole, .int .i64 x.p.off, .bool x.p.more, .slice x.a x.zs.length x.c]] W fun e w' => e = .returned (.bool (alikeB x0.key x.key)) ∧ Below W.heap.size W w') := fun W => implAlike_any x0.p x.p x0.a x.a x0.zs x.zs x0.c x.c W hp0 hp
   cases hal : alikeB x0.key x.key
   ·have HN : Hid (alikeL (xs.map RV.key) = false) := alikeL_no (map_get HX0.out) (map_get HX.out) hal
    rw [hal] at KA
    clear hal
    go_wp2
    go_region_held3 (fun w' => w'.cell? ⟨g, 0, none⟩ = some (.int .i64 x0.p.src) ∧ w'.cell? ⟨g, 1, none⟩ = some (.int .i64 x0.p.dst) ∧ w'.cell? ⟨g, 2, none⟩ = some (.int .i64 x0.p.kind) ∧ w'.cell? ⟨g, 3, none⟩ = some (.int .i64 x0.p.id) ∧ w'.cell? ⟨g, 4, none⟩ = some (.int .i64 x0.p.hops) ∧ w'.cell? ⟨g, 5, none⟩ = some (.bool x0.p.whole) ∧ w'.cell? ⟨g, 6, none⟩ = some (.int .i64 x0.p.off) ∧ w'.cell? ⟨g, 7, none⟩ = some (.bool x0.p.more) ∧ w'.cell? ⟨g, 8, none⟩ = some (.slice x0.a x0.zs.length x0.c) ∧ w'.cell? ⟨wr.heap.size, 0, none⟩ = some (.int .i64 x.p.src) ∧ w'.cell? ⟨wr.heap.size, 1, none⟩ = some (.int .i64 x.p.dst) ∧ w'.cell? ⟨wr.heap.size, 2, none⟩ = some (.int .i64 x.p.kind) ∧ w'.cell? ⟨wr.heap.size, 3, none⟩ = some (.int .i64 x.p.id) ∧ w'.cell? ⟨wr.heap.size, 4, none⟩ = some (.int .i64 x.p.hops) ∧ w'.cell? ⟨wr.heap.size, 5, none⟩ = some (.bool x.p.whole) ∧ w'.cell? ⟨wr.heap.size, 6, none⟩ = some (.int .i64 x.p.off) ∧ w'.cell? ⟨wr.heap.size, 7, none⟩ = some (.bool x.p.more) ∧ w'.cell? ⟨wr.heap.size, 8, none⟩ = some (.slice x.a x.zs.length x.c)) (go_keep)
     (first
      | (go_at_call 73; with_reducible refine (KA.out _).mono ?_; rintro e w1 ⟨rfl, b1⟩; have hc1 : ∀ b o, b < wr.heap.size + 1 → w1.cell? ⟨b, o, none⟩ = _ := fun b o h => b1.cell (p := ⟨b, o, none⟩) (by simpa using h)))
    go_wp2
    go_ret
    exact ⟨ret_bool HN.out.symm, (HB.out.alloc hsz _).drew.trans (b1.mono (by simp; omega))⟩
   ·have HY : Hid (alikeB x0.key x.key = true) := hal
    rw [hal] at KA
    clear hal
    go_wp2
    go_region_held3 (fun w' => w'.cell? ⟨g, 0, none⟩ = some (.int .i64 x0.p.src) ∧ w'.cell? ⟨g, 1, none⟩ = some (.int .i64 x0.p.dst) ∧ w'.cell? ⟨g, 2, none⟩ = some (.int .i64 x0.p.kind) ∧ w'.cell? ⟨g, 3, none⟩ = some (.int .i64 x0.p.id) ∧ w'.cell? ⟨g, 4, none⟩ = some (.int .i64 x0.p.hops) ∧ w'.cell? ⟨g, 5, none⟩ = some (.bool x0.p.whole) ∧ w'.cell? ⟨g, 6, none⟩ = some (.int .i64 x0.p.off) ∧ w'.cell? ⟨g, 7, none⟩ = some (.bool x0.p.more) ∧ w'.cell? ⟨g, 8, none⟩ = some (.slice x0.a x0.zs.length x0.c) ∧ w'.cell? ⟨wr.heap.size, 0, none⟩ = some (.int .i64 x.p.src) ∧ w'.cell? ⟨wr.heap.size, 1, none⟩ = some (.int .i64 x.p.dst) ∧ w'.cell? ⟨wr.heap.size, 2, none⟩ = some (.int .i64 x.p.kind) ∧ w'.cell? ⟨wr.heap.size, 3, none⟩ = some (.int .i64 x.p.id) ∧ w'.cell? ⟨wr.heap.size, 4, none⟩ = some (.int .i64 x.p.hops) ∧ w'.cell? ⟨wr.heap.size, 5, none⟩ = some (.bool x.p.whole) ∧ w'.cell? ⟨wr.heap.size, 6, none⟩ = some (.int .i64 x.p.off) ∧ w'.cell? ⟨wr.heap.size, 7, none⟩ = some (.bool x.p.more) ∧ w'.cell? ⟨wr.heap.size, 8, none⟩ = some (.slice x.a x.zs.length x.c)) (go_keep)
     (first
      | (go_at_call 73; with_reducible refine (KA.out _).mono ?_; rintro e w1 ⟨rfl, b1⟩; have hc1 : ∀ b o, b < wr.heap.size + 1 → w1.cell? ⟨b, o, none⟩ = _ := fun b o h => b1.cell (p := ⟨b, o, none⟩) (by simpa using h)))
    go_wp2
    go_roundw
    case rel =>
     refine ⟨k + 1, by omega, by go_num, fun j y hj hy => ?_, (HB.out.alloc hsz _).drew.trans (b1.mono (by simp; omega))⟩
     rcases Nat.lt_or_ge j k with h | h
     ·exact HC.out j y h hy
     ·obtain rfl : j = k := by omega
      rw [HX.out] at hy
      obtain rfl := Option.some.inj hy
      exact HY.out
    case measure => simp [intOf]; omega
  ·go_wp2
   go_ret
   have ek : k = xs.length := by omega
   subst ek
   refine ⟨ret_bool (alikeL_yes (x0 := x0.key) (map_get HX0.out) (by simp; omega) fun j y hj => ?_).symm, HB.out⟩
   rw [List.getElem?_map] at hj
   cases hxj : xs[j]? with
   | none => rw [hxj] at hj; cases hj
   | some z =>
    rw [hxj] at hj
    obtain rfl := Option.some.inj hj
    refine HC.out j z ?_ hxj
    rcases Nat.lt_or_ge j xs.length with h | h
    ·exact h
    ·rw [List.getElem?_eq_none h] at hxj; cases hxj
end Go.Proofs.YtjbkgmbakjnlhaaGreatDoor
namespace Go.Proofs.YtjbkgmbakjnlhaaGreatDoor
set_option maxRecDepth 100000
open Go.RowKit
def behindB (x y : PB) : Bool := !y.1.more && decide (endOf y < endOf x)
def fromI (x y : PB) : Int := if y.1.off > x.1.off then y.1.off else x.1.off
def toI (x y : PB) : Int := if endOf y < endOf x then endOf y else endOf x
def cutD (x y z : PB) : List Int := (z.2.drop (fromI x y - z.1.off).toNat).take (toI x y - fromI x y).toNat
def differB (x y : PB) : Bool := decide (fromI x y < toI x y) && !((strOfNums (cutD x y x)).toList == (strOfNums (cutD x y y)).toList)
def disB (x y : PB) : Bool := differB x y || behindB x y || behindB y x
set_option maxHeartbeats 400000 in
theorem endOf_any (p : Pk) (a : Option Addr) (len c : Nat) (w : World) (h0 : 0 ≤ p.off) (h1 : p.off ≤ 128) (hl : len ≤ 1048576) :
  Calls Tryz.prog 77 #[p.val (.slice a len c)] w fun e w' => e = .returned (.int .i64 (p.off + len)) ∧ Below w.heap.size w w' := by
 unfold Pk.val
 go_enter Tryz.func77, Tryz.ntmps77
 go_wp2
 go_ret
 exact ⟨rfl, zBa _ _⟩
set_option maxHeartbeats 800000 in
theorem equal_any (b1 o1 b2 o2 n c1 c2 : Nat) (xs ys : List Int) (w : World) (hx : xs.length = n) (hy : ys.length = n)
  (h1 : ∀ i, i < n → w.cell? ⟨b1, o1 + i, none⟩ = some (.int .u8 (xs.getD i 0))) (h2 : ∀ i, i < n → w.cell? ⟨b2, o2 + i, none⟩ = some (.int .u8 (ys.getD i 0))) :
  Calls Tryz.prog 101 #[.slice (some ⟨b1, o1, none⟩) n c1, .slice (some ⟨b2, o2, none⟩) n c2] w fun e w' => e = .returned (.bool ((strOfNums xs).toList == (strOfNums ys).toList)) ∧ w' = w := by
 have e1 := run_convert_bytes_arg (P := Tryz.prog) w 22 5 Tryz.underlying22 Tryz.underlying5 b1 o1 n c1 xs hx h1 9 Tryz.underlying9
 have e2 := run_convert_bytes_arg (P := Tryz.prog) w 22 5 Tryz.underlying22 Tryz.underlying5 b2 o2 n c2 ys hy h2 9 Tryz.underlying9
 clear h1 h2
 go_enter Tryz.func101, Tryz.ntmps101
 go_wp2
 go_ret
 exact ⟨rfl, rfl⟩
set_option maxHeartbeats 1600000 in
theorem endsBehind_any (p q : Pk) (a b : Option Addr) (zs ys : List Int) (c d : Nat) (w : World) (hp0 : 0 ≤ p.off) (hp1 : p.off ≤ 128) (hq0 : 0 ≤ q.off) (hq1 : q.off ≤ 128) (hp : zs.length ≤ 1048576) (hq : ys.length ≤ 1048576) :
  Calls Tryz.prog 76 #[p.val (.slice a zs.length c), q.val (.slice b ys.length d)] w fun e w' => e = .returned (.bool (behindB (p, zs) (q, ys))) ∧ Below w.heap.size w w' := by
 obtain ⟨s2, d2, k2, i2, h2, w2, o2, m2⟩ := q
 cases m2
 ·have HB : Hid (behindB (p, zs) (⟨s2, d2, k2, i2, h2, w2, o2, false⟩, ys) = decide (o2 + (ys.length : Int) < p.off + (zs.length : Int))) := (show behindB (p, zs) (⟨s2, d2, k2, i2, h2, w2, o2, false⟩, ys) = _ by simp [behindB, endOf]; rfl)
  unfold Pk.val
  go_enter Tryz.func76, Tryz.ntmps76
  go_wp2
  go_region_held3 (fun w' => w.heap.size + 2 ≤ w'.heap.size ∧ w'.cell? ⟨w.heap.size, 0, none⟩ = some (.int .i64 p.src) ∧ w'.cell? ⟨w.heap.size, 1, none⟩ = some (.int .i64 p.dst) ∧ w'.cell? ⟨w.heap.size, 2, none⟩ = some (.int .i64 p.kind) ∧ w'.cell? ⟨w.heap.size, 3, none⟩ = some (.int .i64 p.id) ∧ w'.cell? ⟨w.heap.size, 4, none⟩ = some (.int .i64 p.hops) ∧ w'.cell? ⟨w.heap.size, 5, none⟩ = some (.bool p.whole) ∧ w'.cell? ⟨w.heap.size, 6, none⟩ = some (.int .i64 p.off) ∧ w'.cell? ⟨w.heap.size, 7, none⟩ = some (.bool p.more) ∧ w'.cell? ⟨w.heap.size, 8, none⟩ = some (.slice a zs.length c) ∧ w'.cell? ⟨w.heap.size + 1, 0, none⟩ = some (.int .i64 s2) ∧ w'.cell? ⟨w.heap.size + 1, 1, none⟩ = some (.int .i64 d2) ∧ w'.cell? ⟨w.heap.size + 1, 2, none⟩ = some (.int .i64 k2) ∧ w'.cell? ⟨w.heap.size + 1, 3, none⟩ = some (.int .i64 i2) ∧ w'.cell? ⟨w.heap.size + 1, 4, none⟩ = some (.int .i64 h2) ∧ w'.cell? ⟨w.heap.size + 1, 5, none⟩ = some (.bool w2) ∧ w'.cell? ⟨w.heap.size + 1, 6, none⟩ = some (.int .i64 o2) ∧ w'.cell? ⟨w.heap.size + 1, 7, none⟩ = some (.bool false) ∧ w'.cell? ⟨w.heap.size + 1, 8, none⟩ = some (.slice b ys.length d)) (go_keep)
   (first
    | (go_at_call 77; refine (endOf_any p a zs.length c _ hp0 hp1 hp).mono ?_; rintro e w3 ⟨rfl, b3⟩; have hc3 : ∀ b o, b < w.heap.size + 2 → w3.cell? ⟨b, o, none⟩ = _ := fun b o h => b3.cell (p := ⟨b, o, none⟩) (by simpa using h); have hs3 : w.heap.size + 2 ≤ w3.heap.size := Nat.le_trans (by simp) b3.size)
    | (go_at_call 77; refine (endOf_any ⟨s2, d2, k2, i2, h2, w2, o2, false⟩ b ys.length d _ hq0 hq1 hq).mono ?_; rintro e w4 ⟨rfl, b4⟩; have hc4 : ∀ b o, b < w.heap.size + 2 → w4.cell? ⟨b, o, none⟩ = _ := fun b o h => b4.cell (p := ⟨b, o, none⟩) (Nat.lt_of_lt_of_le h hs3); have hs4 : w.heap.size + 2 ≤ w4.heap.size := Nat.le_trans hs3 b4.size))
  go_wp2
  go_ret
  exact ⟨ret_bool HB.out.symm, ((Joins.below_alloc2 _ _ _).drew.trans (b3.mono (by simp; omega))).trans (b4.mono (by omega))⟩
 ·have HB : Hid (behindB (p, zs) (⟨s2, d2, k2, i2, h2, w2, o2, true⟩, ys) = false) := (show behindB (p, zs) (⟨s2, d2, k2, i2, h2, w2, o2, true⟩, ys) = _ by simp [behindB])
  unfold Pk.val
  go_enter Tryz.func76, Tryz.ntmps76
  go_wp2
  go_quiet (fail)
  go_wp2
  go_ret
  exact ⟨ret_bool HB.out.symm, (Joins.below_alloc2 _ _ _).trans (Joins.below_draws _ _ _)⟩
end Go.Proofs.YtjbkgmbakjnlhaaGreatDoor
namespace Go.Proofs.YtjbkgmbakjnlhaaGreatDoor
set_option maxRecDepth 100000
open Go.RowKit
set_option maxHeartbeats 6400000 in
theorem differ_any (p q : Pk) (a b : Option Addr) (zs ys : List Int) (c d : Nat) (w : World) (hp0 : 0 ≤ p.off) (hp1 : p.off ≤ 128) (hq0 : 0 ≤ q.off) (hq1 : q.off ≤ 128) (hx : ROk w ⟨p, a, c, zs⟩) (hy : ROk w ⟨q, b, d, ys⟩) :
  Calls Tryz.prog 75 #[p.val (.slice a zs.length c), q.val (.slice b ys.length d)] w fun e w' => e = .returned (.bool (differB (p, zs) (q, ys))) ∧ Below w.heap.size w w' := by
 obtain ⟨hpr, hp, hpc, hpm, -⟩ := hx
 obtain ⟨hqr, hq, hqc, hqm, -⟩ := hy
 simp only at hpr hp hpc hpm hqr hq hqc hqm
 obtain ⟨f, hf⟩ : ∃ f, (if p.off < q.off then q.off else p.off) = f := ⟨_, rfl⟩
 obtain ⟨t, ht⟩ : ∃ t, (if q.off + (ys.length : Int) < p.off + (zs.length : Int) then q.off + (ys.length : Int) else p.off + (zs.length : Int)) = t := ⟨_, rfl⟩
 have F : fromI (p, zs) (q, ys) = f := hf
 have T : toI (p, zs) (q, ys) = t := ht
 have f1 : p.off ≤ f := by rw [← hf]; split <;> omega
 have f2 : q.off ≤ f := by rw [← hf]; split <;> omega
 have f3 : f ≤ 128 := by rw [← hf]; split <;> omega
 have t1 : t ≤ p.off + zs.length := by rw [← ht]; split <;> omega
 have t2 : t ≤ q.off + ys.length := by rw [← ht]; split <;> omega
 have t3 : 0 ≤ t := by rw [← ht]; split <;> omega
 have HRp : Hid (RdB w a zs.length zs) := hpr
 have HRq : Hid (RdB w b ys.length ys) := hqr
 have HF : Hid (fromI (p, zs) (q, ys) = f ∧ toI (p, zs) (q, ys) = t) := ⟨F, T⟩
 clear hpr hqr F T
 unfold Pk.val
 go_enter Tryz.func75, Tryz.ntmps75
 go_upto_region 1 with fail
 go_cut [5, 6] (fun x y wx => x = .int .i64 f ∧ y = .int .i64 t ∧ Hid (Below (w.heap.size + 2) ((w.alloc (.cells (pcells p (.slice a zs.length c)) 29)).alloc (.cells (pcells q (.slice b ys.length d)) 29)) wx))
 case first =>
  go_region_held3 (fun w' => w.heap.size + 2 ≤ w'.heap.size ∧ w'.cell? ⟨w.heap.size, 0, none⟩ = some (.int .i64 p.src) ∧ w'.cell? ⟨w.heap.size, 1, none⟩ = some (.int .i64 p.dst) ∧ w'.cell? ⟨w.heap.size, 2, none⟩ = some (.int .i64 p.kind) ∧ w'.cell? ⟨w.heap.size, 3, none⟩ = some (.int .i64 p.id) ∧ w'.cell? ⟨w.heap.size, 4, none⟩ = some (.int .i64 p.hops) ∧ w'.cell? ⟨w.heap.size, 5, none⟩ = some (.bool p.whole) ∧ w'.cell? ⟨w.heap.size, 6, none⟩ = some (.int .i64 p.off) ∧ w'.cell? ⟨w.heap.size, 7, none⟩ = some (.bool p.more) ∧ w'.cell? ⟨w.heap.size, 8, none⟩ = some (.slice a zs.length c) ∧ w'.cell? ⟨w.heap.size + 1, 0, none⟩ = some (.int .i64 q.src) ∧ w'.cell? ⟨w.heap.size + 1, 1, none⟩ = some (.int .i64 q.dst) ∧ w'.cell? ⟨w.heap.size + 1, 2, none⟩ = some (.int .i64 q.kind) ∧ w'.cell? ⟨w.heap.size + 1, 3, none⟩ = some (.int .i64 q.id) ∧ w'.cell? ⟨w.heap.size + 1, 4, none⟩ = some (.int .i64 q.hops) ∧ w'.cell? ⟨w.heap.size + 1, 5, none⟩ = some (.bool q.whole) ∧ w'.cell? ⟨w.heap.size + 1, 6, none⟩ = some (.int .i64 q.off) ∧ w'.cell? ⟨w.heap.size + 1, 7, none⟩ = some (.bool q.more) ∧ w'.cell? ⟨w.heap.size + 1, 8, none⟩ = some (.slice b ys.length d)) (go_keep)
   (first
    | (go_at_call 77; refine (endOf_any p a zs.length c _ hp0 hp1 hp).mono ?_; rintro e w3 ⟨rfl, b3⟩; have hc3 : ∀ b o, b < w.heap.size + 2 → w3.cell? ⟨b, o, none⟩ = _ := fun b o h => b3.cell (p := ⟨b, o, none⟩) (by simpa using h); have hs3 : w.heap.size + 2 ≤ w3.heap.size := Nat.le_trans (by simp) b3.size)
    | (go_at_call 77; refine (endOf_any q b ys.length d _ hq0 hq1 hq).mono ?_; rintro e w4 ⟨rfl, b4⟩; have hc4 : ∀ b o, b < w.heap.size + 2 → w4.cell? ⟨b, o, none⟩ = _ := fun b o h => b4.cell (p := ⟨b, o, none⟩) (Nat.lt_of_lt_of_le h hs3); have hs4 : w.heap.size + 2 ≤ w4.heap.size := Nat.le_trans hs3 b4.size))
  all_goals
   go_wp2
   go_meet
   case rel =>
    refine ⟨rfl, rfl, ?_⟩
    exact (((draw1 _).trans b3).mono (by simp)).trans (b4.mono hs3)
 case rest =>
  obtain ⟨rfl, rfl, B4⟩ := hcut
  have X4 : Boxed wc w.heap.size p (.slice a zs.length c) := ((Boxed.new w p (.slice a zs.length c) 29).below (zBa _ _)).upto B4.out (by omega)
  have Y4 : Boxed wc (w.heap.size + 1) q (.slice b ys.length d) := (Boxed.newAt (w.alloc _) (w.heap.size + 1) q (.slice b ys.length d) 29 (by simp)).upto B4.out (by omega)
  have HB : Hid (Below w.heap.size w wc) := (Joins.below_alloc2 _ _ _).trans (B4.out.mono (by omega))
  clear B4 hf ht
  obtain ⟨l0, c0, c1, c2, c3, c4, c5, c6, c7, c8⟩ := id X4
  obtain ⟨l1, k0, k1, k2, k3, k4, k5, k6, k7, k8⟩ := id Y4
  by_cases hft : f < t
  ·obtain ⟨m1, hm1⟩ : ∃ m : Nat, f - p.off = (m : Int) := ⟨(f - p.off).toNat, by omega⟩
   obtain ⟨m2, hm2⟩ : ∃ m : Nat, f - q.off = (m : Int) := ⟨(f - q.off).toNat, by omega⟩
   obtain ⟨n, hn⟩ : ∃ n : Nat, t - f = (n : Int) := ⟨(t - f).toNat, by omega⟩
   have hn1 : t - p.off = ((m1 + n : Nat) : Int) := by omega
   have hn2 : t - q.off = ((m2 + n : Nat) : Int) := by omega
   obtain ⟨-, h0 | ⟨ba, oa, rfl, hba, hca⟩⟩ := HRp.out
   ·omega
   obtain ⟨-, h0 | ⟨bb, ob, rfl, hbb, hcb⟩⟩ := HRq.out
   ·omega
   have HD : Hid (differB (p, zs) (q, ys) = !((strOfNums ((zs.drop m1).take n)).toList == (strOfNums ((ys.drop m2).take n)).toList)) := by
    show differB (p, zs) (q, ys) = _
    unfold differB cutD
    rw [HF.out.1, HF.out.2]
    simp only [hm1, hm2, hn, Int.toNat_natCast]
    simp [hft]
   have E1 : Hid (∀ W : World, Below w.heap.size w W → ∀ i, i < n → W.cell? ⟨ba, oa + m1 + i, none⟩ = some (.int .u8 (((zs.drop m1).take n).getD i 0))) := fun W hW i hi => by
    rw [hW.cell (p := ⟨ba, oa + m1 + i, none⟩) hba, Nat.add_assoc, hca (m1 + i) (by omega)]
    simp [List.getD, List.getElem?_drop, hi]
   have E2 : Hid (∀ W : World, Below w.heap.size w W → ∀ i, i < n → W.cell? ⟨bb, ob + m2 + i, none⟩ = some (.int .u8 (((ys.drop m2).take n).getD i 0))) := fun W hW i hi => by
    rw [hW.cell (p := ⟨bb, ob + m2 + i, none⟩) hbb, Nat.add_assoc, hcb (m2 + i) (by omega)]
    simp [List.getD, List.getElem?_drop, hi]
   have L1 : ((zs.drop m1).take n).length = n := by simp; omega
   have L2 : ((ys.drop m2).take n).length = n := by simp; omega
   have i1 : (m1 : Int) ≤ ((m1 + n : Nat) : Int) := by omega
   have i2 : ((m1 + n : Nat) : Int) ≤ (c : Int) := by omega
   have i3 : (m2 : Int) ≤ ((m2 + n : Nat) : Int) := by omega
   have i4 : ((m2 + n : Nat) : Int) ≤ (d : Int) := by omega
   have i5 : m1 < c := by omega
   have i6 : m2 < d := by omega
   clear hca hcb hba hbb hn
   go_wp2
   go_quiet ((go_at_call 101; exact Calls.quiet_of_same (equal_any ba (oa + m1) bb (ob + m2) n _ _ _ _ _ L1 L2 (E1.out _ (HB.out.trans (Joins.below_draws _ _ _))) (E2.out _ (HB.out.trans (Joins.below_draws _ _ _))))))
   go_wp2
   go_ret
   exact ⟨ret_bool HD.out.symm, HB.out.trans (Joins.below_draws _ _ _)⟩
  ·have HD : Hid (differB (p, zs) (q, ys) = false) := by
    show differB (p, zs) (q, ys) = _
    unfold differB
    rw [HF.out.1, HF.out.2]
    simp [hft]
   go_wp2
   go_ret
   exact ⟨ret_bool HD.out.symm, HB.out⟩
end Go.Proofs.YtjbkgmbakjnlhaaGreatDoor
namespace Go.Proofs.YtjbkgmbakjnlhaaGreatDoor
set_option maxRecDepth 100000
theorem u8_inj {a b : Int} (ha : 0 ≤ a ∧ a ≤ 255) (hb : 0 ≤ b ∧ b ≤ 255) (h : UInt8.ofNat a.toNat = UInt8.ofNat b.toNat) : a = b := by
 have := congrArg UInt8.toNat h
 simp at this
 omega
theorem bytes_inj {xs ys : List Int} (hx : ∀ z ∈ xs, 0 ≤ z ∧ z ≤ 255) (hy : ∀ z ∈ ys, 0 ≤ z ∧ z ≤ 255) : ((strOfNums xs).toList == (strOfNums ys).toList) = true ↔ xs = ys := by
 rw [beq_iff_eq, Lib.strOfNums_toList, Lib.strOfNums_toList]
 constructor
 ·intro h
  induction xs generalizing ys with
  | nil => cases ys with
   | nil => rfl
   | cons y r => simp [Lib.bytesOf] at h
  | cons x r ih =>
   cases ys with
   | nil => simp [Lib.bytesOf] at h
   | cons y s =>
    simp only [Lib.bytesOf, List.map_cons, List.cons.injEq] at h
    have e := u8_inj (hx x (List.mem_cons_self ..)) (hy y (List.mem_cons_self ..)) h.1
    rw [e, ih (fun z hz => hx z (List.mem_cons_of_mem _ hz)) (fun z hz => hy z (List.mem_cons_of_mem _ hz)) h.2]
 ·rintro rfl; rfl
def BytesOk (x : PB) : Prop := ∀ z ∈ x.2, 0 ≤ z ∧ z ≤ 255
theorem hasB_iff (x : PB) (j : Int) : hasB x j = true ↔ x.1.off ≤ j ∧ j < endOf x := by
 unfold hasB; simp
theorem fromI_le (x y : PB) : x.1.off ≤ fromI x y ∧ y.1.off ≤ fromI x y ∧ (fromI x y = x.1.off ∨ fromI x y = y.1.off) := by
 unfold fromI; split <;> omega
theorem toI_le (x y : PB) : toI x y ≤ endOf x ∧ toI x y ≤ endOf y ∧ (toI x y = endOf x ∨ toI x y = endOf y) := by
 unfold toI; split <;> omega
theorem has_both (x y : PB) (j : Int) : (hasB x j = true ∧ hasB y j = true) ↔ fromI x y ≤ j ∧ j < toI x y := by
 rw [hasB_iff, hasB_iff]
 have := fromI_le x y
 have := toI_le x y
 constructor
 ·omega
 ·omega
def Clash (x y : PB) : Prop := ∃ j : Int, hasB x j = true ∧ hasB y j = true ∧ byteAt x j ≠ byteAt y j
theorem cutD_get (x y z : PB) (hz : z = x ∨ z = y) (i : Nat) (hi : i < (toI x y - fromI x y).toNat) : (cutD x y z)[i]? = some (byteAt z (fromI x y + i)) := by
 have f := fromI_le x y
 have t := toI_le x y
 unfold cutD byteAt
 have hl : (fromI x y - z.1.off).toNat + i < z.2.length := by
  rcases hz with rfl | rfl <;> simp only [endOf] at t <;> omega
 rw [List.getElem?_take, if_pos hi, List.getElem?_drop, show (fromI x y + (i : Int) - z.1.off).toNat = (fromI x y - z.1.off).toNat + i by rcases hz with rfl | rfl <;> omega]
 simp [List.getD, List.getElem?_eq_getElem hl]
theorem cutD_len (x y z : PB) (hz : z = x ∨ z = y) : (cutD x y z).length = (toI x y - fromI x y).toNat := by
 have f := fromI_le x y
 have t := toI_le x y
 unfold cutD
 rw [List.length_take, List.length_drop]
 rcases hz with rfl | rfl <;> simp only [endOf] at t <;> omega
theorem cutD_byte {x y z : PB} (h : BytesOk z) : ∀ b ∈ cutD x y z, 0 ≤ b ∧ b ≤ 255 := fun b hb => h b (List.mem_of_mem_drop (List.mem_of_mem_take hb))
theorem differ_iff {x y : PB} (hx : BytesOk x) (hy : BytesOk y) : differB x y = true ↔ Clash x y := by
 have hb := bytes_inj (cutD_byte (x := x) (y := y) hx) (cutD_byte (x := x) (y := y) hy)
 have lx := cutD_len x y x (Or.inl rfl)
 have ly := cutD_len x y y (Or.inr rfl)
 unfold differB
 rw [Bool.and_eq_true, decide_eq_true_eq, Bool.not_eq_true', ← Bool.not_eq_true, hb]
 constructor
 ·rintro ⟨hlt, hne⟩
  apply Classical.byContradiction
  intro hc
  apply hne
  apply List.ext_getElem?
  intro i
  by_cases hi : i < (toI x y - fromI x y).toNat
  ·rw [cutD_get x y x (Or.inl rfl) i hi, cutD_get x y y (Or.inr rfl) i hi]
   congr 1
   apply Classical.byContradiction
   intro hn
   have := (has_both x y (fromI x y + i)).2 ⟨by omega, by omega⟩
   exact hc ⟨_, this.1, this.2, hn⟩
  ·rw [List.getElem?_eq_none (by omega), List.getElem?_eq_none (by omega)]
 ·rintro ⟨j, h1, h2, hn⟩
  have hj := (has_both x y j).1 ⟨h1, h2⟩
  refine ⟨by omega, fun e => hn ?_⟩
  have a := cutD_get x y x (Or.inl rfl) (j - fromI x y).toNat (by omega)
  have b := cutD_get x y y (Or.inr rfl) (j - fromI x y).toNat (by omega)
  rw [show fromI x y + (((j - fromI x y).toNat : Nat) : Int) = j by omega] at a b
  rw [e, b] at a
  exact (Option.some.inj a).symm
theorem any_clash (x y : PB) : (List.range x.2.length).any (fun t => hasB y (x.1.off + t) && (byteAt x (x.1.off + t) != byteAt y (x.1.off + t))) = true ↔ Clash x y := by
 rw [List.any_eq_true]
 constructor
 ·rintro ⟨t, ht, h⟩
  rw [List.mem_range] at ht
  simp only [Bool.and_eq_true, bne_iff_ne, ne_eq] at h
  exact ⟨x.1.off + t, (hasB_iff x _).2 (by unfold endOf; omega), h.1, h.2⟩
 ·rintro ⟨j, h1, h2, hn⟩
  have hj := (hasB_iff x j).1 h1
  unfold endOf at hj
  refine ⟨(j - x.1.off).toNat, List.mem_range.2 (by omega), ?_⟩
  rw [show x.1.off + (((j - x.1.off).toNat : Nat) : Int) = j by omega]
  simp [h2, hn]
theorem clash_symm {x y : PB} (h : Clash x y) : Clash y x := by
 obtain ⟨j, a, b, c⟩ := h
 exact ⟨j, b, a, fun e => c e.symm⟩
theorem against_iff (x y : PB) : againstB x y = true ↔ Clash x y ∨ (x.1.more = false ∧ (endOf x < endOf y ∨ (y.1.more = false ∧ endOf y ≠ endOf x))) := by
 unfold againstB
 rw [Bool.or_eq_true, any_clash]
 simp
theorem behind_iff (x y : PB) : behindB x y = true ↔ y.1.more = false ∧ endOf y < endOf x := by
 unfold behindB; simp
theorem dis_iff {x y : PB} (hx : BytesOk x) (hy : BytesOk y) : disB x y = true ↔ againstB x y = true ∨ againstB y x = true := by
 unfold disB
 rw [Bool.or_eq_true, Bool.or_eq_true, differ_iff hx hy, behind_iff, behind_iff, against_iff, against_iff]
 constructor
 ·rintro ((h | h) | h)
  ·exact Or.inl (Or.inl h)
  ·exact Or.inr (Or.inr ⟨h.1, Or.inl h.2⟩)
  ·exact Or.inl (Or.inr ⟨h.1, Or.inl h.2⟩)
 ·rintro ((h | ⟨h, h1 | ⟨h2, h1⟩⟩) | (h | ⟨h, h1 | ⟨h2, h1⟩⟩))
  ·exact Or.inl (Or.inl h)
  ·exact Or.inr ⟨h, h1⟩
  ·rcases Int.lt_or_gt_of_ne h1 with h3 | h3
   ·exact Or.inl (Or.inr ⟨h2, h3⟩)
   ·exact Or.inr ⟨h, h3⟩
  ·exact Or.inl (Or.inl (clash_symm h))
  ·exact Or.inl (Or.inr ⟨h, h1⟩)
  ·rcases Int.lt_or_gt_of_ne h1 with h3 | h3
   ·exact Or.inr ⟨h2, h3⟩
   ·exact Or.inl (Or.inr ⟨h, h3⟩)
theorem against_self (x : PB) : againstB x x = false := by
 rw [← Bool.not_eq_true, against_iff]
 rintro (⟨j, _, _, h⟩ | ⟨_, h | ⟨_, h⟩⟩)
 ·exact h rfl
 ·omega
 ·exact h rfl
theorem disagree_pairs {L : List PB} (hb : ∀ x ∈ L, BytesOk x) : disagreeL L = true ↔ ∃ (i j : Nat) (x y : PB), j < i ∧ L[i]? = some x ∧ L[j]? = some y ∧ disB x y = true := by
 rw [disagreeL_iff]
 constructor
 ·rintro ⟨x, hx, y, hy, h⟩
  obtain ⟨i, hi⟩ := List.getElem?_of_mem hx
  obtain ⟨j, hj⟩ := List.getElem?_of_mem hy
  rcases Nat.lt_trichotomy i j with hij | hij | hij
  ·exact ⟨j, i, y, x, hij, hj, hi, (dis_iff (hb y hy) (hb x hx)).2 (Or.inr h)⟩
  ·subst hij
   rw [hi] at hj
   obtain rfl := Option.some.inj hj
   rw [against_self] at h
   cases h
  ·exact ⟨i, j, x, y, hij, hi, hj, (dis_iff (hb x hx) (hb y hy)).2 (Or.inl h)⟩
 ·rintro ⟨i, j, x, y, _, hi, hj, h⟩
  have hx := List.mem_of_getElem? hi
  have hy := List.mem_of_getElem? hj
  rcases (dis_iff (hb x hx) (hb y hy)).1 h with h | h
  ·exact ⟨x, hx, y, hy, h⟩
  ·exact ⟨y, hy, x, hx, h⟩
end Go.Proofs.YtjbkgmbakjnlhaaGreatDoor
namespace Go.Proofs.YtjbkgmbakjnlhaaGreatDoor
set_option maxRecDepth 100000
open Go.RowKit
theorem ok_bounds {p : Pk} {len : Nat} (h : okB p len = true) : 0 ≤ p.off ∧ p.off ≤ 128 ∧ p.off + len ≤ 128 := by
 simp only [okB, offB, inB, Bool.and_eq_true, decide_eq_true_eq] at h
 omega
set_option maxHeartbeats 3200000 in
theorem closure_any (lb g n cl i j : Nat) (xs : List RV) (x y : RV) (w : World) (hn : n = xs.length) (hL : RL w g xs) (hx : xs[i]? = some x) (hy : xs[j]? = some y) (hlb : w.cell? ⟨lb, 0, none⟩ = some (.slice (some ⟨g, 0, none⟩) n cl)) (hlt : lb < w.heap.size)
  (ox : okB x.p x.zs.length = true) (oy : okB y.p y.zs.length = true) (hi : i < n) (hj : j < n) (_hm : n ≤ 40) :
  Calls Tryz.prog 74 #[.int .i64 i, .int .i64 j, .pointer (some ⟨lb, 0, none⟩)] w fun e w' => e = .returned (.bool (disB x.key y.key)) ∧ Below w.heap.size w w' := by
 have X := hL.elem i x hx
 have Y := hL.elem j y hy
 have hX := hL.each x (List.mem_of_getElem? hx)
 have hY := hL.each y (List.mem_of_getElem? hy)
 have hg := hL.lt
 have bx := ok_bounds ox
 have by_ := ok_bounds oy
 have hi' : (i : Int) < (n : Int) := by omega
 have hj' : (j : Int) < (n : Int) := by omega
 clear hL hx hy hn
 obtain ⟨c0, c1, c2, c3, c4, c5, c6, c7, c8⟩ := id X
 obtain ⟨k0, k1, k2, k3, k4, k5, k6, k7, k8⟩ := id Y
 have HX : Hid (ROk w x) := hX
 have HY : Hid (ROk w y) := hY
 clear hX hY
 have hlx := HX.out.len
 have hly := HY.out.len
 go_enter Tryz.func74, Tryz.ntmps74
 go_upto_region 1 with fail
 go_cut [6, 7] (fun u v wx => ∃ b6 b7 : Nat, u = .pointer (some ⟨b6, 0, none⟩) ∧ v = .pointer (some ⟨b7, 0, none⟩) ∧ Hid (Boxed wx b6 x.p (.slice x.a x.zs.length x.c)) ∧ Hid (Boxed wx b7 y.p (.slice y.a y.zs.length y.c)) ∧ Hid (Below w.heap.size w wx))
 case first =>
  go_region
  all_goals
   go_wp2
   go_meet
   case rel =>
    first
     | exact ⟨w.heap.size, w.heap.size + 1, rfl, rfl, ((Boxed.new w x.p _ 29).below (zBa _ _)).below (draw1 _), (Boxed.newAt (w.alloc _) (w.heap.size + 1) y.p _ 29 (by simp)).below (draw1 _), (Joins.below_alloc2 _ _ _).drew⟩
     | exact ⟨w.heap.size + 1, w.heap.size, rfl, rfl, (Boxed.newAt (w.alloc _) (w.heap.size + 1) x.p _ 29 (by simp)).below (draw1 _), ((Boxed.new w y.p _ 29).below (zBa _ _)).below (draw1 _), (Joins.below_alloc2 _ _ _).drew⟩
 case rest =>
  obtain ⟨b6, b7, rfl, rfl, X6, Y7, HB⟩ := hcut
  clear c0 c1 c2 c3 c4 c5 c6 c7 c8 k0 k1 k2 k3 k4 k5 k6 k7 k8 X Y hlb
  have hs := HB.out.size
  obtain ⟨l0, c0, c1, c2, c3, c4, c5, c6, c7, c8⟩ := id X6.out
  obtain ⟨l1, k0, k1, k2, k3, k4, k5, k6, k7, k8⟩ := id Y7.out
  have HD : Hid (disB x.key y.key = (differB x.key y.key || behindB x.key y.key || behindB y.key x.key)) := rfl
  go_wp2_with fail
  refine (differ_any x.p y.p x.a y.a x.zs y.zs x.c y.c _ bx.1 bx.2.1 by_.1 by_.2.1 (HX.out.below HB.out) (HY.out.below HB.out)).mono ?_
  rintro e w1 ⟨rfl, b1⟩
  have B1 : Hid (Below w.heap.size w w1) := HB.out.trans (b1.mono hs)
  have X1 := X6.out.below b1
  have Y1 := Y7.out.below b1
  have hs1 := B1.out.size
  clear c0 c1 c2 c3 c4 c5 c6 c7 c8 k0 k1 k2 k3 k4 k5 k6 k7 k8 X6 Y7 HB b1 l0 l1 hs
  cases hd : differB (x.p, x.zs) (y.p, y.zs)
  ·obtain ⟨l0, c0, c1, c2, c3, c4, c5, c6, c7, c8⟩ := id X1
   obtain ⟨l1, k0, k1, k2, k3, k4, k5, k6, k7, k8⟩ := id Y1
   go_wp2_with fail
   refine (endsBehind_any x.p y.p x.a y.a x.zs y.zs x.c y.c _ bx.1 bx.2.1 by_.1 by_.2.1 hlx hly).mono ?_
   rintro e w2 ⟨rfl, b2⟩
   have B2 : Hid (Below w.heap.size w w2) := B1.out.trans (b2.mono hs1)
   have X2 := X1.below b2
   have Y2 := Y1.below b2
   have hs2 := B2.out.size
   clear c0 c1 c2 c3 c4 c5 c6 c7 c8 k0 k1 k2 k3 k4 k5 k6 k7 k8 X1 Y1 b2 l0 l1
   cases hb : behindB (x.p, x.zs) (y.p, y.zs)
   ·obtain ⟨l0, c0, c1, c2, c3, c4, c5, c6, c7, c8⟩ := id X2
    obtain ⟨l1, k0, k1, k2, k3, k4, k5, k6, k7, k8⟩ := id Y2
    have HE : Hid (disB x.key y.key = behindB (y.p, y.zs) (x.p, x.zs)) := by
     show disB x.key y.key = _
     rw [HD.out]
     show (differB (x.p, x.zs) (y.p, y.zs) || behindB (x.p, x.zs) (y.p, y.zs) || _) = _
     rw [hd, hb]
     rfl
    clear hd hb
    go_wp2_with fail
    refine (endsBehind_any y.p x.p y.a x.a y.zs x.zs y.c x.c _ by_.1 by_.2.1 bx.1 bx.2.1 hly hlx).mono ?_
    rintro e w3 ⟨rfl, b3⟩
    go_wp2
    go_ret
    exact ⟨ret_bool HE.out.symm, B2.out.trans (b3.mono hs2)⟩
   ·have HE : Hid (disB x.key y.key = true) := by
     show disB x.key y.key = _
     rw [HD.out]
     show (differB (x.p, x.zs) (y.p, y.zs) || behindB (x.p, x.zs) (y.p, y.zs) || _) = _
     rw [hd, hb]
     rfl
    clear X2 Y2 hd
    go_wp2
    go_ret
    exact ⟨ret_bool HE.out.symm, B2.out⟩
  ·have HE : Hid (disB x.key y.key = true) := by
    show disB x.key y.key = _
    rw [HD.out]
    show (differB (x.p, x.zs) (y.p, y.zs) || _ || _) = _
    rw [hd]
    rfl
   clear X1 Y1
   go_wp2
   go_ret
   exact ⟨ret_bool HE.out.symm, B1.out⟩
end Go.Proofs.YtjbkgmbakjnlhaaGreatDoor
