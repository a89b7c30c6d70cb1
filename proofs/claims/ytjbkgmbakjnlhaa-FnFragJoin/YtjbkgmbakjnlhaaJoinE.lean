/- The program's mayJoin and toldEnd. -/
import Derived.Test.YtjbkgmbakjnlhaaAlikeI
namespace Go.Proofs.Ytjbkgmbakjnlhaa
open Go.RowKit

theorem alikeL_none {L : List PB} (h : L.length = 0) : alikeL L = false := by
  rw [List.length_eq_zero_iff.1 h]; rfl
theorem alikeL_many {L : List PB} (h : 40 < L.length) : alikeL L = false := by
  match L, h with
  | x :: r, h =>
    unfold alikeL
    rw [Bool.and_eq_false_iff]
    left
    simp at h ⊢
    omega
theorem alikeL_yes {L : List PB} {x0 : PB} (h0 : L[0]? = some x0) (hl : L.length ≤ 40) (h : ∀ (j : Nat) x, L[j]? = some x → alikeB x0 x = true) : alikeL L = true := by
  match L, h0, hl, h with
  | x :: r, h0, hl, h =>
    simp at h0
    subst h0
    unfold alikeL
    rw [Bool.and_eq_true, List.all_eq_true]
    refine ⟨by simpa using hl, fun y hy => ?_⟩
    obtain ⟨j, hj⟩ := List.getElem?_of_mem hy
    exact h j y hj
theorem alikeL_no {L : List PB} {x0 x : PB} {j : Nat} (h0 : L[0]? = some x0) (hj : L[j]? = some x) (h : alikeB x0 x = false) : alikeL L = false := by
  match L, h0, hj with
  | y :: r, h0, hj =>
    simp at h0
    subst h0
    unfold alikeL
    rw [Bool.and_eq_false_iff]
    right
    rw [← Bool.not_eq_true, List.all_eq_true]
    intro hall
    have := hall x (List.mem_of_getElem? hj)
    rw [h] at this
    cases this

set_option maxRecDepth 100000 in
set_option maxHeartbeats 6400000 in
theorem mayJoin_any (g cl : Nat) (xs : List RV) (w : World) (hL : RL w g xs) (hm : xs.length ≤ 9223372036854775807) :
    Calls Try.prog 38 #[.slice (some ⟨g, 0, none⟩) xs.length cl] w fun e w' => e = .returned (.bool (alikeL (xs.map RV.key))) ∧ Below w.heap.size w w' := by
  by_cases h0 : xs.length = 0
  · have HA : Hid (alikeL (xs.map RV.key) = false) := alikeL_none (by simpa using h0)
    have hz : ((xs.length : Int) == 0) = true := by simp [h0]
    clear h0 hL
    go_enter Try.func38, Try.ntmps38
    go_wp2
    go_ret
    exact ⟨ret_bool HA.out.symm, Below.refl _ _⟩
  have hz : ((xs.length : Int) == 0) = false := by rw [beq_eq_false_iff_ne]; omega
  by_cases h40 : 40 < xs.length
  · have HA : Hid (alikeL (xs.map RV.key) = false) := alikeL_many (by simpa using h40)
    have h40' : (40 : Int) < (xs.length : Int) := by omega
    clear h0 hL h40
    go_enter Try.func38, Try.ntmps38
    go_wp2
    go_ret
    exact ⟨ret_bool HA.out.symm, Below.refl _ _⟩
  have h40' : ¬ (40 : Int) < (xs.length : Int) := by omega
  obtain ⟨x0, hx0⟩ := get_of_lt (show 0 < xs.length by omega)
  have HX0 : Hid (xs[0]? = some x0) := hx0
  have HL : Hid (RL w g xs) := hL
  have hp0 := (hL.each x0 (List.mem_of_getElem? hx0)).len
  have hpos : (0 : Int) < (xs.length : Int) := by omega
  have hposn : 0 < xs.length := by omega
  have hne : xs ≠ [] := fun e => by rw [e] at hposn; simp at hposn
  clear hx0 hL
  go_enter Try.func38, Try.ntmps38
  go_wp2
  go_loopw [15] (fun i wr => ∃ k : Nat, k ≤ xs.length ∧ i = .int .i64 k ∧ Hid (∀ j x, j < k → xs[j]? = some x → alikeB x0.key x.key = true) ∧ Hid (Below w.heap.size w wr)) (fun i _ => xs.length - (intOf i).toNat)
  case atStart => exact ⟨0, by omega, rfl, fun j x hj => by omega, Below.refl _ _⟩
  case round =>
    obtain ⟨k, hk, rfl, HC, HB⟩ := hrel
    have hsz := HB.out.size
    by_cases hlt : k < xs.length
    · obtain ⟨x, hx⟩ := get_of_lt hlt
      have HX : Hid (xs[k]? = some x) := hx
      have Lr := HL.out.below HB.out
      have hp := (Lr.each x (List.mem_of_getElem? hx)).len
      have hgr := Lr.lt
      have H0 := (Lr.elem 0 x0 HX0.out).head
      have Hk := Lr.elem k x hx
      have hi : (k : Int) < (xs.length : Int) := by omega
      clear hx Lr
      obtain ⟨e0, e1, e2, e3, e4, e5, e6, e7, e8⟩ := id H0
      obtain ⟨c0, c1, c2, c3, c4, c5, c6, c7, c8⟩ := id Hk
      have hgn : g < wr.heap.size + 1 := by omega
      have KA : Hid (∀ W : World, Calls Try.prog 67 #[.agg #[.int .i64 x0.p.src, .int .i64 x0.p.dst, .int .i64 x0.p.kind, .int .i64 x0.p.id, .int .i64 x0.p.hops, .bool x0.p.whole, .int .i64 x0.p.off, .bool x0.p.more, .slice x0.a x0.zs.length x0.c], .agg #[.int .i64 x.p.src, .int .i64 x.p.dst, .int .i64 x.p.kind, .int .i64 x.p.id, .int .i64 x.p.hops, .bool x.p.whole, .int .i64 x.p.off, .bool x.p.more, .slice x.a x.zs.length x.c]] W fun e w' => e = .returned (.bool (alikeB x0.key x.key)) ∧ Below W.heap.size W w') := fun W => implAlike_any x0.p x.p x0.a x.a x0.zs x.zs x0.c x.c W hp0 hp
      cases hal : alikeB x0.key x.key
      · have HN : Hid (alikeL (xs.map RV.key) = false) := alikeL_no (map_get HX0.out) (map_get HX.out) hal
        rw [hal] at KA
        clear hal
        go_wp2
        go_region_held3 (fun w' => w'.cell? ⟨g, 0, none⟩ = some (.int .i64 x0.p.src) ∧ w'.cell? ⟨g, 1, none⟩ = some (.int .i64 x0.p.dst) ∧ w'.cell? ⟨g, 2, none⟩ = some (.int .i64 x0.p.kind) ∧ w'.cell? ⟨g, 3, none⟩ = some (.int .i64 x0.p.id) ∧ w'.cell? ⟨g, 4, none⟩ = some (.int .i64 x0.p.hops) ∧ w'.cell? ⟨g, 5, none⟩ = some (.bool x0.p.whole) ∧ w'.cell? ⟨g, 6, none⟩ = some (.int .i64 x0.p.off) ∧ w'.cell? ⟨g, 7, none⟩ = some (.bool x0.p.more) ∧ w'.cell? ⟨g, 8, none⟩ = some (.slice x0.a x0.zs.length x0.c) ∧ w'.cell? ⟨wr.heap.size, 0, none⟩ = some (.int .i64 x.p.src) ∧ w'.cell? ⟨wr.heap.size, 1, none⟩ = some (.int .i64 x.p.dst) ∧ w'.cell? ⟨wr.heap.size, 2, none⟩ = some (.int .i64 x.p.kind) ∧ w'.cell? ⟨wr.heap.size, 3, none⟩ = some (.int .i64 x.p.id) ∧ w'.cell? ⟨wr.heap.size, 4, none⟩ = some (.int .i64 x.p.hops) ∧ w'.cell? ⟨wr.heap.size, 5, none⟩ = some (.bool x.p.whole) ∧ w'.cell? ⟨wr.heap.size, 6, none⟩ = some (.int .i64 x.p.off) ∧ w'.cell? ⟨wr.heap.size, 7, none⟩ = some (.bool x.p.more) ∧ w'.cell? ⟨wr.heap.size, 8, none⟩ = some (.slice x.a x.zs.length x.c)) (go_keep)
          (first
            | (go_at_call 67; with_reducible refine (KA.out _).mono ?_; rintro e w1 ⟨rfl, b1⟩; have hc1 : ∀ b o, b < wr.heap.size + 1 → w1.cell? ⟨b, o, none⟩ = _ := fun b o h => b1.cell (p := ⟨b, o, none⟩) (by simpa using h)))
        go_wp2
        go_ret
        exact ⟨ret_bool HN.out.symm, (HB.out.alloc hsz _).drew.trans (b1.mono (by simp; omega))⟩
      · have HY : Hid (alikeB x0.key x.key = true) := hal
        rw [hal] at KA
        clear hal
        go_wp2
        go_region_held3 (fun w' => w'.cell? ⟨g, 0, none⟩ = some (.int .i64 x0.p.src) ∧ w'.cell? ⟨g, 1, none⟩ = some (.int .i64 x0.p.dst) ∧ w'.cell? ⟨g, 2, none⟩ = some (.int .i64 x0.p.kind) ∧ w'.cell? ⟨g, 3, none⟩ = some (.int .i64 x0.p.id) ∧ w'.cell? ⟨g, 4, none⟩ = some (.int .i64 x0.p.hops) ∧ w'.cell? ⟨g, 5, none⟩ = some (.bool x0.p.whole) ∧ w'.cell? ⟨g, 6, none⟩ = some (.int .i64 x0.p.off) ∧ w'.cell? ⟨g, 7, none⟩ = some (.bool x0.p.more) ∧ w'.cell? ⟨g, 8, none⟩ = some (.slice x0.a x0.zs.length x0.c) ∧ w'.cell? ⟨wr.heap.size, 0, none⟩ = some (.int .i64 x.p.src) ∧ w'.cell? ⟨wr.heap.size, 1, none⟩ = some (.int .i64 x.p.dst) ∧ w'.cell? ⟨wr.heap.size, 2, none⟩ = some (.int .i64 x.p.kind) ∧ w'.cell? ⟨wr.heap.size, 3, none⟩ = some (.int .i64 x.p.id) ∧ w'.cell? ⟨wr.heap.size, 4, none⟩ = some (.int .i64 x.p.hops) ∧ w'.cell? ⟨wr.heap.size, 5, none⟩ = some (.bool x.p.whole) ∧ w'.cell? ⟨wr.heap.size, 6, none⟩ = some (.int .i64 x.p.off) ∧ w'.cell? ⟨wr.heap.size, 7, none⟩ = some (.bool x.p.more) ∧ w'.cell? ⟨wr.heap.size, 8, none⟩ = some (.slice x.a x.zs.length x.c)) (go_keep)
          (first
            | (go_at_call 67; with_reducible refine (KA.out _).mono ?_; rintro e w1 ⟨rfl, b1⟩; have hc1 : ∀ b o, b < wr.heap.size + 1 → w1.cell? ⟨b, o, none⟩ = _ := fun b o h => b1.cell (p := ⟨b, o, none⟩) (by simpa using h)))
        go_wp2
        go_roundw
        case rel =>
          refine ⟨k + 1, by omega, by go_num, fun j y hj hy => ?_, (HB.out.alloc hsz _).drew.trans (b1.mono (by simp; omega))⟩
          rcases Nat.lt_or_ge j k with h | h
          · exact HC.out j y h hy
          · obtain rfl : j = k := by omega
            rw [HX.out] at hy
            obtain rfl := Option.some.inj hy
            exact HY.out
        case measure => simp [intOf]; omega
    · go_wp2
      go_ret
      have ek : k = xs.length := by omega
      subst ek
      refine ⟨ret_bool (alikeL_yes (x0 := x0.key) (map_get HX0.out) (by simp; omega) fun j y hj => ?_).symm, HB.out⟩
      rw [List.getElem?_map] at hj
      cases hxj : xs[j]? with
      | none => rw [hxj] at hj; cases hj
      | some z =>
        rw [hxj] at hj
        obtain rfl := Option.some.inj hj
        refine HC.out j z ?_ hxj
        rcases Nat.lt_or_ge j xs.length with h | h
        · exact h
        · rw [List.getElem?_eq_none h] at hxj; cases hxj
end Go.Proofs.Ytjbkgmbakjnlhaa
