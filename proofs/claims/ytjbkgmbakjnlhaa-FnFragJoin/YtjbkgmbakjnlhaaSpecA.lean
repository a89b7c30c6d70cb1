/- The specification's joining: l3Has, l3Against, l3Alike, l3Disagree, l3End, l3Who. -/
import Derived.Test.YtjbkgmbakjnlhaaJoinE
import Derived.Test.YtjbkgmbakjnlhaaJoinF
import Derived.Test.YtjbkgmbakjnlhaaTold
namespace Go.Proofs.Ytjbkgmbakjnlhaa
open Go.RowKit

set_option maxHeartbeats 800000 in
theorem l3Has_any (p : Pk) (a : Option Addr) (zs : List Int) (c : Nat) (at_ : Int) (w : World) (h0 : 0 ≤ p.off) (h1 : p.off ≤ 128) (hl : zs.length ≤ 1048576) :
    Calls Try.prog 74 #[p.val (.slice a zs.length c), .int .i64 at_] w fun e w' => e = .returned (.bool (hasB (p, zs) at_)) ∧ Below w.heap.size w w' := by
  have HB : Hid (hasB (p, zs) at_ = (decide (p.off ≤ at_) && decide (at_ < p.off + (zs.length : Int)))) := rfl
  unfold Pk.val
  by_cases h : p.off ≤ at_
  all_goals
    go_enter Try.func74, Try.ntmps74
    go_wp2
    go_ret
    refine ⟨ret_bool ?_, Joins.below_alloc1 _ _⟩
    rw [HB.out]
    first | (simp [h]; done) | (simp; omega)

set_option maxRecDepth 100000 in
set_option maxHeartbeats 3200000 in
theorem l3Alike_any (g cl : Nat) (xs : List RV) (w : World) (hL : RL w g xs) (hm : xs.length ≤ 9223372036854775807) :
    Calls Try.prog 45 #[.slice (some ⟨g, 0, none⟩) xs.length cl] w fun e w' => e = .returned (.bool (alikeL (xs.map RV.key))) ∧ Below w.heap.size w w' := by
  by_cases hin : 1 ≤ xs.length ∧ xs.length ≤ 40
  · obtain ⟨hi1, hi2⟩ := hin
    have HIN : Hid (inB (xs.length : Int) 1 40 = true) := (show inB (xs.length : Int) 1 40 = true by simp [inB]; omega)
    obtain ⟨x0, hx0⟩ := get_of_lt (show 0 < xs.length by omega)
    have HX0 : Hid (xs[0]? = some x0) := hx0
    have HL : Hid (RL w g xs) := hL
    have hp0 := (hL.each x0 (List.mem_of_getElem? hx0)).len
    have hpos : (0 : Int) < (xs.length : Int) := by omega
    have hposn : 0 < xs.length := by omega
    have hne : xs ≠ [] := fun e => by rw [e] at hposn; simp at hposn
    clear hx0 hL
    go_enter Try.func45, Try.ntmps45
    go_wp2_with (go_at_call 54; refine (l1In_any _ _ _ _).mono ?_; rw [HIN.out]; rintro e w' ⟨rfl, hw⟩; rw [hw]; clear hw)
    go_loopw [3] (fun i wr => ∃ k : Nat, k ≤ xs.length ∧ i = .int .i64 k ∧ Hid (∀ j x, j < k → xs[j]? = some x → alikeB x0.key x.key = true) ∧ Hid (Below w.heap.size w wr)) (fun i _ => xs.length - (intOf i).toNat)
    case atStart => exact ⟨0, by omega, rfl, fun j x hj => by omega, Below.refl _ _⟩
    case round =>
      obtain ⟨k, hk, rfl, HC, HB⟩ := hrel
      have hsz := HB.out.size
      by_cases hlt : k < xs.length
      · obtain ⟨x, hx⟩ := get_of_lt hlt
        have HX : Hid (xs[k]? = some x) := hx
        have Lr := HL.out.below HB.out
        have hp := (Lr.each x (List.mem_of_getElem? hx)).len
        have hgr := Lr.lt
        have H0 := (Lr.elem 0 x0 HX0.out).head
        have Hk := Lr.elem k x hx
        have hi : (k : Int) < (xs.length : Int) := by omega
        clear hx Lr
        obtain ⟨e0, e1, e2, e3, e4, e5, e6, e7, e8⟩ := id H0
        obtain ⟨c0, c1, c2, c3, c4, c5, c6, c7, c8⟩ := id Hk
        have KA : Hid (∀ W : World, Calls Try.prog 72 #[.agg #[.int .i64 x0.p.src, .int .i64 x0.p.dst, .int .i64 x0.p.kind, .int .i64 x0.p.id, .int .i64 x0.p.hops, .bool x0.p.whole, .int .i64 x0.p.off, .bool x0.p.more, .slice x0.a x0.zs.length x0.c], .agg #[.int .i64 x.p.src, .int .i64 x.p.dst, .int .i64 x.p.kind, .int .i64 x.p.id, .int .i64 x.p.hops, .bool x.p.whole, .int .i64 x.p.off, .bool x.p.more, .slice x.a x.zs.length x.c]] W fun e w' => e = .returned (.bool (alikeB x0.key x.key)) ∧ Below W.heap.size W w') := fun W => specAlike_any x0.p x.p x0.a x.a x0.zs x.zs x0.c x.c W hp0 hp
        cases hal : alikeB x0.key x.key
        · have HN : Hid (alikeL (xs.map RV.key) = false) := alikeL_no (map_get HX0.out) (map_get HX.out) hal
          rw [hal] at KA
          clear hal
          go_wp2
          go_region_held3 (fun w' => w'.cell? ⟨g, 0, none⟩ = some (.int .i64 x0.p.src) ∧ w'.cell? ⟨g, 1, none⟩ = some (.int .i64 x0.p.dst) ∧ w'.cell? ⟨g, 2, none⟩ = some (.int .i64 x0.p.kind) ∧ w'.cell? ⟨g, 3, none⟩ = some (.int .i64 x0.p.id) ∧ w'.cell? ⟨g, 4, none⟩ = some (.int .i64 x0.p.hops) ∧ w'.cell? ⟨g, 5, none⟩ = some (.bool x0.p.whole) ∧ w'.cell? ⟨g, 6, none⟩ = some (.int .i64 x0.p.off) ∧ w'.cell? ⟨g, 7, none⟩ = some (.bool x0.p.more) ∧ w'.cell? ⟨g, 8, none⟩ = some (.slice x0.a x0.zs.length x0.c) ∧ w'.cell? ⟨g, k * 9, none⟩ = some (.int .i64 x.p.src) ∧ w'.cell? ⟨g, k * 9 + 1, none⟩ = some (.int .i64 x.p.dst) ∧ w'.cell? ⟨g, k * 9 + 2, none⟩ = some (.int .i64 x.p.kind) ∧ w'.cell? ⟨g, k * 9 + 3, none⟩ = some (.int .i64 x.p.id) ∧ w'.cell? ⟨g, k * 9 + 4, none⟩ = some (.int .i64 x.p.hops) ∧ w'.cell? ⟨g, k * 9 + 5, none⟩ = some (.bool x.p.whole) ∧ w'.cell? ⟨g, k * 9 + 6, none⟩ = some (.int .i64 x.p.off) ∧ w'.cell? ⟨g, k * 9 + 7, none⟩ = some (.bool x.p.more) ∧ w'.cell? ⟨g, k * 9 + 8, none⟩ = some (.slice x.a x.zs.length x.c)) (go_keep)
            (first
              | (go_at_call 72; with_reducible refine (KA.out _).mono ?_; rintro e w1 ⟨rfl, b1⟩; have hc1 : ∀ b o, b < wr.heap.size → w1.cell? ⟨b, o, none⟩ = _ := fun b o h => b1.cell (p := ⟨b, o, none⟩) (by simpa using h)))
          go_wp2
          go_ret
          exact ⟨ret_bool HN.out.symm, HB.out.drew.trans (b1.mono hsz)⟩
        · have HY : Hid (alikeB x0.key x.key = true) := hal
          rw [hal] at KA
          clear hal
          go_wp2
          go_region_held3 (fun w' => w'.cell? ⟨g, 0, none⟩ = some (.int .i64 x0.p.src) ∧ w'.cell? ⟨g, 1, none⟩ = some (.int .i64 x0.p.dst) ∧ w'.cell? ⟨g, 2, none⟩ = some (.int .i64 x0.p.kind) ∧ w'.cell? ⟨g, 3, none⟩ = some (.int .i64 x0.p.id) ∧ w'.cell? ⟨g, 4, none⟩ = some (.int .i64 x0.p.hops) ∧ w'.cell? ⟨g, 5, none⟩ = some (.bool x0.p.whole) ∧ w'.cell? ⟨g, 6, none⟩ = some (.int .i64 x0.p.off) ∧ w'.cell? ⟨g, 7, none⟩ = some (.bool x0.p.more) ∧ w'.cell? ⟨g, 8, none⟩ = some (.slice x0.a x0.zs.length x0.c) ∧ w'.cell? ⟨g, k * 9, none⟩ = some (.int .i64 x.p.src) ∧ w'.cell? ⟨g, k * 9 + 1, none⟩ = some (.int .i64 x.p.dst) ∧ w'.cell? ⟨g, k * 9 + 2, none⟩ = some (.int .i64 x.p.kind) ∧ w'.cell? ⟨g, k * 9 + 3, none⟩ = some (.int .i64 x.p.id) ∧ w'.cell? ⟨g, k * 9 + 4, none⟩ = some (.int .i64 x.p.hops) ∧ w'.cell? ⟨g, k * 9 + 5, none⟩ = some (.bool x.p.whole) ∧ w'.cell? ⟨g, k * 9 + 6, none⟩ = some (.int .i64 x.p.off) ∧ w'.cell? ⟨g, k * 9 + 7, none⟩ = some (.bool x.p.more) ∧ w'.cell? ⟨g, k * 9 + 8, none⟩ = some (.slice x.a x.zs.length x.c)) (go_keep)
            (first
              | (go_at_call 72; with_reducible refine (KA.out _).mono ?_; rintro e w1 ⟨rfl, b1⟩; have hc1 : ∀ b o, b < wr.heap.size → w1.cell? ⟨b, o, none⟩ = _ := fun b o h => b1.cell (p := ⟨b, o, none⟩) (by simpa using h)))
          go_wp2
          go_roundw
          case rel =>
            refine ⟨k + 1, by omega, by go_num, fun j y hj hy => ?_, HB.out.drew.trans (b1.mono hsz)⟩
            rcases Nat.lt_or_ge j k with h | h
            · exact HC.out j y h hy
            · obtain rfl : j = k := by omega
              rw [HX.out] at hy
              obtain rfl := Option.some.inj hy
              exact HY.out
          case measure => simp [intOf]; omega
      · go_wp2
        go_ret
        have ek : k = xs.length := by omega
        subst ek
        refine ⟨ret_bool (alikeL_yes (x0 := x0.key) (map_get HX0.out) (by simp; omega) fun j y hj => ?_).symm, HB.out⟩
        obtain ⟨z, hxj, rfl⟩ := get_key hj
        refine HC.out j z ?_ hxj
        rcases Nat.lt_or_ge j xs.length with h | h
        · exact h
        · rw [List.getElem?_eq_none h] at hxj; cases hxj
  · have HIN : Hid (inB (xs.length : Int) 1 40 = false) := (show inB (xs.length : Int) 1 40 = false by
      rw [← Bool.not_eq_true]
      intro h
      simp [inB] at h
      omega)
    have HA : Hid (alikeL (xs.map RV.key) = false) := by
      rcases Nat.lt_or_ge 40 xs.length with h | h
      · exact alikeL_many (by simpa using h)
      · exact alikeL_none (by simp only [List.length_map]; omega)
    clear hin hL
    go_enter Try.func45, Try.ntmps45
    go_wp2_with (go_at_call 54; refine (l1In_any _ _ _ _).mono ?_; rw [HIN.out]; rintro e w' ⟨rfl, hw⟩; rw [hw]; clear hw)
    go_ret
    exact ⟨ret_bool HA.out.symm, Below.refl _ _⟩
end Go.Proofs.Ytjbkgmbakjnlhaa
