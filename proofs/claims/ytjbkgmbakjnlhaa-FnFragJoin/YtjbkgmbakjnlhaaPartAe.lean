/- The contract of the program's FragOk: it is the specification's. -/
import Derived.Test.YtjbkgmbakjnlhaaPartAd
import Derived.Test.YtjbkgmbakjnlhaaPartAc
import Derived.Laws.EntriesVeiled
import Derived.Test.YtjbkgmbakjnlhaaPartAa
namespace Go.Proofs.Ytjbkgmbakjnlhaa
open Go.RowKit

/-- what the check of a number says -/
def chk (p : Pk) (len : Nat) : Nat → Bool
  | 0 => inB p.src 0 65535 && inB p.dst 0 65535 && inB p.kind 1 7 && inB p.id 0 255
  | 1 => inB p.hops 1 64
  | 2 => inB p.off 0 128 && (p.off.tmod 4 == 0)
  | 3 => decide ((len : Int) ≤ 128) && decide (p.off ≤ 128 - (len : Int))
  | 4 => !p.more || (decide ((0 : Int) < len) && ((len : Int) % 4 == 0))
  | _ => !p.whole || ((p.off == 0) && !p.more)

theorem ok_of_all (p : Pk) (len : Nat) (h : ∀ j, j < 6 → chk p len j = true) : okB p len = true := by
  rw [← okS_eq]
  have h0 := h 0 (by omega)
  have h1 := h 1 (by omega)
  have h2 := h 2 (by omega)
  have h3 := h 3 (by omega)
  have h4 := h 4 (by omega)
  have h5 := h 5 (by omega)
  rw [okS_eq]
  simp only [chk, inB, Bool.and_eq_true, Bool.or_eq_true, decide_eq_true_eq, beq_iff_eq, Bool.not_eq_true'] at h0 h1 h2 h3 h4 h5
  have e := Int.tmod_eq_emod_of_nonneg (b := 4) h2.1.1
  simp only [okB, headB, offB, moreB, wholeB, inB, Bool.and_eq_true, Bool.or_eq_true, decide_eq_true_eq, beq_iff_eq, Bool.not_eq_true', beq_eq_false_iff_ne]
  rw [e] at h2
  refine ⟨⟨⟨⟨⟨⟨⟨?_, ?_⟩, ?_⟩, ?_⟩, ?_⟩, ⟨⟨?_, ?_⟩, ?_⟩⟩, ?_⟩, ?_⟩
  all_goals first | omega | exact h5 | skip
  rcases h4 with h4 | h4
  · exact Or.inl h4
  · exact Or.inr ⟨by omega, h4.2⟩

theorem not_of_one (p : Pk) (len j : Nat) (hj : j < 6) (h : chk p len j = false) : okB p len = false := by
  cases hk : okB p len with
  | false => rfl
  | true =>
    exfalso
    simp only [okB, headB, offB, moreB, wholeB, inB, Bool.and_eq_true, Bool.or_eq_true, decide_eq_true_eq, beq_iff_eq, Bool.not_eq_true', beq_eq_false_iff_ne] at hk
    obtain ⟨⟨⟨⟨⟨⟨⟨a1, a2⟩, a3⟩, a4⟩, a5⟩, ⟨⟨a6, a7⟩, a8⟩⟩, a9⟩, a10⟩ := hk
    have e := Int.tmod_eq_emod_of_nonneg (b := 4) a6.1
    have ht : chk p len j = true := by
      match j, hj with
      | 0, _ => simp [chk, inB, a1, a2, a3, a4]
      | 1, _ => simp [chk, inB, a5]
      | 2, _ => simp [chk, inB, a6, e, a7]
      | 3, _ => simp [chk]; omega
      | 4, _ =>
        simp only [chk, Bool.or_eq_true, Bool.not_eq_true', Bool.and_eq_true, decide_eq_true_eq, beq_iff_eq]
        rcases a9 with a9 | a9
        · exact Or.inl a9
        · exact Or.inr ⟨by omega, a9.2⟩
      | 5, _ => simpa [chk] using a10
    rw [ht] at h
    cases h

theorem chk0 (p : Pk) (len : Nat) (w : World) : Calls Try.prog 76 #[p.kval len] w fun e w' => e = .returned (.bool (chk p len 0)) ∧ Below w.heap.size w w' := key_any p len w
theorem chk1 (p : Pk) (len : Nat) (w : World) : Calls Try.prog 77 #[p.kval len] w fun e w' => e = .returned (.bool (chk p len 1)) ∧ Below w.heap.size w w' := hops_any p len w
theorem chk2 (p : Pk) (len : Nat) (w : World) : Calls Try.prog 78 #[p.kval len] w fun e w' => e = .returned (.bool (chk p len 2)) ∧ Below w.heap.size w w' := begins_any p len w
theorem chk3 (p : Pk) (len : Nat) (w : World) (hl : len ≤ 1048576) : Calls Try.prog 79 #[p.kval len] w fun e w' => e = .returned (.bool (chk p len 3)) ∧ Below w.heap.size w w' := ends_any p len w (by omega) (by omega)
theorem chk4 (p : Pk) (len : Nat) (w : World) (hl : len ≤ 1048576) : Calls Try.prog 80 #[p.kval len] w fun e w' => e = .returned (.bool (chk p len 4)) ∧ Below w.heap.size w w' := leaves_any p len w hl
theorem chk5 (p : Pk) (len : Nat) (w : World) : Calls Try.prog 81 #[p.kval len] w fun e w' => e = .returned (.bool (chk p len 5)) ∧ Below w.heap.size w w' := whole_any p len w

/-- the keyed packet's cells; the six checks; the world at the loop's head -/
def kcells (p : Pk) (len : Nat) : Array Value := #[.int .i64 p.src, .int .i64 p.dst, .int .i64 p.kind, .int .i64 p.id, .int .i64 p.hops, .bool p.whole, .int .i64 p.off, .bool p.more, .int .i64 len]
def sixF : Array Value := #[.func (.func 76) #[] #[], .func (.func 77) #[] #[], .func (.func 78) #[] #[], .func (.func 79) #[] #[], .func (.func 80) #[] #[], .func (.func 81) #[] #[]]
def headW (w1 : World) (p : Pk) (len : Nat) : World := (w1.alloc (.cells (kcells p len) 72)).alloc (.cells sixF 78)
theorem headW_size (w1 : World) (p : Pk) (len : Nat) : (headW w1 p len).heap.size = w1.heap.size + 2 := by simp [headW]
theorem headW_k {w1 wr : World} {p : Pk} {len j : Nat} {v : Value} (hb : Below (w1.heap.size + 2) (headW w1 p len) wr) (h : (kcells p len)[j]? = some v) : wr.cell? ⟨w1.heap.size, j, none⟩ = some v := by
  rw [hb.cell (p := ⟨w1.heap.size, j, none⟩) (by simp), headW, World.cell?_alloc_past _ _ _ (by simp), World.cell?_alloc_at _ _ _ _ rfl, h]
theorem headW_f {w1 wr : World} {p : Pk} {len j : Nat} {v : Value} (hb : Below (w1.heap.size + 2) (headW w1 p len) wr) (h : sixF[j]? = some v) : wr.cell? ⟨w1.heap.size + 1, j, none⟩ = some v := by
  rw [hb.cell (p := ⟨w1.heap.size + 1, j, none⟩) (by simp), headW, World.cell?_alloc_at _ _ _ _ (by simp), h]
theorem upto_succ {p : Pk} {len k : Nat} (h : ∀ j, j < k → chk p len j = true) (hk : chk p len k = true) : ∀ j, j < k + 1 → chk p len j = true := fun j hj => by
  rcases Nat.lt_or_ge j k with h' | h'
  · exact h j h'
  · obtain rfl : j = k := by omega
    exact hk

set_option maxHeartbeats 3200000 in
theorem implOk_any (p : Pk) (a : Option Addr) (len cap : Nat) (w : World) (hl : len ≤ 1048576) :
    Calls Try.prog 16 #[p.val (.slice a len cap)] w fun e w' => e = .returned (.bool (okB p len)) ∧ Below w.heap.size w w' := by
  unfold Pk.val
  go_enter Try.func16, Try.ntmps16
  go_wp2_with fail
  refine (keyed_any p a len cap _).mono ?_
  rintro e w1 ⟨rfl, hb1⟩
  have HB : Hid (Below w.heap.size w w1) := (Joins.below_alloc1 _ _).trans (hb1.mono (by simp))
  have hs1 : w.heap.size < w1.heap.size := Nat.lt_of_lt_of_le (by simp) hb1.size
  clear hb1
  unfold Pk.kval
  go_wp2_with fail
  refine (packetChecks_any _).mono ?_
  rintro e w2 ⟨rfl, rfl⟩
  go_wp2
  go_loopw [10] (fun i wr => ∃ k : Nat, k ≤ 6 ∧ i = .int .i64 k ∧ Hid (∀ j, j < k → chk p len j = true) ∧ Hid (Below (w1.heap.size + 2) (headW w1 p len) wr)) (fun i _ => 6 - (intOf i).toNat)
  case atStart => exact ⟨0, by omega, rfl, fun j hj => by omega, Below.refl _ _⟩
  case round =>
    obtain ⟨k, hk, rfl, HC, HW⟩ := hrel
    have c0 := headW_k HW.out (j := 0) (v := .int .i64 p.src) rfl
    have c1 := headW_k HW.out (j := 1) (v := .int .i64 p.dst) rfl
    have c2 := headW_k HW.out (j := 2) (v := .int .i64 p.kind) rfl
    have c3 := headW_k HW.out (j := 3) (v := .int .i64 p.id) rfl
    have c4 := headW_k HW.out (j := 4) (v := .int .i64 p.hops) rfl
    have c5 := headW_k HW.out (j := 5) (v := .bool p.whole) rfl
    have c6 := headW_k HW.out (j := 6) (v := .int .i64 p.off) rfl
    have c7 := headW_k HW.out (j := 7) (v := .bool p.more) rfl
    have c8 := headW_k HW.out (j := 8) (v := .int .i64 len) rfl
    have hsr : w1.heap.size + 2 ≤ wr.heap.size := by have := HW.out.size; rw [headW_size] at this; exact this
    have hlt1 : w1.heap.size < wr.heap.size := by omega
    have hlt2 : w1.heap.size + 1 < wr.heap.size := by omega
    have fin : ∀ wx : World, Below (w1.heap.size + 2) (headW w1 p len) wx → Below w.heap.size w wx := fun wx h =>
      ((HB.out.alloc (by omega) _).alloc (by simp; omega) _).trans (h.mono (by omega))
    have FIN := (show Hid (∀ wx : World, Below (w1.heap.size + 2) (headW w1 p len) wx → Below w.heap.size w wx) from fin)
    clear fin
    rcases (show k = 0 ∨ k = 1 ∨ k = 2 ∨ k = 3 ∨ k = 4 ∨ k = 5 ∨ k = 6 from by omega) with rfl | rfl | rfl | rfl | rfl | rfl | rfl
    · have f := headW_f HW.out (j := 0) (v := .func (.func 76) #[] #[]) rfl
      cases hv : chk p len 0
      · have HN : Hid (okB p len = false) := not_of_one p len 0 (by omega) hv
        go_wp2_with (go_at_call 76; refine (chk0 p len _).mono ?_; rintro e w' ⟨rfl, hb⟩)
        go_ret
        exact ⟨ret_bool HN.out.symm, FIN.out _ ((HW.out.alloc hsr _).trans (hb.mono (by simp; omega)))⟩
      · go_wp2_with (go_at_call 76; refine (chk0 p len _).mono ?_; rintro e w' ⟨rfl, hb⟩)
        go_roundw
        case rel => exact ⟨1, by omega, rfl, upto_succ HC.out hv, (HW.out.alloc hsr _).trans (hb.mono (by simp; omega))⟩
        case measure => simp [intOf]
    · have f := headW_f HW.out (j := 1) (v := .func (.func 77) #[] #[]) rfl
      cases hv : chk p len 1
      · have HN : Hid (okB p len = false) := not_of_one p len 1 (by omega) hv
        go_wp2_with (go_at_call 77; refine (chk1 p len _).mono ?_; rintro e w' ⟨rfl, hb⟩)
        go_ret
        exact ⟨ret_bool HN.out.symm, FIN.out _ ((HW.out.alloc hsr _).trans (hb.mono (by simp; omega)))⟩
      · go_wp2_with (go_at_call 77; refine (chk1 p len _).mono ?_; rintro e w' ⟨rfl, hb⟩)
        go_roundw
        case rel => exact ⟨2, by omega, rfl, upto_succ HC.out hv, (HW.out.alloc hsr _).trans (hb.mono (by simp; omega))⟩
        case measure => simp [intOf]
    · have f := headW_f HW.out (j := 2) (v := .func (.func 78) #[] #[]) rfl
      cases hv : chk p len 2
      · have HN : Hid (okB p len = false) := not_of_one p len 2 (by omega) hv
        go_wp2_with (go_at_call 78; refine (chk2 p len _).mono ?_; rintro e w' ⟨rfl, hb⟩)
        go_ret
        exact ⟨ret_bool HN.out.symm, FIN.out _ ((HW.out.alloc hsr _).trans (hb.mono (by simp; omega)))⟩
      · go_wp2_with (go_at_call 78; refine (chk2 p len _).mono ?_; rintro e w' ⟨rfl, hb⟩)
        go_roundw
        case rel => exact ⟨3, by omega, rfl, upto_succ HC.out hv, (HW.out.alloc hsr _).trans (hb.mono (by simp; omega))⟩
        case measure => simp [intOf]
    · have f := headW_f HW.out (j := 3) (v := .func (.func 79) #[] #[]) rfl
      cases hv : chk p len 3
      · have HN : Hid (okB p len = false) := not_of_one p len 3 (by omega) hv
        go_wp2_with (go_at_call 79; refine (chk3 p len _ hl).mono ?_; rintro e w' ⟨rfl, hb⟩)
        go_ret
        exact ⟨ret_bool HN.out.symm, FIN.out _ ((HW.out.alloc hsr _).trans (hb.mono (by simp; omega)))⟩
      · go_wp2_with (go_at_call 79; refine (chk3 p len _ hl).mono ?_; rintro e w' ⟨rfl, hb⟩)
        go_roundw
        case rel => exact ⟨4, by omega, rfl, upto_succ HC.out hv, (HW.out.alloc hsr _).trans (hb.mono (by simp; omega))⟩
        case measure => simp [intOf]
    · have f := headW_f HW.out (j := 4) (v := .func (.func 80) #[] #[]) rfl
      cases hv : chk p len 4
      · have HN : Hid (okB p len = false) := not_of_one p len 4 (by omega) hv
        go_wp2_with (go_at_call 80; refine (chk4 p len _ hl).mono ?_; rintro e w' ⟨rfl, hb⟩)
        go_ret
        exact ⟨ret_bool HN.out.symm, FIN.out _ ((HW.out.alloc hsr _).trans (hb.mono (by simp; omega)))⟩
      · go_wp2_with (go_at_call 80; refine (chk4 p len _ hl).mono ?_; rintro e w' ⟨rfl, hb⟩)
        go_roundw
        case rel => exact ⟨5, by omega, rfl, upto_succ HC.out hv, (HW.out.alloc hsr _).trans (hb.mono (by simp; omega))⟩
        case measure => simp [intOf]
    · have f := headW_f HW.out (j := 5) (v := .func (.func 81) #[] #[]) rfl
      cases hv : chk p len 5
      · have HN : Hid (okB p len = false) := not_of_one p len 5 (by omega) hv
        go_wp2_with (go_at_call 81; refine (chk5 p len _).mono ?_; rintro e w' ⟨rfl, hb⟩)
        go_ret
        exact ⟨ret_bool HN.out.symm, FIN.out _ ((HW.out.alloc hsr _).trans (hb.mono (by simp; omega)))⟩
      · go_wp2_with (go_at_call 81; refine (chk5 p len _).mono ?_; rintro e w' ⟨rfl, hb⟩)
        go_roundw
        case rel => exact ⟨6, by omega, rfl, upto_succ HC.out hv, (HW.out.alloc hsr _).trans (hb.mono (by simp; omega))⟩
        case measure => simp [intOf]
    · go_wp2
      go_ret
      exact ⟨ret_bool (ok_of_all p len HC.out).symm, FIN.out _ HW.out⟩
end Go.Proofs.Ytjbkgmbakjnlhaa

/- The walk of the law FnExactFragOk. -/
namespace Go.Proofs.Ytjbkgmbakjnlhaa
open Go.RowKit

set_option maxHeartbeats 1600000 in
theorem okLaw_any (p : Pk) (a : Option Addr) (len cap : Nat) (zs : List Int) (w : World) (hr : RdB w a len zs) (hm : (len : Int) ≤ 9223372036854775807) :
    Calls Try.prog 6 #[p.val (.slice a len cap)] w fun e w' => e = .returned (.bool true) ∧ Below w.heap.size w w' := by
  unfold Pk.val
  by_cases hl : 1048576 < (len : Int)
  · have hi : (if (1048576 : Int) < (len : Int) then (-1 : Int) else 1048576 - len) = -1 := if_pos hl
    have HI : Hid ((if (1048576 : Int) < (len : Int) then (-1 : Int) else 1048576 - len) = -1) := hi
    clear hi
    go_enter Try.func6, Try.ntmps6
    go_wp2_with (go_at_call 21; refine (szFragPacket_any p a len cap 1048576 _ (by omega) (by omega) hm).mono ?_; rw [HI.out]; rintro e w1 ⟨rfl, hb1⟩)
    go_ret
    exact ⟨rfl, (Joins.below_alloc1 _ _).trans (hb1.mono (by simp))⟩
  · have hi : (if (1048576 : Int) < (len : Int) then (-1 : Int) else 1048576 - len) = 1048576 - len := if_neg hl
    have HI : Hid ((if (1048576 : Int) < (len : Int) then (-1 : Int) else 1048576 - len) = 1048576 - len) := hi
    clear hi
    have hl' : len ≤ 1048576 := by omega
    go_enter Try.func6, Try.ntmps6
    go_wp2_with fail
    refine (szFragPacket_any p a len cap 1048576 _ (by omega) (by omega) hm).mono ?_
    rw [HI.out]
    rintro e w1 ⟨rfl, hb1⟩
    have B1 : Below w.heap.size w w1 := (Joins.below_alloc1 _ _).trans (hb1.mono (by simp))
    have X1 : Boxed w1 w.heap.size p (.slice a len cap) := (Boxed.new w p (.slice a len cap) 38).below hb1
    have r1 := hr.below B1
    clear hb1 HI
    obtain ⟨hlt, c0, c1, c2, c3, c4, c5, c6, c7, c8⟩ := id X1
    go_wp2_with fail
    refine (toFragPacket_any p a len cap zs _ r1 hl').mono ?_
    rintro e w2 ⟨g1, rfl, -, -, b2⟩
    have B2 : Below w.heap.size w w2 := B1.trans (b2.mono (by omega))
    have X2 := X1.below b2
    have r2 := r1.below b2
    clear c0 c1 c2 c3 c4 c5 c6 c7 c8 b2 B1 X1 r1
    clear hlt
    unfold Pk.val
    go_wp2_with fail
    refine (specOk_any p (some ⟨g1, 0, none⟩) len len _ hl').mono ?_
    rintro e w3 ⟨rfl, b3⟩
    have B3 : Below w.heap.size w w3 := B2.trans (b3.mono (by have := X2.lt; omega))
    have X3 := X2.below b3
    have r3 := r2.below b3
    clear b3 B2 X2 r2
    obtain ⟨hlt, c0, c1, c2, c3, c4, c5, c6, c7, c8⟩ := id X3
    go_wp2_with fail
    refine (toFragPacket_any p a len cap zs _ r3 hl').mono ?_
    rintro e w4 ⟨g2, rfl, hg2, hh2, b4⟩
    have B4 : Below w.heap.size w w4 := B3.trans (b4.mono (by omega))
    have X4 := X3.below b4
    have r4 := r3.below b4
    have d4 : RdB w4 (some ⟨g2, 0, none⟩) len zs := by have h := RdB.of_block hh2; rw [hr.1] at h; exact h
    clear c0 c1 c2 c3 c4 c5 c6 c7 c8 b4 B3 X3 r3 hh2 hlt
    unfold Pk.val
    go_wp2_with fail
    refine (implOk_any p (some ⟨g2, 0, none⟩) len len _ hl').mono ?_
    rintro e w5 ⟨rfl, b5⟩
    have b5' : Below w4.heap.size w4 w5 := (Joins.below_alloc1 _ _).trans (b5.mono (by simp))
    have B5 : Below w.heap.size w w5 := B4.trans (b5'.mono (by have := X4.lt; omega))
    have X5 := X4.below b5'
    have Y5 : Boxed w5 w4.heap.size p (.slice (some ⟨g2, 0, none⟩) len len) := (Boxed.new w4 p (.slice (some ⟨g2, 0, none⟩) len len) 24).below b5
    have r5 := r4.below b5'
    have d5 := d4.below b5'
    clear b5 b5' B4 X4 r4 d4
    obtain ⟨hlt, c0, c1, c2, c3, c4, c5, c6, c7, c8⟩ := id X5
    obtain ⟨klt, k0, k1, k2, k3, k4, k5, k6, k7, k8⟩ := id Y5
    have hb : ∀ x : Bool, (x != x) = false := fun x => by simp
    go_wp2
    go_region_held3 (fun w' => w'.cell? ⟨w.heap.size, 0, none⟩ = some (.int .i64 p.src) ∧ w'.cell? ⟨w.heap.size, 1, none⟩ = some (.int .i64 p.dst) ∧ w'.cell? ⟨w.heap.size, 2, none⟩ = some (.int .i64 p.kind) ∧ w'.cell? ⟨w.heap.size, 3, none⟩ = some (.int .i64 p.id) ∧ w'.cell? ⟨w.heap.size, 4, none⟩ = some (.int .i64 p.hops) ∧ w'.cell? ⟨w.heap.size, 5, none⟩ = some (.bool p.whole) ∧ w'.cell? ⟨w.heap.size, 6, none⟩ = some (.int .i64 p.off) ∧ w'.cell? ⟨w.heap.size, 7, none⟩ = some (.bool p.more) ∧ w'.cell? ⟨w.heap.size, 8, none⟩ = some (.slice a len cap) ∧ w'.cell? ⟨w4.heap.size, 0, none⟩ = some (.int .i64 p.src) ∧ w'.cell? ⟨w4.heap.size, 1, none⟩ = some (.int .i64 p.dst) ∧ w'.cell? ⟨w4.heap.size, 2, none⟩ = some (.int .i64 p.kind) ∧ w'.cell? ⟨w4.heap.size, 3, none⟩ = some (.int .i64 p.id) ∧ w'.cell? ⟨w4.heap.size, 4, none⟩ = some (.int .i64 p.hops) ∧ w'.cell? ⟨w4.heap.size, 5, none⟩ = some (.bool p.whole) ∧ w'.cell? ⟨w4.heap.size, 6, none⟩ = some (.int .i64 p.off) ∧ w'.cell? ⟨w4.heap.size, 7, none⟩ = some (.bool p.more) ∧ w'.cell? ⟨w4.heap.size, 8, none⟩ = some (.slice (some ⟨g2, 0, none⟩) len len)) (go_keep)
      (first
        | (go_at_call 22; refine (toFragPacket_any p a len cap zs _ (r5.below (draw1 _)) hl').mono ?_; rintro e w6 ⟨g3, rfl, hg3, hh3, b6⟩; unfold Pk.val; have hc6 : ∀ b o, b < w5.heap.size → w6.cell? ⟨b, o, none⟩ = w5.cell? ⟨b, o, none⟩ := fun b o h => b6.cell (p := ⟨b, o, none⟩) h; have d6 := d5.below ((draw1 _).trans b6); have e6 : RdB w6 (some ⟨g3, 0, none⟩) len zs := (by have h := RdB.of_block hh3; rw [hr.1] at h; exact h))
        | (go_at_call 23; refine (eqFragPacket_same p (some ⟨g2, 0, none⟩) (some ⟨g3, 0, none⟩) len len len zs _ d6 e6 hl').mono ?_; rintro e w7 ⟨rfl, b7⟩; have s7 : w5.heap.size ≤ w6.heap.size := b6.size; have hc7 : ∀ b o, b < w5.heap.size → w7.cell? ⟨b, o, none⟩ = w6.cell? ⟨b, o, none⟩ := fun b o h => b7.cell (p := ⟨b, o, none⟩) (Nat.lt_of_lt_of_le h s7)))
    go_wp2
    go_ret
    exact ⟨rfl, B5.trans (((draw1 _).trans b6 |>.mono (by omega)).trans (b7.mono (by omega)))⟩
end Go.Proofs.Ytjbkgmbakjnlhaa

/- Contracts of the two FragSize; the walk of the law FnExactFragSize. -/
namespace Go.Proofs.Ytjbkgmbakjnlhaa
open Go.RowKit

/-- how many bytes a packet has on a wire -/
def sizeI (p : Pk) (len : Nat) : Int := if okB p len = true then 8 + (len : Int) else 0

set_option maxHeartbeats 400000 in
theorem specSize_any (p : Pk) (a : Option Addr) (len cap : Nat) (w : World) (hl : len ≤ 1048576) :
    Calls Try.prog 24 #[p.val (.slice a len cap)] w fun e w' => e = .returned (.int .i64 (sizeI p len)) ∧ Below w.heap.size w w' := by
  unfold Pk.val
  cases hv : okB p len
  all_goals
    have HS : Hid (sizeI p len = if okB p len = true then 8 + (len : Int) else 0) := rfl
    go_enter Try.func24, Try.ntmps24
    go_wp2_with fail
    refine (specOk_any p a len cap _ hl).mono ?_
    rintro e w1 ⟨rfl, b1⟩
    have X := (Boxed.new w p (.slice a len cap) 24).below b1
    have B : Below w.heap.size w w1 := (Joins.below_alloc1 _ _).trans (b1.mono (by simp))
    obtain ⟨hlt, c0, c1, c2, c3, c4, c5, c6, c7, c8⟩ := X
    clear b1
    go_wp2
    go_ret
    exact ⟨ret_int (by rw [HS.out, hv]; simp), B⟩

set_option maxHeartbeats 400000 in
theorem implSize_any (p : Pk) (a : Option Addr) (len cap : Nat) (w : World) (hl : len ≤ 1048576) :
    Calls Try.prog 25 #[p.val (.slice a len cap)] w fun e w' => e = .returned (.int .i64 (sizeI p len)) ∧ Below w.heap.size w w' := by
  unfold Pk.val
  cases hv : okB p len
  all_goals
    have HS : Hid (sizeI p len = if okB p len = true then 8 + (len : Int) else 0) := rfl
    go_enter Try.func25, Try.ntmps25
    go_wp2_with fail
    refine (implOk_any p a len cap _ hl).mono ?_
    rintro e w1 ⟨rfl, b1⟩
    have X := (Boxed.new w p (.slice a len cap) 24).below b1
    have B : Below w.heap.size w w1 := (Joins.below_alloc1 _ _).trans (b1.mono (by simp))
    obtain ⟨hlt, c0, c1, c2, c3, c4, c5, c6, c7, c8⟩ := X
    clear b1
    go_wp2
    go_ret
    exact ⟨ret_int (by rw [HS.out, hv]; simp), B⟩

set_option maxHeartbeats 1600000 in
theorem sizeLaw_any (p : Pk) (a : Option Addr) (len cap : Nat) (zs : List Int) (w : World) (hr : RdB w a len zs) (hm : (len : Int) ≤ 9223372036854775807) :
    Calls Try.prog 7 #[p.val (.slice a len cap)] w fun e w' => e = .returned (.bool true) ∧ Below w.heap.size w w' := by
  unfold Pk.val
  by_cases hl : 1048576 < (len : Int)
  · have hi : (if (1048576 : Int) < (len : Int) then (-1 : Int) else 1048576 - len) = -1 := if_pos hl
    have HI : Hid ((if (1048576 : Int) < (len : Int) then (-1 : Int) else 1048576 - len) = -1) := hi
    clear hi
    go_enter Try.func7, Try.ntmps7
    go_wp2_with (go_at_call 21; refine (szFragPacket_any p a len cap 1048576 _ (by omega) (by omega) hm).mono ?_; rw [HI.out]; rintro e w1 ⟨rfl, hb1⟩)
    go_ret
    exact ⟨rfl, (Joins.below_alloc1 _ _).trans (hb1.mono (by simp))⟩
  · have hi : (if (1048576 : Int) < (len : Int) then (-1 : Int) else 1048576 - len) = 1048576 - len := if_neg hl
    have HI : Hid ((if (1048576 : Int) < (len : Int) then (-1 : Int) else 1048576 - len) = 1048576 - len) := hi
    clear hi
    have hl' : len ≤ 1048576 := by omega
    go_enter Try.func7, Try.ntmps7
    go_wp2_with fail
    refine (szFragPacket_any p a len cap 1048576 _ (by omega) (by omega) hm).mono ?_
    rw [HI.out]
    rintro e w1 ⟨rfl, hb1⟩
    have B1 : Below w.heap.size w w1 := (Joins.below_alloc1 _ _).trans (hb1.mono (by simp))
    have X1 : Boxed w1 w.heap.size p (.slice a len cap) := (Boxed.new w p (.slice a len cap) 38).below hb1
    have r1 := hr.below B1
    clear hb1 HI
    obtain ⟨hlt, c0, c1, c2, c3, c4, c5, c6, c7, c8⟩ := id X1
    go_wp2_with fail
    refine (toFragPacket_any p a len cap zs _ r1 hl').mono ?_
    rintro e w2 ⟨g1, rfl, -, -, b2⟩
    have B2 : Below w.heap.size w w2 := B1.trans (b2.mono (by omega))
    have X2 := X1.below b2
    have r2 := r1.below b2
    clear c0 c1 c2 c3 c4 c5 c6 c7 c8 b2 B1 X1 r1
    clear hlt
    unfold Pk.val
    go_wp2_with fail
    refine (specSize_any p (some ⟨g1, 0, none⟩) len len _ hl').mono ?_
    rintro e w3 ⟨rfl, b3⟩
    have B3 : Below w.heap.size w w3 := B2.trans (b3.mono (by have := X2.lt; omega))
    have X3 := X2.below b3
    have r3 := r2.below b3
    clear b3 B2 X2 r2
    obtain ⟨hlt, c0, c1, c2, c3, c4, c5, c6, c7, c8⟩ := id X3
    go_wp2_with fail
    refine (toFragPacket_any p a len cap zs _ r3 hl').mono ?_
    rintro e w4 ⟨g2, rfl, hg2, hh2, b4⟩
    have B4 : Below w.heap.size w w4 := B3.trans (b4.mono (by omega))
    have X4 := X3.below b4
    have r4 := r3.below b4
    have d4 : RdB w4 (some ⟨g2, 0, none⟩) len zs := by have h := RdB.of_block hh2; rw [hr.1] at h; exact h
    clear c0 c1 c2 c3 c4 c5 c6 c7 c8 b4 B3 X3 r3 hh2 hlt
    unfold Pk.val
    go_wp2_with fail
    refine (implSize_any p (some ⟨g2, 0, none⟩) len len _ hl').mono ?_
    rintro e w5 ⟨rfl, b5⟩
    have b5' : Below w4.heap.size w4 w5 := (Joins.below_alloc1 _ _).trans (b5.mono (by simp))
    have B5 : Below w.heap.size w w5 := B4.trans (b5'.mono (by have := X4.lt; omega))
    have X5 := X4.below b5'
    have Y5 : Boxed w5 w4.heap.size p (.slice (some ⟨g2, 0, none⟩) len len) := (Boxed.new w4 p (.slice (some ⟨g2, 0, none⟩) len len) 24).below b5
    have r5 := r4.below b5'
    have d5 := d4.below b5'
    clear b5 b5' B4 X4 r4 d4
    obtain ⟨hlt, c0, c1, c2, c3, c4, c5, c6, c7, c8⟩ := id X5
    obtain ⟨klt, k0, k1, k2, k3, k4, k5, k6, k7, k8⟩ := id Y5
    have hb : ∀ x : Int, (x != x) = false := fun x => by simp
    go_wp2
    go_region_held3 (fun w' => w'.cell? ⟨w.heap.size, 0, none⟩ = some (.int .i64 p.src) ∧ w'.cell? ⟨w.heap.size, 1, none⟩ = some (.int .i64 p.dst) ∧ w'.cell? ⟨w.heap.size, 2, none⟩ = some (.int .i64 p.kind) ∧ w'.cell? ⟨w.heap.size, 3, none⟩ = some (.int .i64 p.id) ∧ w'.cell? ⟨w.heap.size, 4, none⟩ = some (.int .i64 p.hops) ∧ w'.cell? ⟨w.heap.size, 5, none⟩ = some (.bool p.whole) ∧ w'.cell? ⟨w.heap.size, 6, none⟩ = some (.int .i64 p.off) ∧ w'.cell? ⟨w.heap.size, 7, none⟩ = some (.bool p.more) ∧ w'.cell? ⟨w.heap.size, 8, none⟩ = some (.slice a len cap) ∧ w'.cell? ⟨w4.heap.size, 0, none⟩ = some (.int .i64 p.src) ∧ w'.cell? ⟨w4.heap.size, 1, none⟩ = some (.int .i64 p.dst) ∧ w'.cell? ⟨w4.heap.size, 2, none⟩ = some (.int .i64 p.kind) ∧ w'.cell? ⟨w4.heap.size, 3, none⟩ = some (.int .i64 p.id) ∧ w'.cell? ⟨w4.heap.size, 4, none⟩ = some (.int .i64 p.hops) ∧ w'.cell? ⟨w4.heap.size, 5, none⟩ = some (.bool p.whole) ∧ w'.cell? ⟨w4.heap.size, 6, none⟩ = some (.int .i64 p.off) ∧ w'.cell? ⟨w4.heap.size, 7, none⟩ = some (.bool p.more) ∧ w'.cell? ⟨w4.heap.size, 8, none⟩ = some (.slice (some ⟨g2, 0, none⟩) len len)) (go_keep)
      (first
        | (go_at_call 22; refine (toFragPacket_any p a len cap zs _ (r5.below (draw1 _)) hl').mono ?_; rintro e w6 ⟨g3, rfl, hg3, hh3, b6⟩; unfold Pk.val; have hc6 : ∀ b o, b < w5.heap.size → w6.cell? ⟨b, o, none⟩ = w5.cell? ⟨b, o, none⟩ := fun b o h => b6.cell (p := ⟨b, o, none⟩) h; have d6 := d5.below ((draw1 _).trans b6); have e6 : RdB w6 (some ⟨g3, 0, none⟩) len zs := (by have h := RdB.of_block hh3; rw [hr.1] at h; exact h))
        | (go_at_call 23; refine (eqFragPacket_same p (some ⟨g2, 0, none⟩) (some ⟨g3, 0, none⟩) len len len zs _ d6 e6 hl').mono ?_; rintro e w7 ⟨rfl, b7⟩; have s7 : w5.heap.size ≤ w6.heap.size := b6.size; have hc7 : ∀ b o, b < w5.heap.size → w7.cell? ⟨b, o, none⟩ = w6.cell? ⟨b, o, none⟩ := fun b o h => b7.cell (p := ⟨b, o, none⟩) (Nat.lt_of_lt_of_le h s7)))
    go_wp2
    go_ret
    exact ⟨rfl, B5.trans (((draw1 _).trans b6 |>.mono (by omega)).trans (b7.mono (by omega)))⟩
end Go.Proofs.Ytjbkgmbakjnlhaa
