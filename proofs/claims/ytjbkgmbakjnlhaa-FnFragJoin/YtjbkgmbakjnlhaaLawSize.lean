/- Contracts of the two FragSize; the walk of the law FnExactFragSize. -/
import Derived.Test.YtjbkgmbakjnlhaaLawOk
namespace Go.Proofs.Ytjbkgmbakjnlhaa
open Go.RowKit

/-- how many bytes a packet has on a wire -/
def sizeI (p : Pk) (len : Nat) : Int := if okB p len = true then 8 + (len : Int) else 0

set_option maxHeartbeats 400000 in
theorem specSize_any (p : Pk) (a : Option Addr) (len cap : Nat) (w : World) (hl : len ≤ 1048576) :
    Calls Try.prog 24 #[p.val (.slice a len cap)] w fun e w' => e = .returned (.int .i64 (sizeI p len)) ∧ Below w.heap.size w w' := by
  unfold Pk.val
  cases hv : okB p len
  all_goals
    have HS : Hid (sizeI p len = if okB p len = true then 8 + (len : Int) else 0) := rfl
    go_enter Try.func24, Try.ntmps24
    go_wp2_with fail
    refine (specOk_any p a len cap _ hl).mono ?_
    rintro e w1 ⟨rfl, b1⟩
    have X := (Boxed.new w p (.slice a len cap) 24).below b1
    have B : Below w.heap.size w w1 := (Joins.below_alloc1 _ _).trans (b1.mono (by simp))
    obtain ⟨hlt, c0, c1, c2, c3, c4, c5, c6, c7, c8⟩ := X
    clear b1
    go_wp2
    go_ret
    exact ⟨ret_int (by rw [HS.out, hv]; simp), B⟩

set_option maxHeartbeats 400000 in
theorem implSize_any (p : Pk) (a : Option Addr) (len cap : Nat) (w : World) (hl : len ≤ 1048576) :
    Calls Try.prog 25 #[p.val (.slice a len cap)] w fun e w' => e = .returned (.int .i64 (sizeI p len)) ∧ Below w.heap.size w w' := by
  unfold Pk.val
  cases hv : okB p len
  all_goals
    have HS : Hid (sizeI p len = if okB p len = true then 8 + (len : Int) else 0) := rfl
    go_enter Try.func25, Try.ntmps25
    go_wp2_with fail
    refine (implOk_any p a len cap _ hl).mono ?_
    rintro e w1 ⟨rfl, b1⟩
    have X := (Boxed.new w p (.slice a len cap) 24).below b1
    have B : Below w.heap.size w w1 := (Joins.below_alloc1 _ _).trans (b1.mono (by simp))
    obtain ⟨hlt, c0, c1, c2, c3, c4, c5, c6, c7, c8⟩ := X
    clear b1
    go_wp2
    go_ret
    exact ⟨ret_int (by rw [HS.out, hv]; simp), B⟩

set_option maxHeartbeats 1600000 in
theorem sizeLaw_any (p : Pk) (a : Option Addr) (len cap : Nat) (zs : List Int) (w : World) (hr : RdB w a len zs) (hm : (len : Int) ≤ 9223372036854775807) :
    Calls Try.prog 7 #[p.val (.slice a len cap)] w fun e w' => e = .returned (.bool true) ∧ Below w.heap.size w w' := by
  unfold Pk.val
  by_cases hl : 1048576 < (len : Int)
  · have hi : (if (1048576 : Int) < (len : Int) then (-1 : Int) else 1048576 - len) = -1 := if_pos hl
    have HI : Hid ((if (1048576 : Int) < (len : Int) then (-1 : Int) else 1048576 - len) = -1) := hi
    clear hi
    go_enter Try.func7, Try.ntmps7
    go_wp2_with (go_at_call 21; refine (szFragPacket_any p a len cap 1048576 _ (by omega) (by omega) hm).mono ?_; rw [HI.out]; rintro e w1 ⟨rfl, hb1⟩)
    go_ret
    exact ⟨rfl, (Joins.below_alloc1 _ _).trans (hb1.mono (by simp))⟩
  · have hi : (if (1048576 : Int) < (len : Int) then (-1 : Int) else 1048576 - len) = 1048576 - len := if_neg hl
    have HI : Hid ((if (1048576 : Int) < (len : Int) then (-1 : Int) else 1048576 - len) = 1048576 - len) := hi
    clear hi
    have hl' : len ≤ 1048576 := by omega
    go_enter Try.func7, Try.ntmps7
    go_wp2_with fail
    refine (szFragPacket_any p a len cap 1048576 _ (by omega) (by omega) hm).mono ?_
    rw [HI.out]
    rintro e w1 ⟨rfl, hb1⟩
    have B1 : Below w.heap.size w w1 := (Joins.below_alloc1 _ _).trans (hb1.mono (by simp))
    have X1 : Boxed w1 w.heap.size p (.slice a len cap) := (Boxed.new w p (.slice a len cap) 38).below hb1
    have r1 := hr.below B1
    clear hb1 HI
    obtain ⟨hlt, c0, c1, c2, c3, c4, c5, c6, c7, c8⟩ := id X1
    go_wp2_with fail
    refine (toFragPacket_any p a len cap zs _ r1 hl').mono ?_
    rintro e w2 ⟨g1, rfl, -, -, b2⟩
    have B2 : Below w.heap.size w w2 := B1.trans (b2.mono (by omega))
    have X2 := X1.below b2
    have r2 := r1.below b2
    clear c0 c1 c2 c3 c4 c5 c6 c7 c8 b2 B1 X1 r1
    clear hlt
    unfold Pk.val
    go_wp2_with fail
    refine (specSize_any p (some ⟨g1, 0, none⟩) len len _ hl').mono ?_
    rintro e w3 ⟨rfl, b3⟩
    have B3 : Below w.heap.size w w3 := B2.trans (b3.mono (by have := X2.lt; omega))
    have X3 := X2.below b3
    have r3 := r2.below b3
    clear b3 B2 X2 r2
    obtain ⟨hlt, c0, c1, c2, c3, c4, c5, c6, c7, c8⟩ := id X3
    go_wp2_with fail
    refine (toFragPacket_any p a len cap zs _ r3 hl').mono ?_
    rintro e w4 ⟨g2, rfl, hg2, hh2, b4⟩
    have B4 : Below w.heap.size w w4 := B3.trans (b4.mono (by omega))
    have X4 := X3.below b4
    have r4 := r3.below b4
    have d4 : RdB w4 (some ⟨g2, 0, none⟩) len zs := by have h := RdB.of_block hh2; rw [hr.1] at h; exact h
    clear c0 c1 c2 c3 c4 c5 c6 c7 c8 b4 B3 X3 r3 hh2 hlt
    unfold Pk.val
    go_wp2_with fail
    refine (implSize_any p (some ⟨g2, 0, none⟩) len len _ hl').mono ?_
    rintro e w5 ⟨rfl, b5⟩
    have b5' : Below w4.heap.size w4 w5 := (Joins.below_alloc1 _ _).trans (b5.mono (by simp))
    have B5 : Below w.heap.size w w5 := B4.trans (b5'.mono (by have := X4.lt; omega))
    have X5 := X4.below b5'
    have Y5 : Boxed w5 w4.heap.size p (.slice (some ⟨g2, 0, none⟩) len len) := (Boxed.new w4 p (.slice (some ⟨g2, 0, none⟩) len len) 24).below b5
    have r5 := r4.below b5'
    have d5 := d4.below b5'
    clear b5 b5' B4 X4 r4 d4
    obtain ⟨hlt, c0, c1, c2, c3, c4, c5, c6, c7, c8⟩ := id X5
    obtain ⟨klt, k0, k1, k2, k3, k4, k5, k6, k7, k8⟩ := id Y5
    have hb : ∀ x : Int, (x != x) = false := fun x => by simp
    go_wp2
    go_region_held3 (fun w' => w'.cell? ⟨w.heap.size, 0, none⟩ = some (.int .i64 p.src) ∧ w'.cell? ⟨w.heap.size, 1, none⟩ = some (.int .i64 p.dst) ∧ w'.cell? ⟨w.heap.size, 2, none⟩ = some (.int .i64 p.kind) ∧ w'.cell? ⟨w.heap.size, 3, none⟩ = some (.int .i64 p.id) ∧ w'.cell? ⟨w.heap.size, 4, none⟩ = some (.int .i64 p.hops) ∧ w'.cell? ⟨w.heap.size, 5, none⟩ = some (.bool p.whole) ∧ w'.cell? ⟨w.heap.size, 6, none⟩ = some (.int .i64 p.off) ∧ w'.cell? ⟨w.heap.size, 7, none⟩ = some (.bool p.more) ∧ w'.cell? ⟨w.heap.size, 8, none⟩ = some (.slice a len cap) ∧ w'.cell? ⟨w4.heap.size, 0, none⟩ = some (.int .i64 p.src) ∧ w'.cell? ⟨w4.heap.size, 1, none⟩ = some (.int .i64 p.dst) ∧ w'.cell? ⟨w4.heap.size, 2, none⟩ = some (.int .i64 p.kind) ∧ w'.cell? ⟨w4.heap.size, 3, none⟩ = some (.int .i64 p.id) ∧ w'.cell? ⟨w4.heap.size, 4, none⟩ = some (.int .i64 p.hops) ∧ w'.cell? ⟨w4.heap.size, 5, none⟩ = some (.bool p.whole) ∧ w'.cell? ⟨w4.heap.size, 6, none⟩ = some (.int .i64 p.off) ∧ w'.cell? ⟨w4.heap.size, 7, none⟩ = some (.bool p.more) ∧ w'.cell? ⟨w4.heap.size, 8, none⟩ = some (.slice (some ⟨g2, 0, none⟩) len len)) (go_keep)
      (first
        | (go_at_call 22; refine (toFragPacket_any p a len cap zs _ (r5.below (draw1 _)) hl').mono ?_; rintro e w6 ⟨g3, rfl, hg3, hh3, b6⟩; unfold Pk.val; have hc6 : ∀ b o, b < w5.heap.size → w6.cell? ⟨b, o, none⟩ = w5.cell? ⟨b, o, none⟩ := fun b o h => b6.cell (p := ⟨b, o, none⟩) h; have d6 := d5.below ((draw1 _).trans b6); have e6 : RdB w6 (some ⟨g3, 0, none⟩) len zs := (by have h := RdB.of_block hh3; rw [hr.1] at h; exact h))
        | (go_at_call 23; refine (eqFragPacket_same p (some ⟨g2, 0, none⟩) (some ⟨g3, 0, none⟩) len len len zs _ d6 e6 hl').mono ?_; rintro e w7 ⟨rfl, b7⟩; have s7 : w5.heap.size ≤ w6.heap.size := b6.size; have hc7 : ∀ b o, b < w5.heap.size → w7.cell? ⟨b, o, none⟩ = w6.cell? ⟨b, o, none⟩ := fun b o h => b7.cell (p := ⟨b, o, none⟩) (Nat.lt_of_lt_of_le h s7)))
    go_wp2
    go_ret
    exact ⟨rfl, B5.trans (((draw1 _).trans b6 |>.mono (by omega)).trans (b7.mono (by omega)))⟩
end Go.Proofs.Ytjbkgmbakjnlhaa
