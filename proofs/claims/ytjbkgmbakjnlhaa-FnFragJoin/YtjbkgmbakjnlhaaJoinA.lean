/- Where a piece ends; whether two pieces disagree: the program's way. -/
import Derived.Test.YtjbkgmbakjnlhaaAlikeF
import Derived.Laws.BytesArg
import Derived.Deep.CutRange
import Derived.Deep.DeepCutAuto
namespace Go.Proofs.Ytjbkgmbakjnlhaa
open Go.RowKit

/-- one goes on behind the end that the other one tells of -/
def behindB (x y : PB) : Bool := !y.1.more && decide (endOf y < endOf x)
def fromI (x y : PB) : Int := if y.1.off > x.1.off then y.1.off else x.1.off
def toI (x y : PB) : Int := if endOf y < endOf x then endOf y else endOf x
/-- the bytes of one that lie where both have some -/
def cutD (x y z : PB) : List Int := (z.2.drop (fromI x y - z.1.off).toNat).take (toI x y - fromI x y).toNat
def differB (x y : PB) : Bool := decide (fromI x y < toI x y) && !((strOfNums (cutD x y x)).toList == (strOfNums (cutD x y y)).toList)
def disB (x y : PB) : Bool := differB x y || behindB x y || behindB y x

set_option maxHeartbeats 400000 in
theorem endOf_any (p : Pk) (a : Option Addr) (len c : Nat) (w : World) (h0 : 0 ≤ p.off) (h1 : p.off ≤ 128) (hl : len ≤ 1048576) :
    Calls Try.prog 71 #[p.val (.slice a len c)] w fun e w' => e = .returned (.int .i64 (p.off + len)) ∧ Below w.heap.size w w' := by
  unfold Pk.val
  go_enter Try.func71, Try.ntmps71
  go_wp2
  go_ret
  exact ⟨rfl, Joins.below_alloc1 _ _⟩

set_option maxHeartbeats 800000 in
theorem equal_any (b1 o1 b2 o2 n c1 c2 : Nat) (xs ys : List Int) (w : World) (hx : xs.length = n) (hy : ys.length = n)
    (h1 : ∀ i, i < n → w.cell? ⟨b1, o1 + i, none⟩ = some (.int .u8 (xs.getD i 0))) (h2 : ∀ i, i < n → w.cell? ⟨b2, o2 + i, none⟩ = some (.int .u8 (ys.getD i 0))) :
    Calls Try.prog 87 #[.slice (some ⟨b1, o1, none⟩) n c1, .slice (some ⟨b2, o2, none⟩) n c2] w fun e w' => e = .returned (.bool ((strOfNums xs).toList == (strOfNums ys).toList)) ∧ w' = w := by
  have e1 := run_convert_bytes_arg (P := Try.prog) w 22 5 Try.underlying22 Try.underlying5 b1 o1 n c1 xs hx h1 9 Try.underlying9
  have e2 := run_convert_bytes_arg (P := Try.prog) w 22 5 Try.underlying22 Try.underlying5 b2 o2 n c2 ys hy h2 9 Try.underlying9
  clear h1 h2
  go_enter Try.func87, Try.ntmps87
  go_wp2
  go_ret
  exact ⟨rfl, rfl⟩

set_option maxHeartbeats 1600000 in
theorem endsBehind_any (p q : Pk) (a b : Option Addr) (zs ys : List Int) (c d : Nat) (w : World) (hp0 : 0 ≤ p.off) (hp1 : p.off ≤ 128) (hq0 : 0 ≤ q.off) (hq1 : q.off ≤ 128) (hp : zs.length ≤ 1048576) (hq : ys.length ≤ 1048576) :
    Calls Try.prog 70 #[p.val (.slice a zs.length c), q.val (.slice b ys.length d)] w fun e w' => e = .returned (.bool (behindB (p, zs) (q, ys))) ∧ Below w.heap.size w w' := by
  obtain ⟨s2, d2, k2, i2, h2, w2, o2, m2⟩ := q
  cases m2
  · have HB : Hid (behindB (p, zs) (⟨s2, d2, k2, i2, h2, w2, o2, false⟩, ys) = decide (o2 + (ys.length : Int) < p.off + (zs.length : Int))) := (show behindB (p, zs) (⟨s2, d2, k2, i2, h2, w2, o2, false⟩, ys) = _ by simp [behindB, endOf]; rfl)
    unfold Pk.val
    go_enter Try.func70, Try.ntmps70
    go_wp2
    go_region_held3 (fun w' => w.heap.size + 2 ≤ w'.heap.size ∧ w'.cell? ⟨w.heap.size, 0, none⟩ = some (.int .i64 p.src) ∧ w'.cell? ⟨w.heap.size, 1, none⟩ = some (.int .i64 p.dst) ∧ w'.cell? ⟨w.heap.size, 2, none⟩ = some (.int .i64 p.kind) ∧ w'.cell? ⟨w.heap.size, 3, none⟩ = some (.int .i64 p.id) ∧ w'.cell? ⟨w.heap.size, 4, none⟩ = some (.int .i64 p.hops) ∧ w'.cell? ⟨w.heap.size, 5, none⟩ = some (.bool p.whole) ∧ w'.cell? ⟨w.heap.size, 6, none⟩ = some (.int .i64 p.off) ∧ w'.cell? ⟨w.heap.size, 7, none⟩ = some (.bool p.more) ∧ w'.cell? ⟨w.heap.size, 8, none⟩ = some (.slice a zs.length c) ∧ w'.cell? ⟨w.heap.size + 1, 0, none⟩ = some (.int .i64 s2) ∧ w'.cell? ⟨w.heap.size + 1, 1, none⟩ = some (.int .i64 d2) ∧ w'.cell? ⟨w.heap.size + 1, 2, none⟩ = some (.int .i64 k2) ∧ w'.cell? ⟨w.heap.size + 1, 3, none⟩ = some (.int .i64 i2) ∧ w'.cell? ⟨w.heap.size + 1, 4, none⟩ = some (.int .i64 h2) ∧ w'.cell? ⟨w.heap.size + 1, 5, none⟩ = some (.bool w2) ∧ w'.cell? ⟨w.heap.size + 1, 6, none⟩ = some (.int .i64 o2) ∧ w'.cell? ⟨w.heap.size + 1, 7, none⟩ = some (.bool false) ∧ w'.cell? ⟨w.heap.size + 1, 8, none⟩ = some (.slice b ys.length d)) (go_keep)
      (first
        | (go_at_call 71; refine (endOf_any p a zs.length c _ hp0 hp1 hp).mono ?_; rintro e w3 ⟨rfl, b3⟩; have hc3 : ∀ b o, b < w.heap.size + 2 → w3.cell? ⟨b, o, none⟩ = _ := fun b o h => b3.cell (p := ⟨b, o, none⟩) (by simpa using h); have hs3 : w.heap.size + 2 ≤ w3.heap.size := Nat.le_trans (by simp) b3.size)
        | (go_at_call 71; refine (endOf_any ⟨s2, d2, k2, i2, h2, w2, o2, false⟩ b ys.length d _ hq0 hq1 hq).mono ?_; rintro e w4 ⟨rfl, b4⟩; have hc4 : ∀ b o, b < w.heap.size + 2 → w4.cell? ⟨b, o, none⟩ = _ := fun b o h => b4.cell (p := ⟨b, o, none⟩) (Nat.lt_of_lt_of_le h hs3); have hs4 : w.heap.size + 2 ≤ w4.heap.size := Nat.le_trans hs3 b4.size))
    go_wp2
    go_ret
    exact ⟨ret_bool HB.out.symm, ((Joins.below_alloc2 _ _ _).drew.trans (b3.mono (by simp; omega))).trans (b4.mono (by omega))⟩
  · have HB : Hid (behindB (p, zs) (⟨s2, d2, k2, i2, h2, w2, o2, true⟩, ys) = false) := (show behindB (p, zs) (⟨s2, d2, k2, i2, h2, w2, o2, true⟩, ys) = _ by simp [behindB])
    unfold Pk.val
    go_enter Try.func70, Try.ntmps70
    go_wp2
    go_quiet (fail)
    go_wp2
    go_ret
    exact ⟨ret_bool HB.out.symm, (Joins.below_alloc2 _ _ _).trans (Joins.below_draws _ _ _)⟩

end Go.Proofs.Ytjbkgmbakjnlhaa
