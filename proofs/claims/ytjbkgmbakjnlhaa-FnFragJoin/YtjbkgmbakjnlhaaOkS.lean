/- The contract of the specification's FragOk. -/
import Derived.Test.YtjbkgmbakjnlhaaPack
namespace Go.Proofs.Ytjbkgmbakjnlhaa
open Go.RowKit

def headB (p : Pk) : Bool := inB p.src 0 65535 && inB p.dst 0 65535 && inB p.kind 1 7 && inB p.id 0 255 && inB p.hops 1 64
def offB (p : Pk) (len : Nat) : Bool := inB p.off 0 128 && (p.off % 4 == 0) && decide ((len : Int) ≤ 128 - p.off)
def moreB (p : Pk) (len : Nat) : Bool := !p.more || (!((len : Int) == 0) && ((len : Int) % 4 == 0))
def wholeB (p : Pk) : Bool := !p.whole || ((p.off == 0) && !p.more)
/-- A packet with so many bytes is ok. -/
def okB (p : Pk) (len : Nat) : Bool := headB p && offB p len && moreB p len && wholeB p

/-- the same, in the walk's own forms -/
def offS (p : Pk) (len : Nat) : Bool := inB p.off 0 128 && (p.off.tmod 4 == 0) && decide ((len : Int) ≤ wrap64 (128 - p.off))
def okS (p : Pk) (len : Nat) : Bool := headB p && offS p len && moreB p len && wholeB p
theorem offS_eq (p : Pk) (len : Nat) : offS p len = offB p len := by
  unfold offS offB
  by_cases h : inB p.off 0 128 = true
  · have hb : 0 ≤ p.off ∧ p.off ≤ 128 := by simpa [inB] using h
    have e1 : p.off.tmod 4 = p.off % 4 := Int.tmod_eq_emod_of_nonneg hb.1
    have e2 : wrap64 (128 - p.off) = 128 - p.off := by unfold wrap64; omega
    rw [e1, e2]
  · have h' : inB p.off 0 128 = false := by simpa using h
    simp [h']
theorem okS_eq (p : Pk) (len : Nat) : okS p len = okB p len := by
  unfold okS okB
  rw [offS_eq]

set_option maxHeartbeats 1600000 in
theorem specOk_any (p : Pk) (a : Option Addr) (len cap : Nat) (w : World) (_hl : len ≤ 1048576) :
    Calls Try.prog 18 #[p.val (.slice a len cap)] w fun e w' => e = .returned (.bool (okB p len)) ∧ Below w.heap.size w w' := by
  unfold Pk.val
  rw [← okS_eq]
  go_enter Try.func18, Try.ntmps18
  go_wp2_with (go_at_call 54; refine (l1In_any _ _ _ _).mono ?_; rintro e w' ⟨rfl, rfl⟩)
  all_goals
    go_ret
    refine ⟨ret_bool ?_, Joins.below_alloc1 _ _⟩
    first | (simp_all [okS, headB, offS, moreB, wholeB]; done) | (simp_all [okS, headB, offS, moreB, wholeB]; intros; omega)
end Go.Proofs.Ytjbkgmbakjnlhaa
