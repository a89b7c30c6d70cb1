/- The contract of wfSame at equal packets. -/
import Derived.Test.YtjbkgmbakjnlhaaBox
namespace Go.Proofs.Ytjbkgmbakjnlhaa
open Go.RowKit

/-- two packets in new boxes -/
def twoBox (w : World) (p : Pk) (v1 v2 : Value) : World := (w.alloc (.cells (pcells p v1) 24)).alloc (.cells (pcells p v2) 24)
theorem twoBox_at (w : World) (p : Pk) (v1 v2 : Value) : Boxed (twoBox w p v1 v2) w.heap.size p v1 ∧ Boxed (twoBox w p v1 v2) (w.heap.size + 1) p v2 :=
  ⟨(Boxed.new w p v1 24).below (Joins.below_alloc1 _ _), Boxed.newAt _ _ p v2 24 (by simp)⟩

set_option maxHeartbeats 1600000 in
theorem wfSame_same (p : Pk) (a1 a2 : Option Addr) (len cap1 cap2 : Nat) (zs : List Int) (w : World) (hr1 : RdB w a1 len zs) (hr2 : RdB w a2 len zs) (hl : len ≤ 1048576) :
    Calls Try.prog 13 #[p.val (.slice a1 len cap1), p.val (.slice a2 len cap2)] w fun e w' => e = .returned (.bool true) ∧ Below w.heap.size w w' := by
  unfold Pk.val
  have hn : ∀ x : Int, (x != x) = false := fun x => by simp
  have hb : ∀ x : Bool, (x != x) = false := fun x => by simp
  obtain ⟨hz, hc1⟩ := hr1
  obtain ⟨_, hc2⟩ := hr2
  subst hz
  by_cases h0 : zs.length = 0
  · have hnil : zs = [] := List.length_eq_zero_iff.1 h0
    subst hnil
    clear hc1 hc2 h0
    go_enter Try.func13, Try.ntmps13
    go_wp2
    refine wp_loop_rounds 1 ?_
    rw [rounds_succ]
    go_wp2
    go_ret
    exact ⟨rfl, Joins.below_alloc2 _ _ _⟩
  · obtain ⟨b1, off1, rfl, hb1, hc1⟩ := hc1.resolve_left h0
    obtain ⟨b2, off2, rfl, hb2, hc2⟩ := hc2.resolve_left h0
    go_enter Try.func13, Try.ntmps13
    go_wp2
    go_loopw [5] (fun i wr => ∃ k : Nat, k ≤ zs.length ∧ i = .int .i64 k ∧ Hid (Below (w.heap.size + 2) (twoBox w p (.slice (some ⟨b1, off1, none⟩) zs.length cap1) (.slice (some ⟨b2, off2, none⟩) zs.length cap2)) wr)) (fun i _ => zs.length - (intOf i).toNat)
    case atStart => exact ⟨0, Nat.zero_le _, rfl, Below.refl _ _⟩
    case round =>
      obtain ⟨k, hk, rfl, HW⟩ := hrel
      have x8 : wr.cell? ⟨w.heap.size, 8, none⟩ = some (.slice (some ⟨b1, off1, none⟩) zs.length cap1) := ((twoBox_at w p _ _).1.upto HW.out (by omega)).c8
      have y8 : wr.cell? ⟨w.heap.size + 1, 8, none⟩ = some (.slice (some ⟨b2, off2, none⟩) zs.length cap2) := ((twoBox_at w p _ _).2.upto HW.out (by omega)).c8
      have HB : Hid (Below w.heap.size w wr) := (Joins.below_alloc2 _ _ _).trans (HW.out.mono (by omega))
      by_cases hlt : k < zs.length
      · have hcell1 := (HB.out.cell (p := ⟨b1, off1 + k, none⟩) hb1).trans (hc1 k hlt)
        have hcell2 := (HB.out.cell (p := ⟨b2, off2 + k, none⟩) hb2).trans (hc2 k hlt)
        have hi : (k : Int) < (zs.length : Int) := by omega
        clear hc1 hc2
        go_wp2
        go_quiet (fail)
        go_wp2
        go_roundw
        case rel => exact ⟨k + 1, by omega, by go_num, HW.out.trans (Joins.below_draws _ _ _)⟩
        case measure => simp [intOf]; omega
      · go_wp2
        go_ret
        exact ⟨rfl, HB.out⟩
end Go.Proofs.Ytjbkgmbakjnlhaa
