/- The contract of DrawFragJoin. -/
import Derived.Test.YtjbkgmbakjnlhaaPartAr
import Derived.Test.YtjbkgmbakjnlhaaLawJP
namespace Go.Proofs.Ytjbkgmbakjnlhaa
open Go.RowKit

set_option maxRecDepth 100000 in
set_option maxHeartbeats 1600000 in
theorem drawJoin_any (a : Option Addr) (len cap : Nat) (zs : List Int) (w : World) (hr : RdB w a len zs) (hz : ∀ z ∈ zs, 0 ≤ z ∧ z ≤ 255) (hc : len ≤ cap) (hl : len ≤ 1048576) :
    Calls Try.prog 15 #[.slice a len cap] w (DrawnPost w) := by
  go_enter Try.func15, Try.ntmps15
  go_wp2_with fail
  refine (l1Open_any a len cap zs _ hr hz hc hl).mono ?_
  rintro e w1 ⟨rb, rfl, hrb, R1, b1⟩
  go_wp2_with fail
  refine (l5List_any rb _ R1).mono ?_
  rintro e w2 ⟨g, n, c, qs, rfl, L, hn⟩
  have FIN : Hid (DrawnPost w (.returned (.slice (some ⟨g, 0, none⟩) n c)) w2) := ⟨g, n, c, qs, rfl, L.pl.le b1.size, L.len, fun y hy => ⟨by have := L.small y hy; omega, L.byte y hy⟩, hn, below_of_grown b1 L.gr hrb⟩
  clear L R1 b1 hr hz
  go_wp2
  go_ret
  exact FIN.out
end Go.Proofs.Ytjbkgmbakjnlhaa
