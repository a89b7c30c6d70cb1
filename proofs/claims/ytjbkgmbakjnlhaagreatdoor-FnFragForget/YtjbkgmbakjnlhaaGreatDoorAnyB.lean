import Derived.Test.YtjbkgmbakjnlhaaGreatDoorL5Sp
import Derived.Test.YtjbkgmbakjnlhaaGreatDoorBBench
namespace Go.Proofs.YtjbkgmbakjnlhaaGreatDoor
set_option maxRecDepth 100000
open Go.RowKit
theorem any_fin {w u : World} {rb M lo cl : Nat} {now : Int} {oa : Option Addr} {ss : List SV} (hT : BT u lo oa ss) (hlo : w.heap.size + 1 ≤ lo) (hl8 : ss.length ≤ 8) (hc : ss.length ≤ cl) (hm : cl ≤ 9223372036854775807) (hsm : ∀ s ∈ ss, s.xs.length ≤ 1001) (hR : Rdr u rb M) (hg : w.grownBy u (some rb)) (hr : rb < w.heap.size) :
  AnyBenchPost rb M w (.returned (.agg #[.int .i64 now, .slice oa ss.length cl])) ((u.setCell ⟨w.heap.size, 0, none⟩ (.int .i64 now)).setCell ⟨w.heap.size, 1, none⟩ (.slice oa ss.length cl)) := by
 have hk : ∀ b, b ≠ w.heap.size → ((u.setCell ⟨w.heap.size, 0, none⟩ (.int .i64 now)).setCell ⟨w.heap.size, 1, none⟩ (.slice oa ss.length cl)).heap[b]? = u.heap[b]? := fun b hb => (zHs hb).trans (zHs hb)
 have B : Below w.heap.size u ((u.setCell ⟨w.heap.size, 0, none⟩ (.int .i64 now)).setCell ⟨w.heap.size, 1, none⟩ (.slice oa ss.length cl)) := Below.setCell (Below.setCell (Below.refl w.heap.size u) (by simp only; omega) _) (by simp only; omega) _
 exact ⟨now, oa, cl, ss, rfl, (hT.kept fun b hb _ => hk b (by omega)).le (by omega), hl8, hc, hm, hsm, hR.keep B.size fun j hj => hk j (by omega), ⟨B.os.trans hg.os, B.tape.trans hg.tape, B.output.trans hg.output, Nat.le_trans hg.size B.size, fun k hk' hne => (hk k (by omega)).trans (hg.block k hk' hne)⟩⟩
set_option maxHeartbeats 3200000 in
theorem l5AnyBench_any (rb N : Nat) (w : World) (hR : Rdr w rb N) (hN : N ≤ 100) : Calls Tryz.prog 54 #[.pointer (some ⟨rb, 0, none⟩)] w (AnyBenchPost rb (N + 410000) w) := by
 have hrl := hR.lt
 have KB : Hid (Calls Tryz.prog 85 #[.pointer (some ⟨rb, 0, none⟩)] (w.alloc (.cells #[.int .i64 0, .slice none 0 0] 27)) (BenchPost rb (N + 400000) (w.alloc (.cells #[.int .i64 0, .slice none 0 0] 27)))) := l5Bench_any rb N _ (hR.below (zBa _ _)) hN
 have KP : Hid (∀ (n : Int) (M : Nat) (u : World), Rdr u rb M → M ≤ 1000000 → 0 ≤ n → n ≤ 1000000 → Calls Tryz.prog 23 #[.pointer (some ⟨rb, 0, none⟩), .int .i64 n] u (PickPost rb M n u)) := fun n M u h1 h2 h3 h4 => pick_any rb M n u h1 h2 h3 h4
 clear hR
 go_enter Tryz.func54, Tryz.ntmps54
 go_wp2_with fail
 (with_reducible refine KB.out.mono ?_)
 rintro e w1 ⟨now, oa, cl, ss, rfl, T1, hl4, hlc, hlm, ok1, R1, G1⟩
 have hw : (w.alloc (.cells #[.int .i64 0, .slice none 0 0] 27)).heap.size = w.heap.size + 1 := by simp
 rw [hw] at T1
 have Z1 : w1.heap[w.heap.size]? = some (.cells #[.int .i64 0, .slice none 0 0] 27 (0, 0)) := (G1.block _ (by simp) (fun e => by have := Option.some.inj e; omega)).trans (heap_new _ _ _ rfl)
 have Gw : w.grownBy w1 (some rb) := grown_trans (grown_of_below (zBa _ _)) G1
 have hs1 := lt_of_block Z1
 have HOK : Hid (benchOk now ss) := ok1
 have T1' : Hid (BT w1 (w.heap.size + 1) oa ss) := T1
 have R1' : Hid (Rdr w1 rb (N + 400000)) := R1
 have Gw' : Hid (w.grownBy w1 (some rb)) := Gw
 have Z1' : Hid (w1.heap[w.heap.size]? = some (.cells #[.int .i64 0, .slice none 0 0] 27 (0, 0))) := Z1
 clear T1 R1 G1 Gw Z1 ok1 KB hw
 go_wp2_with fail
 (with_reducible refine (KP.out 24 (N + 400000) _ (R1'.out.below (zBa _ _)) (by omega) (by omega) (by omega)).mono ?_)
 rintro e w2 ⟨x, rfl, -, -, -, R2, G2⟩
 have X2 : w2.heap[w1.heap.size]? = some (.cells #[.int .i64 now, .slice oa ss.length cl] 27 (0, 0)) := (G2.block _ (by simp) (fun e => by have := Option.some.inj e; omega)).trans (heap_new _ _ _ rfl)
 have Z2 : Hid (w2.heap[w.heap.size]? = some (.cells #[.int .i64 0, .slice none 0 0] 27 (0, 0))) := (G2.block _ (by simp; omega) (fun e => by have := Option.some.inj e; omega)).trans ((zHa hs1).trans Z1'.out)
 have T2 : Hid (BT w2 (w.heap.size + 1) oa ss) := (T1'.out.below (zBa w1 (.cells #[.int .i64 now, .slice oa ss.length cl] 27))).grown G2 (by omega)
 have R2' : Hid (Rdr w2 rb (N + 400001)) := R2
 have Gw2 : Hid (w.grownBy w2 (some rb)) := grown_trans (grown_trans Gw'.out (grown_of_below (zBa _ _))) G2
 have b0 : w2.cell? ⟨w1.heap.size, 0, none⟩ = some (.int .i64 now) := zCr X2
 have b1 : w2.cell? ⟨w1.heap.size, 1, none⟩ = some (.slice oa ss.length cl) := zCr X2
 have hs2 := lt_of_block X2
 clear G2 R2 X2 T1' R1' Gw' Z1'
 by_cases hx : x = 0
 ·subst hx
  have KS : Hid (Calls Tryz.prog 86 #[.pointer (some ⟨rb, 0, none⟩), .agg #[.int .i64 now, .slice oa ss.length cl]] w2 (AnyBenchPost rb (N + 400001 + 3000) w2)) := l5SpoilBench_any rb (N + 400001) now oa cl ss w2 R2'.out (by omega) T2.out.slq hl4 HOK.out
  go_wp2_with fail
  (with_reducible refine KS.out.mono ?_)
  rintro e w3 ⟨now', oa', cl', ss', rfl, T3, hl8, hlc', hlm', hsm', R3, G3⟩
  have Z3 : w3.heap[w.heap.size]? = some (.cells #[.int .i64 0, .slice none 0 0] 27 (0, 0)) := (G3.block _ (by omega) (fun e => by have := Option.some.inj e; omega)).trans Z2.out
  have z0 : w3.cell? ⟨w.heap.size, 0, none⟩ = some (.int .i64 0) := zCr Z3
  have z1 : w3.cell? ⟨w.heap.size, 1, none⟩ = some (.slice none 0 0) := zCr Z3
  have fz : ∀ o, w3.frozen? ⟨w.heap.size, o, none⟩ = false := fun o => zUf Z3 o
  have l3 := lt_of_block Z3
  have FIN : Hid (AnyBenchPost rb (N + 410000) w (.returned (.agg #[.int .i64 now', .slice oa' ss'.length cl'])) ((w3.setCell ⟨w.heap.size, 0, none⟩ (.int .i64 now')).setCell ⟨w.heap.size, 1, none⟩ (.slice oa' ss'.length cl'))) := any_fin T3 (by omega) hl8 hlc' hlm' hsm' (R3.mono (by omega)) (grown_trans Gw2.out G3) hrl
  clear T3 R3 G3 Z3
  go_wp2
  exact bodyPost_ret (v := .agg #[.int .i64 now', .slice oa' ss'.length cl']) (by simp [results, Tryz.results54, go_sem, z0, z1]) rfl FIN.out
 ·have hxb : (x == 0) = false := by simp [hx]
  have z0 : w2.cell? ⟨w.heap.size, 0, none⟩ = some (.int .i64 0) := zCr Z2.out
  have z1 : w2.cell? ⟨w.heap.size, 1, none⟩ = some (.slice none 0 0) := zCr Z2.out
  have fz : ∀ o, w2.frozen? ⟨w.heap.size, o, none⟩ = false := fun o => zUf Z2.out o
  have FIN : Hid (AnyBenchPost rb (N + 410000) w (.returned (.agg #[.int .i64 now, .slice oa ss.length cl])) ((w2.setCell ⟨w.heap.size, 0, none⟩ (.int .i64 now)).setCell ⟨w.heap.size, 1, none⟩ (.slice oa ss.length cl))) := any_fin T2.out (by omega) (by omega) hlc hlm (ok_len HOK.out) (R2'.out.mono (by omega)) Gw2.out hrl
  go_wp2
  exact bodyPost_ret (v := .agg #[.int .i64 now, .slice oa ss.length cl]) (by simp [results, Tryz.results54, go_sem, z0, z1]) rfl FIN.out
end Go.Proofs.YtjbkgmbakjnlhaaGreatDoor
