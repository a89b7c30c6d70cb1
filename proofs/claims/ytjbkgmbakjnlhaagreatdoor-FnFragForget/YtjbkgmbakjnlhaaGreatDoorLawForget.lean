import Derived.Test.YtjbkgmbakjnlhaaGreatDoorPartBe
import Derived.Test.YtjbkgmbakjnlhaaGreatDoorPartAx
import Derived.Test.YtjbkgmbakjnlhaaGreatDoorPartAa
import Derived.Test.YtjbkgmbakjnlhaaGreatDoorPartBf
import Derived.Test.YtjbkgmbakjnlhaaGreatDoorITake
namespace Go.Proofs.YtjbkgmbakjnlhaaGreatDoor
set_option maxRecDepth 100000
open Go.RowKit
set_option maxHeartbeats 12800000 in
theorem forgetLaw_any (a : Option Addr) (len cap : Nat) (w : World) (hlen : (len : Int) ≤ 1048576) (hg : GoodErr w)
  (hd : Hid (Calls Tryz.prog 19 #[.slice a len cap] w (TakeDrawn w))) :
  Calls Tryz.prog 5 #[.slice a len cap] w fun e w' => e = .returned (.bool true) ∧ Below w.heap.size w w' := by
 have hne : ∀ z : Int, (z != z) = false := fun z => by simp
 have hnb : ∀ z : Bool, (z != z) = false := fun z => by simp
 have HG0 : Hid (GoodErr w) := hg
 have hg0 := hg.lt
 clear hg
 go_enter Tryz.func5, Tryz.ntmps5
 go_wp2_with fail
 (with_reducible refine hd.out.mono ?_)
 rintro e w1 ⟨now, oa, cl, ss, x, lo, rfl, hL, hX, hl8, hlc, hlm, B1⟩
 have s1 := B1.size
 have BW : Hid (Below w.heap.size w ((w1.alloc (.cells #[.int .i64 now, .slice oa ss.length cl] 27)).alloc (.cells #[.int .i64 x.p.src, .int .i64 x.p.dst, .int .i64 x.p.kind, .int .i64 x.p.id, .int .i64 x.p.hops, .bool x.p.whole, .int .i64 x.p.off, .bool x.p.more, .slice x.a x.zs.length x.c] 29))) := B1.trans ((Joins.below_alloc2 _ _ _).mono s1)
 have HL : Hid (∀ u, Below (w1.heap.size + 2) ((w1.alloc (.cells #[.int .i64 now, .slice oa ss.length cl] 27)).alloc (.cells #[.int .i64 x.p.src, .int .i64 x.p.dst, .int .i64 x.p.kind, .int .i64 x.p.id, .int .i64 x.p.hops, .bool x.p.whole, .int .i64 x.p.off, .bool x.p.more, .slice x.a x.zs.length x.c] 29)) u → SLq u oa ss) := fun u h => ((hL.below (Joins.below_alloc2 _ _ _)).below (h.mono (by simp))).slq
 have HQ : Hid (∀ u : World, (∀ b, b < w1.heap.size → u.heap[b]? = w1.heap[b]?) → SLq u oa ss) := fun u h => (hL.kept fun b _ hb => h b hb).slq
 have HX : Hid (∀ u, Below (w1.heap.size + 2) ((w1.alloc (.cells #[.int .i64 now, .slice oa ss.length cl] 27)).alloc (.cells #[.int .i64 x.p.src, .int .i64 x.p.dst, .int .i64 x.p.kind, .int .i64 x.p.id, .int .i64 x.p.hops, .bool x.p.whole, .int .i64 x.p.off, .bool x.p.more, .slice x.a x.zs.length x.c] 29)) u → ROk u x) := fun u h => (hX.below (Joins.below_alloc2 _ _ _)).below (h.mono (by simp))
 have HG : Hid (∀ u, Below (w1.heap.size + 2) ((w1.alloc (.cells #[.int .i64 now, .slice oa ss.length cl] 27)).alloc (.cells #[.int .i64 x.p.src, .int .i64 x.p.dst, .int .i64 x.p.kind, .int .i64 x.p.id, .int .i64 x.p.hops, .bool x.p.whole, .int .i64 x.p.off, .bool x.p.more, .slice x.a x.zs.length x.c] 29)) u → GoodErr u) := fun u h => (HG0.out.below BW.out hg0).below h (by omega)
 have HC : Hid (∀ u, Below (w1.heap.size + 2) ((w1.alloc (.cells #[.int .i64 now, .slice oa ss.length cl] 27)).alloc (.cells #[.int .i64 x.p.src, .int .i64 x.p.dst, .int .i64 x.p.kind, .int .i64 x.p.id, .int .i64 x.p.hops, .bool x.p.whole, .int .i64 x.p.off, .bool x.p.more, .slice x.a x.zs.length x.c] 29)) u → u.cell? ⟨w1.heap.size, 0, none⟩ = some (.int .i64 now) ∧ u.cell? ⟨w1.heap.size, 1, none⟩ = some (.slice oa ss.length cl) ∧ Boxed u (w1.heap.size + 1) x.p (.slice x.a x.zs.length x.c) ∧ w1.heap.size + 1 < u.heap.size ∧ Below w.heap.size w u) := fun u h => by
  have e1 : u.heap[w1.heap.size]? = some (.cells #[.int .i64 now, .slice oa ss.length cl] 27 (0, 0)) := (h.block _ (by omega)).trans ((zHa (by simp)).trans (heap_new _ _ _ rfl))
  have e2 : u.heap[w1.heap.size + 1]? = some (.cells (pcells x.p (.slice x.a x.zs.length x.c)) 29 (0, 0)) := (h.block _ (by omega)).trans (heap_new _ _ _ (by simp))
  exact ⟨zCr e1, zCr e1, Boxed.of_block e2, lt_of_block e2, BW.out.trans (h.mono (by omega))⟩
 have KI : Hid (∀ u, Below (w1.heap.size + 2) ((w1.alloc (.cells #[.int .i64 now, .slice oa ss.length cl] 27)).alloc (.cells #[.int .i64 x.p.src, .int .i64 x.p.dst, .int .i64 x.p.kind, .int .i64 x.p.id, .int .i64 x.p.hops, .bool x.p.whole, .int .i64 x.p.off, .bool x.p.more, .slice x.a x.zs.length x.c] 29)) u → Calls Tryz.prog 13 #[.agg #[.int .i64 now, .slice oa ss.length cl]] u (SaysB (benchOk now ss) u)) := fun u h => implBenchOk_q now oa cl ss u (HL.out u h) (by omega) hlc hlm
 have KS : Hid (∀ u, Below (w1.heap.size + 2) ((w1.alloc (.cells #[.int .i64 now, .slice oa ss.length cl] 27)).alloc (.cells #[.int .i64 x.p.src, .int .i64 x.p.dst, .int .i64 x.p.kind, .int .i64 x.p.id, .int .i64 x.p.hops, .bool x.p.whole, .int .i64 x.p.off, .bool x.p.more, .slice x.a x.zs.length x.c] 29)) u → Calls Tryz.prog 20 #[.agg #[.int .i64 now, .slice oa ss.length cl]] u (SaysB (benchOk now ss) u)) := fun u h => specBenchOk_q now oa cl ss u (HL.out u h) (by omega) hlc hlm
 have KT : Hid (∀ (u : World) (nw : Int) (ob : Option Addr) (cb : Nat) (ts : List SV), Below (w1.heap.size + 2) ((w1.alloc (.cells #[.int .i64 now, .slice oa ss.length cl] 27)).alloc (.cells #[.int .i64 x.p.src, .int .i64 x.p.dst, .int .i64 x.p.kind, .int .i64 x.p.id, .int .i64 x.p.hops, .bool x.p.whole, .int .i64 x.p.off, .bool x.p.more, .slice x.a x.zs.length x.c] 29)) u → SLq u ob ts → ts.length ≤ 8 → ts.length ≤ cb → cb ≤ 9223372036854775807 → Calls Tryz.prog 7 #[.agg #[.int .i64 nw, .slice ob ts.length cb]] u fun e u' => ∃ (now' : Int) (oa' : Option Addr) (cl' : Nat) (us : List SV) (c : Int), e = .returned (.tuple #[.agg #[.int .i64 now', .slice oa' us.length cl'], .int .i64 c]) ∧ TickP nw ts now' (us.map SV.key) c ∧ us.length ≤ 4 ∧ us.length ≤ cl' ∧ cl' ≤ 9223372036854775807 ∧ BT u' u.heap.size oa' us ∧ Below u.heap.size u u') := fun u nw ob cb ts h h1 h2 h3 h4 => (implTick_any nw ob cb ts u h1 (by omega) h3 h4 (HG.out u h)).mono (by
  rintro e u' ⟨v, now', ks, c, rfl, hP, ⟨oa', cl', us, rfl, hk, hl, hc, hm, hA⟩, hb⟩
  subst hk
  exact ⟨now', oa', cl', us, c, rfl, hP, hl, hc, hm, hA.bt, hb⟩)
 have KU : Hid (∀ (u : World) (nw : Int) (ob : Option Addr) (cb : Nat) (ts : List SV), SLq u ob ts → ts.length ≤ 8 → ts.length ≤ cb → cb ≤ 9223372036854775807 → Calls Tryz.prog 8 #[.agg #[.int .i64 nw, .slice ob ts.length cb]] u fun e u' => ∃ (now' : Int) (oa' : Option Addr) (cl' : Nat) (us : List SV) (c : Int), e = .returned (.tuple #[.agg #[.int .i64 now', .slice oa' us.length cl'], .int .i64 c]) ∧ TickP nw ts now' (us.map SV.key) c ∧ us.length ≤ 4 ∧ us.length ≤ cl' ∧ cl' ≤ 9223372036854775807 ∧ BT u' u.heap.size oa' us ∧ Below u.heap.size u u') := fun u nw ob cb ts h1 h2 h3 h4 => (specTick_any nw ob cb ts u h1 (by omega) h3 h4).mono (by
  rintro e u' ⟨v, now', ks, c, rfl, hP, ⟨oa', cl', us, rfl, hk, hl, hc, hm, hA⟩, hb⟩
  subst hk
  exact ⟨now', oa', cl', us, c, rfl, hP, hl, hc, hm, hA.bt, hb⟩)
 have KO : Hid (∀ u, Below (w1.heap.size + 2) ((w1.alloc (.cells #[.int .i64 now, .slice oa ss.length cl] 27)).alloc (.cells #[.int .i64 x.p.src, .int .i64 x.p.dst, .int .i64 x.p.kind, .int .i64 x.p.id, .int .i64 x.p.hops, .bool x.p.whole, .int .i64 x.p.off, .bool x.p.more, .slice x.a x.zs.length x.c] 29)) u → Calls Tryz.prog 21 #[.agg #[.int .i64 x.p.src, .int .i64 x.p.dst, .int .i64 x.p.kind, .int .i64 x.p.id, .int .i64 x.p.hops, .bool x.p.whole, .int .i64 x.p.off, .bool x.p.more, .slice x.a x.zs.length x.c]] u fun e u' => e = .returned (.bool (okB x.p x.zs.length)) ∧ Below u.heap.size u u') := fun u h => specOk_any x.p x.a x.zs.length x.c u (HX.out u h).len
 have KK : Hid (∀ (u : World) (nw : Int) (ob : Option Addr) (cb : Nat), Below (w1.heap.size + 2) ((w1.alloc (.cells #[.int .i64 now, .slice oa ss.length cl] 27)).alloc (.cells #[.int .i64 x.p.src, .int .i64 x.p.dst, .int .i64 x.p.kind, .int .i64 x.p.id, .int .i64 x.p.hops, .bool x.p.whole, .int .i64 x.p.off, .bool x.p.more, .slice x.a x.zs.length x.c] 29)) u → cb ≤ 9223372036854775807 → benchOk nw [] → Calls Tryz.prog 10 #[.agg #[.int .i64 nw, .slice ob 0 cb], .agg #[.int .i64 x.p.src, .int .i64 x.p.dst, .int .i64 x.p.kind, .int .i64 x.p.id, .int .i64 x.p.hops, .bool x.p.whole, .int .i64 x.p.off, .bool x.p.more, .slice x.a x.zs.length x.c]] u fun e u' => ∃ (now' : Int) (oa' : Option Addr) (cl' n' : Nat) (y : RV) (c : Int), e = .returned (.tuple #[.agg #[.int .i64 now', .slice oa' n' cl'], .agg #[.int .i64 y.p.src, .int .i64 y.p.dst, .int .i64 y.p.kind, .int .i64 y.p.id, .int .i64 y.p.hops, .bool y.p.whole, .int .i64 y.p.off, .bool y.p.more, .slice y.a y.zs.length y.c], .int .i64 c]) ∧ ((c = 2 ∧ okB x.p x.zs.length = false) ∨ (c = 0 ∧ x.p.off = 0 ∧ x.p.more = false) ∨ c = 3) ∧ Below u.heap.size u u') := fun u nw ob cb h h1 h2 => (implTake_any nw ob cb [] x u (Or.inl rfl) (by simp) (by simp) h1 (HX.out u h) (HG.out u h)).mono (by
  rintro e u' ⟨now', ks, oa', cc, ts, y, c, rfl, hP, -, -, hb⟩
  refine ⟨now', oa', cc, ts.length, y, c, rfl, ?_, hb⟩
  rcases hP with ⟨hn, _⟩ | ⟨_, _, hk⟩
  ·exact absurd h2 hn
  ·have h5 := take_empty hk
   have e2 : x.key.2.length = x.zs.length := rfl
   exact h5)
 have B2 : Hid (Below (w1.heap.size + 2) ((w1.alloc (.cells #[.int .i64 now, .slice oa ss.length cl] 27)).alloc (.cells #[.int .i64 x.p.src, .int .i64 x.p.dst, .int .i64 x.p.kind, .int .i64 x.p.id, .int .i64 x.p.hops, .bool x.p.whole, .int .i64 x.p.off, .bool x.p.more, .slice x.a x.zs.length x.c] 29)) ((w1.alloc (.cells #[.int .i64 now, .slice oa ss.length cl] 27)).alloc (.cells #[.int .i64 x.p.src, .int .i64 x.p.dst, .int .i64 x.p.kind, .int .i64 x.p.id, .int .i64 x.p.hops, .bool x.p.whole, .int .i64 x.p.off, .bool x.p.more, .slice x.a x.zs.length x.c] 29)).drew) := Below.drew (Below.refl _ _)
 clear hL hX B1 HG0 hd
 go_wp2_with fail
 refine wp_region_held_drew (S := fun u => Below (w1.heap.size + 2) ((w1.alloc (.cells #[.int .i64 now, .slice oa ss.length cl] 27)).alloc (.cells #[.int .i64 x.p.src, .int .i64 x.p.dst, .int .i64 x.p.kind, .int .i64 x.p.id, .int .i64 x.p.hops, .bool x.p.whole, .int .i64 x.p.off, .bool x.p.more, .slice x.a x.zs.length x.c] 29)) u) (by kernel_rfl) B2.out (fun hH => ?_)
 refine zTk 0 23 (.agg #[.int .i64 now, .slice oa ss.length cl]) rfl (fun w hS => by obtain ⟨s0, s1, -⟩ := HC.out _ hS; go_simp) hH ?_; simp only [Act.put, zA, zB, zC]
 refine zTk 2 25 (.agg #[.int .i64 now, .slice oa ss.length cl]) rfl (fun w hS => by obtain ⟨s0, s1, -⟩ := HC.out _ hS; go_simp) hH ?_; simp only [Act.put, zA, zB, zC]
 refine zRd 1 (by kernel_rfl) rfl (fun K hK => ?_)
 go_simp
 (with_reducible refine (KI.out _ B2.out).mono ?_)
 rintro e w3 ⟨v1, rfl, hv1, b3⟩
 have B3 : Hid (Below (w1.heap.size + 2) ((w1.alloc (.cells #[.int .i64 now, .slice oa ss.length cl] 27)).alloc (.cells #[.int .i64 x.p.src, .int .i64 x.p.dst, .int .i64 x.p.kind, .int .i64 x.p.id, .int .i64 x.p.hops, .bool x.p.whole, .int .i64 x.p.off, .bool x.p.more, .slice x.a x.zs.length x.c] 29)) w3) := B2.out.trans (b3.mono (by simp [World.drew]))
 go_simp
 refine hK.out _ _ B3.out (fun hH => ?_)
 clear hK K b3
 (first | (simp only [zA, zB, zC]) | skip)
 refine zRd 3 (by kernel_rfl) rfl (fun K hK => ?_)
 go_simp
 (with_reducible refine (KS.out _ B3.out).mono ?_)
 rintro e w4 ⟨v2, rfl, hv2, b4⟩
 have B4 : Hid (Below (w1.heap.size + 2) ((w1.alloc (.cells #[.int .i64 now, .slice oa ss.length cl] 27)).alloc (.cells #[.int .i64 x.p.src, .int .i64 x.p.dst, .int .i64 x.p.kind, .int .i64 x.p.id, .int .i64 x.p.hops, .bool x.p.whole, .int .i64 x.p.off, .bool x.p.more, .slice x.a x.zs.length x.c] 29)) w4) := B3.out.trans (b4.mono (by have := (HC.out _ B3.out).2.2.2.1; omega))
 have hv : v2 = v1 := by
  cases v1 <;> cases v2
  ·rfl
  ·exact absurd (hv1.2 (hv2.1 rfl)) (by simp)
  ·exact absurd (hv2.2 (hv1.1 rfl)) (by simp)
  ·rfl
 subst hv
 go_simp
 refine hK.out _ _ B4.out (fun hH => ?_)
 clear hK K b4 hv2 B3
 (first | (simp only [zA, zB, zC]) | skip)
 refine zRd 4 (by kernel_rfl) rfl (fun K hK => ?_)
 go_simp
 refine hK.out _ _ B4.out (fun hH => ?_)
 clear hK K
 (first | (simp only [zA, zB, zC]) | skip)
 refine wpAnyH_done (by kernel_rfl) ?_ _
 clear hH
 obtain ⟨a0, a1, -, la, -⟩ := HC.out _ B4.out
 have KT4 : Hid (Calls Tryz.prog 7 #[.agg #[.int .i64 now, .slice oa ss.length cl]] w4 _) := KT.out w4 now oa cl ss B4.out (HL.out _ B4.out) hl8 hlc hlm
 go_wp2_with fail
 (with_reducible refine KT4.out.mono ?_)
 rintro e w5 ⟨now5, oa5, cl5, ts5, c5, rfl, P5, hl5, hlc5, hlm5, L5, b5⟩
 have B5 : Hid (Below (w1.heap.size + 2) ((w1.alloc (.cells #[.int .i64 now, .slice oa ss.length cl] 27)).alloc (.cells #[.int .i64 x.p.src, .int .i64 x.p.dst, .int .i64 x.p.kind, .int .i64 x.p.id, .int .i64 x.p.hops, .bool x.p.whole, .int .i64 x.p.off, .bool x.p.more, .slice x.a x.zs.length x.c] 29)) (w5.alloc (.cells #[.int .i64 now5, .slice oa5 ts5.length cl5] 27))) := (B4.out.trans (b5.mono (by omega))).alloc (by have := b5.size; omega) _
 have HP5 : Hid (TickP now ss now5 (ts5.map SV.key) c5) := P5
 have HL5 : Hid (SLq (w5.alloc (.cells #[.int .i64 now5, .slice oa5 ts5.length cl5] 27)) oa5 ts5) := (L5.below (zBa _ _)).slq
 obtain ⟨n5, hn5⟩ : ∃ n5, ts5.length = n5 := ⟨_, rfl⟩
 have HN5 : Hid (ts5.length = n5) := hn5
 have s5 := b5.size
 obtain ⟨x0, x1, -, lx, -⟩ := HC.out _ B5.out
 clear P5 L5 b5 KT4 a0 a1
 rw [hn5] at B5 HL5 x0 x1 lx hl5 hlc5 ⊢
 clear hn5
 have KS5 := KS.out _ B5.out
 have HKS : Hid (Calls Tryz.prog 20 #[.agg #[.int .i64 now, .slice oa ss.length cl]] (w5.alloc (.cells #[.int .i64 now5, .slice oa5 n5 cl5] 27)) (SaysB (benchOk now ss) (w5.alloc (.cells #[.int .i64 now5, .slice oa5 n5 cl5] 27)))) := KS5
 clear KS5
 go_wp2_with fail
 (with_reducible refine HKS.out.mono ?_)
 rintro e w6 ⟨v3, rfl, hv3, b6⟩
 have B6 : Hid (Below (w1.heap.size + 2) ((w1.alloc (.cells #[.int .i64 now, .slice oa ss.length cl] 27)).alloc (.cells #[.int .i64 x.p.src, .int .i64 x.p.dst, .int .i64 x.p.kind, .int .i64 x.p.id, .int .i64 x.p.hops, .bool x.p.whole, .int .i64 x.p.off, .bool x.p.more, .slice x.a x.zs.length x.c] 29)) w6) := B5.out.trans (b6.mono (by omega))
 have X6 : Hid (w6.heap[w5.heap.size]? = some (.cells #[.int .i64 now5, .slice oa5 n5 cl5] 27 (0, 0))) := (b6.block _ (by simp)).trans (heap_new _ _ _ rfl)
 obtain ⟨a0, a1, -, la6, -⟩ := HC.out _ B6.out
 have e0 : w6.cell? ⟨w5.heap.size, 0, none⟩ = some (.int .i64 now5) := zCr X6.out
 have e1 : w6.cell? ⟨w5.heap.size, 1, none⟩ = some (.slice oa5 n5 cl5) := zCr X6.out
 have fe : ∀ o, w6.frozen? ⟨w5.heap.size, o, none⟩ = false := fun o => zUf X6.out o
 have le6 := lt_of_block X6.out
 have l56 : w1.heap.size + 1 < w5.heap.size := by omega
 clear b6 x0 x1 HKS
 by_cases hb : benchOk now ss
 ·have hvt : v3 = true := hv3.2 hb
  subst hvt
  have hn0 := hb.1.1
  have hn1 := hb.1.2
  have HB : Hid (benchOk now ss) := hb
  have U7 : Hid (Below (w1.heap.size + 2) ((w1.alloc (.cells #[.int .i64 now, .slice oa ss.length cl] 27)).alloc (.cells #[.int .i64 x.p.src, .int .i64 x.p.dst, .int .i64 x.p.kind, .int .i64 x.p.id, .int .i64 x.p.hops, .bool x.p.whole, .int .i64 x.p.off, .bool x.p.more, .slice x.a x.zs.length x.c] 29)) ((w6.setCell ⟨w5.heap.size, 0, none⟩ (.int .i64 now)).setCell ⟨w5.heap.size, 1, none⟩ (.slice oa ss.length cl))) := Below.setCell (Below.setCell B6.out (by simp only; omega) _) (by simp only; omega) _
  have X7 : Hid (((w6.setCell ⟨w5.heap.size, 0, none⟩ (.int .i64 now)).setCell ⟨w5.heap.size, 1, none⟩ (.slice oa ss.length cl)).heap[w5.heap.size]? = some (.cells #[.int .i64 now, .slice oa ss.length cl] 27 (0, 0))) := (show _ = _ by rw [set_at (set_at X6.out)]; rfl)
  have Q7 : Hid (∀ u : World, (∀ b, b ≠ w5.heap.size → b < ((w6.setCell ⟨w5.heap.size, 0, none⟩ (.int .i64 now)).setCell ⟨w5.heap.size, 1, none⟩ (.slice oa ss.length cl)).heap.size → u.heap[b]? = ((w6.setCell ⟨w5.heap.size, 0, none⟩ (.int .i64 now)).setCell ⟨w5.heap.size, 1, none⟩ (.slice oa ss.length cl)).heap[b]?) → SLq u oa ss) := fun u h => HQ.out u fun b hb => (h b (by omega) (by have := U7.out.size; simp at this; simp [World.setCell]; omega)).trans ((U7.out.block b (by omega)).trans ((zHa (by simp; omega)).trans (zHa hb)))
  clear HL5 HP5 X6 hb hv3
  go_wp2_with fail
  go_loopw [7] (fun i wr => ∃ (k l : Nat) (nw : Int) (ob : Option Addr) (cb : Nat) (ts : List SV), k ≤ 6 ∧ i = .int .i64 k ∧ l ≤ 8 ∧ l ≤ cb ∧ cb ≤ 9223372036854775807 ∧ Hid (ts.length = l) ∧ Hid (benchOk nw ts) ∧ Hid (∀ t ∈ ts, t.since ≤ now) ∧ Hid (∀ u : World, (∀ b, b ≠ w5.heap.size → b < wr.heap.size → u.heap[b]? = wr.heap[b]?) → SLq u ob ts) ∧ Hid ((now + k ≤ 1000000 ∧ nw = now + k) ∨ (1000000 < now + k ∧ nw = 1000000)) ∧ Hid (wr.heap[w5.heap.size]? = some (.cells #[.int .i64 nw, .slice ob l cb] 27 (0, 0))) ∧ Hid (Below (w1.heap.size + 2) ((w1.alloc (.cells #[.int .i64 now, .slice oa ss.length cl] 27)).alloc (.cells #[.int .i64 x.p.src, .int .i64 x.p.dst, .int .i64 x.p.kind, .int .i64 x.p.id, .int .i64 x.p.hops, .bool x.p.whole, .int .i64 x.p.off, .bool x.p.more, .slice x.a x.zs.length x.c] 29)) wr)) (fun i _ => 6 - (intOf i).toNat)
  case atStart => exact ⟨0, ss.length, now, oa, cl, ss, by omega, rfl, hl8, hlc, hlm, rfl, HB.out, (fun t ht => by obtain ⟨j, hj⟩ := List.getElem?_of_mem ht; exact (HB.out.2.2 j t hj).1.1), Q7.out, Or.inl ⟨by simpa using hn1, by simp⟩, X7.out, U7.out⟩
  case round =>
   obtain ⟨k, l, nw, ob, cb, ts, hk, rfl, hl, hlb, hlx, HTL, HOK, HSI, HQT, HNW, HBX, HBE⟩ := hrel
   clear Q7 X7 U7
   obtain ⟨i0, i1, ip, li, -⟩ := HC.out _ HBE.out
   have j0 : wr.cell? ⟨w5.heap.size, 0, none⟩ = some (.int .i64 nw) := zCr HBX.out
   have j1 : wr.cell? ⟨w5.heap.size, 1, none⟩ = some (.slice ob l cb) := zCr HBX.out
   have lj := lt_of_block HBX.out
   have HSL : Hid (SLq wr ob ts) := HQT.out wr fun b _ _ => rfl
   by_cases hk6 : k < 6
   ·have hki : (k : Int) < 6 := by omega
    have KTr : Hid (Calls Tryz.prog 7 #[.agg #[.int .i64 nw, .slice ob l cb]] wr fun e u' => ∃ (now' : Int) (oa' : Option Addr) (cl' : Nat) (us : List SV) (c : Int), e = .returned (.tuple #[.agg #[.int .i64 now', .slice oa' us.length cl'], .int .i64 c]) ∧ TickP nw ts now' (us.map SV.key) c ∧ us.length ≤ 4 ∧ us.length ≤ cl' ∧ cl' ≤ 9223372036854775807 ∧ BT u' wr.heap.size oa' us ∧ Below wr.heap.size wr u') := by
     have h := KT.out wr nw ob cb ts HBE.out HSL.out (by rw [HTL.out]; omega) (by rw [HTL.out]; omega) hlx
     rw [HTL.out] at h
     exact h
    go_wp2_with fail
    (with_reducible refine KTr.out.mono ?_)
    rintro e v1 ⟨now1, oa1, cl1, us1, c1, rfl, P1, hu1, hv1', hx1, T1, d1⟩
    obtain ⟨n1, hn1'⟩ : ∃ n1, us1.length = n1 := ⟨_, rfl⟩
    have HN1 : Hid (us1.length = n1) := hn1'
    rw [hn1'] at hu1 hv1'
    have HP1 : Hid (TickP nw ts now1 (us1.map SV.key) c1) := P1
    have HT1 : Hid (BT v1 wr.heap.size oa1 us1) := T1
    have HD1 : Hid (Below wr.heap.size wr v1) := d1
    have sd1 := d1.size
    have E1 : Hid (Below (w1.heap.size + 2) ((w1.alloc (.cells #[.int .i64 now, .slice oa ss.length cl] 27)).alloc (.cells #[.int .i64 x.p.src, .int .i64 x.p.dst, .int .i64 x.p.kind, .int .i64 x.p.id, .int .i64 x.p.hops, .bool x.p.whole, .int .i64 x.p.off, .bool x.p.more, .slice x.a x.zs.length x.c] 29)) (v1.alloc (.cells #[.int .i64 now1, .slice oa1 n1 cl1] 27))) := (HBE.out.trans (d1.mono (by omega))).alloc (by omega) _
    have g0 : (v1.alloc (.cells #[.int .i64 now1, .slice oa1 n1 cl1] 27)).heap[w5.heap.size]? = some (.cells #[.int .i64 nw, .slice ob l cb] 27 (0, 0)) := (zHa (by omega)).trans ((d1.block _ lj).trans HBX.out)
    have r0 : v1.cell? ⟨w5.heap.size, 0, none⟩ = some (.int .i64 nw) := zCr ((d1.block _ lj).trans HBX.out)
    have r1 : v1.cell? ⟨w5.heap.size, 1, none⟩ = some (.slice ob l cb) := zCr ((d1.block _ lj).trans HBX.out)
    have KUr : Hid (Calls Tryz.prog 8 #[.agg #[.int .i64 nw, .slice ob l cb]] (v1.alloc (.cells #[.int .i64 now1, .slice oa1 n1 cl1] 27)) fun e u' => ∃ (now' : Int) (oa' : Option Addr) (cl' : Nat) (us : List SV) (c : Int), e = .returned (.tuple #[.agg #[.int .i64 now', .slice oa' us.length cl'], .int .i64 c]) ∧ TickP nw ts now' (us.map SV.key) c ∧ us.length ≤ 4 ∧ us.length ≤ cl' ∧ cl' ≤ 9223372036854775807 ∧ BT u' (v1.alloc (.cells #[.int .i64 now1, .slice oa1 n1 cl1] 27)).heap.size oa' us ∧ Below (v1.alloc (.cells #[.int .i64 now1, .slice oa1 n1 cl1] 27)).heap.size (v1.alloc (.cells #[.int .i64 now1, .slice oa1 n1 cl1] 27)) u') := by
     have h := KU.out (v1.alloc (.cells #[.int .i64 now1, .slice oa1 n1 cl1] 27)) nw ob cb ts (HSL.out.below (d1.alloc sd1 _)) (by rw [HTL.out]; omega) (by rw [HTL.out]; omega) hlx
     rw [HTL.out] at h
     exact h
    clear P1 T1 d1 KTr g0 j0 j1 i0 i1
    rw [hn1']
    clear hn1'
    have lj1 : w5.heap.size < v1.heap.size := by omega
    go_wp2_with fail
    (with_reducible refine KUr.out.mono ?_)
    rintro e v2 ⟨now2, oa2, cl2, us2, c2, rfl, P2, hu2, hv2', hx2, T2, d2⟩
    obtain ⟨rfl, hkk, rfl⟩ := HP1.out.same P2 rfl
    obtain ⟨n2, hn2'⟩ : ∃ n2, us2.length = n2 := ⟨_, rfl⟩
    have HN2 : Hid (us2.length = n2) := hn2'
    have sd2 : v1.heap.size + 1 ≤ v2.heap.size := by have := d2.size; simpa using this
    have Y2 : v2.heap[v1.heap.size]? = some (.cells #[.int .i64 now1, .slice oa1 n1 cl1] 27 (0, 0)) := (d2.block _ (by simp)).trans (heap_new _ _ _ rfl)
    have D12 : Hid (Below v1.heap.size v1 v2) := (zBa _ _).trans (d2.mono (by simp))
    have E2 : Hid (Below (w1.heap.size + 2) ((w1.alloc (.cells #[.int .i64 now, .slice oa ss.length cl] 27)).alloc (.cells #[.int .i64 x.p.src, .int .i64 x.p.dst, .int .i64 x.p.kind, .int .i64 x.p.id, .int .i64 x.p.hops, .bool x.p.whole, .int .i64 x.p.off, .bool x.p.more, .slice x.a x.zs.length x.c] 29)) (v2.alloc (.cells #[.int .i64 now1, .slice oa2 n2 cl2] 27))) := (E1.out.trans (d2.mono (by simp; omega))).alloc (by omega) _
    have KWr : Hid (Calls Tryz.prog 9 #[.agg #[.int .i64 now1, .slice oa1 n1 cl1], .agg #[.int .i64 now1, .slice oa2 n2 cl2]] (v2.alloc (.cells #[.int .i64 now1, .slice oa2 n2 cl2] 27)) fun e w' => e = .returned (.bool true) ∧ Below (v2.alloc (.cells #[.int .i64 now1, .slice oa2 n2 cl2] 27)).heap.size (v2.alloc (.cells #[.int .i64 now1, .slice oa2 n2 cl2] 27)) w') := by
     have h := wfBench_q now1 oa1 oa2 cl1 cl2 us1 us2 (v2.alloc (.cells #[.int .i64 now1, .slice oa2 n2 cl2] 27)) ((HT1.out.below D12.out).below (zBa _ _)).slq (T2.below (zBa _ _)).slq hkk.symm (by rw [HN1.out]; omega)
     rw [HN1.out, HN2.out] at h
     exact h
    have m0 : v2.cell? ⟨v1.heap.size, 0, none⟩ = some (.int .i64 now1) := zCr Y2
    have m1 : v2.cell? ⟨v1.heap.size, 1, none⟩ = some (.slice oa1 n1 cl1) := zCr Y2
    have HY2 : Hid (v2.heap[v1.heap.size]? = some (.cells #[.int .i64 now1, .slice oa1 n1 cl1] 27 (0, 0))) := Y2
    rw [hn2']
    clear P2 T2 d2 KUr Y2 hn2' hkk r0 r1
    have lj2 : v1.heap.size < v2.heap.size := by omega
    go_wp2_with fail
    (with_reducible refine KWr.out.mono ?_)
    rintro e v3 ⟨rfl, d3⟩
    have sd3 : v2.heap.size + 1 ≤ v3.heap.size := by have := d3.size; simpa using this
    have D13 : Hid (Below v1.heap.size v1 v3) := (D12.out.alloc (by omega) _).trans (d3.mono (by simp; omega))
    have Y3 : v3.heap[v1.heap.size]? = some (.cells #[.int .i64 now1, .slice oa1 n1 cl1] 27 (0, 0)) := (d3.block _ (by simp; omega)).trans ((zHa lj2).trans HY2.out)
    have Z3 : v3.heap[w5.heap.size]? = some (.cells #[.int .i64 nw, .slice ob l cb] 27 (0, 0)) := (D13.out.block _ (by omega)).trans ((HD1.out.block _ lj).trans HBX.out)
    have t0 : v3.cell? ⟨v1.heap.size, 0, none⟩ = some (.int .i64 now1) := zCr Y3
    have t1 : v3.cell? ⟨v1.heap.size, 1, none⟩ = some (.slice oa1 n1 cl1) := zCr Y3
    have z0 : v3.cell? ⟨w5.heap.size, 0, none⟩ = some (.int .i64 nw) := zCr Z3
    have z1 : v3.cell? ⟨w5.heap.size, 1, none⟩ = some (.slice ob l cb) := zCr Z3
    have fz3 : ∀ o, v3.frozen? ⟨w5.heap.size, o, none⟩ = false := fun o => zUf Z3 o
    have lz3 := lt_of_block Z3
    obtain ⟨k1, k2, k3⟩ := forget_step HP1.out HOK.out rfl HSI.out
    have HK1 : Hid (benchOk now1 us1) := k1
    have HK2 : Hid (∀ t ∈ us1, t.since ≤ now) := k2
    have HK3 : Hid ((now + (k + 1 : Nat) ≤ 1000000 ∧ now1 = now + (k + 1 : Nat)) ∨ (1000000 < now + (k + 1 : Nat) ∧ now1 = 1000000)) := (show _ ∨ _ from by
     rcases HNW.out with ⟨h1, h2⟩ | ⟨h1, h2⟩ <;> rcases k3 with ⟨h3, h4⟩ | ⟨h3, h4⟩ <;> omega)
    have HQ3 : Hid (∀ u : World, (∀ b, b ≠ w5.heap.size → b < ((v3.setCell ⟨w5.heap.size, 0, none⟩ (.int .i64 now1)).setCell ⟨w5.heap.size, 1, none⟩ (.slice oa1 n1 cl1)).heap.size → u.heap[b]? = ((v3.setCell ⟨w5.heap.size, 0, none⟩ (.int .i64 now1)).setCell ⟨w5.heap.size, 1, none⟩ (.slice oa1 n1 cl1)).heap[b]?) → SLq u oa1 us1) := fun u h => (HT1.out.kept fun b hb1 hb2 => (h b (by omega) (by simp [World.setCell]; omega)).trans ((zHs (by simp only; omega)).trans ((zHs (by simp only; omega)).trans (D13.out.block b hb2)))).slq
    have HX3 : Hid (((v3.setCell ⟨w5.heap.size, 0, none⟩ (.int .i64 now1)).setCell ⟨w5.heap.size, 1, none⟩ (.slice oa1 n1 cl1)).heap[w5.heap.size]? = some (.cells #[.int .i64 now1, .slice oa1 n1 cl1] 27 (0, 0))) := (show _ = _ by rw [set_at (set_at Z3)]; rfl)
    have HE3 : Hid (Below (w1.heap.size + 2) ((w1.alloc (.cells #[.int .i64 now, .slice oa ss.length cl] 27)).alloc (.cells #[.int .i64 x.p.src, .int .i64 x.p.dst, .int .i64 x.p.kind, .int .i64 x.p.id, .int .i64 x.p.hops, .bool x.p.whole, .int .i64 x.p.off, .bool x.p.more, .slice x.a x.zs.length x.c] 29)) ((v3.setCell ⟨w5.heap.size, 0, none⟩ (.int .i64 now1)).setCell ⟨w5.heap.size, 1, none⟩ (.slice oa1 n1 cl1))) := Below.setCell (Below.setCell (E2.out.trans (d3.mono (by simp; omega))) (by simp only; omega) _) (by simp only; omega) _
    clear d3 Y3 Z3 k1 k2 k3 m0 m1 KWr
    go_wp2
    go_roundw
    case rel => exact ⟨k + 1, n1, now1, oa1, cl1, us1, by omega, by go_num, by omega, by omega, hx1, HN1.out, HK1.out, HK2.out, HQ3.out, HK3.out, HX3.out, HE3.out⟩
    case measure => simp [intOf]; omega
   ·obtain rfl : k = 6 := by omega
    by_cases h6 : 1000000 < now + 6
    ·obtain rfl : nw = 1000000 := by rcases HNW.out with ⟨h1, h2⟩ | ⟨h1, h2⟩ <;> omega
     have FIN : Hid (Below w.heap.size w wr) := (HC.out _ HBE.out).2.2.2.2
     go_wp2
     go_ret
     exact ⟨rfl, FIN.out⟩
    ·obtain rfl : nw = now + 6 := by rcases HNW.out with ⟨h1, h2⟩ | ⟨h1, h2⟩ <;> omega
     have hts : ts = [] := none_left HOK.out HSI.out
     subst hts
     obtain rfl : 0 = l := HTL.out
     have KKr : Hid (Calls Tryz.prog 10 #[.agg #[.int .i64 (now + 6), .slice ob 0 cb], .agg #[.int .i64 x.p.src, .int .i64 x.p.dst, .int .i64 x.p.kind, .int .i64 x.p.id, .int .i64 x.p.hops, .bool x.p.whole, .int .i64 x.p.off, .bool x.p.more, .slice x.a x.zs.length x.c]] wr fun e u' => ∃ (now' : Int) (oa' : Option Addr) (cl' n' : Nat) (y : RV) (c : Int), e = .returned (.tuple #[.agg #[.int .i64 now', .slice oa' n' cl'], .agg #[.int .i64 y.p.src, .int .i64 y.p.dst, .int .i64 y.p.kind, .int .i64 y.p.id, .int .i64 y.p.hops, .bool y.p.whole, .int .i64 y.p.off, .bool y.p.more, .slice y.a y.zs.length y.c], .int .i64 c]) ∧ ((c = 2 ∧ okB x.p x.zs.length = false) ∨ (c = 0 ∧ x.p.off = 0 ∧ x.p.more = false) ∨ c = 3) ∧ Below wr.heap.size wr u') := KK.out wr (now + 6) ob cb HBE.out hlx HOK.out
     obtain ⟨lp, c0, c1, c2, c3, c4, c5', c6, c7, c8⟩ := ip
     have hw6 : IntKind.i64.wrap (now + 6) = now + 6 := by rw [IntKind.wrap_i64]; omega
     go_wp2_with fail
     (with_reducible refine KKr.out.mono ?_)
     rintro e v1 ⟨now1, oa1, cl1, n1, y, c, rfl, hcs, d1⟩
     have sd1 := d1.size
     have E1 : Hid (Below (w1.heap.size + 2) ((w1.alloc (.cells #[.int .i64 now, .slice oa ss.length cl] 27)).alloc (.cells #[.int .i64 x.p.src, .int .i64 x.p.dst, .int .i64 x.p.kind, .int .i64 x.p.id, .int .i64 x.p.hops, .bool x.p.whole, .int .i64 x.p.off, .bool x.p.more, .slice x.a x.zs.length x.c] 29)) ((v1.alloc (.cells #[.int .i64 now1, .slice oa1 n1 cl1] 27)).alloc (.cells #[.int .i64 y.p.src, .int .i64 y.p.dst, .int .i64 y.p.kind, .int .i64 y.p.id, .int .i64 y.p.hops, .bool y.p.whole, .int .i64 y.p.off, .bool y.p.more, .slice y.a y.zs.length y.c] 29))) := ((HBE.out.trans (d1.mono (by omega))).alloc (by omega) _).alloc (by simp; omega) _
     have KO1 := KO.out _ E1.out
     have HKO : Hid (Calls Tryz.prog 21 #[.agg #[.int .i64 x.p.src, .int .i64 x.p.dst, .int .i64 x.p.kind, .int .i64 x.p.id, .int .i64 x.p.hops, .bool x.p.whole, .int .i64 x.p.off, .bool x.p.more, .slice x.a x.zs.length x.c]] ((v1.alloc (.cells #[.int .i64 now1, .slice oa1 n1 cl1] 27)).alloc (.cells #[.int .i64 y.p.src, .int .i64 y.p.dst, .int .i64 y.p.kind, .int .i64 y.p.id, .int .i64 y.p.hops, .bool y.p.whole, .int .i64 y.p.off, .bool y.p.more, .slice y.a y.zs.length y.c] 29)) fun e u' => e = .returned (.bool (okB x.p x.zs.length)) ∧ Below ((v1.alloc (.cells #[.int .i64 now1, .slice oa1 n1 cl1] 27)).alloc (.cells #[.int .i64 y.p.src, .int .i64 y.p.dst, .int .i64 y.p.kind, .int .i64 y.p.id, .int .i64 y.p.hops, .bool y.p.whole, .int .i64 y.p.off, .bool y.p.more, .slice y.a y.zs.length y.c] 29)).heap.size ((v1.alloc (.cells #[.int .i64 now1, .slice oa1 n1 cl1] 27)).alloc (.cells #[.int .i64 y.p.src, .int .i64 y.p.dst, .int .i64 y.p.kind, .int .i64 y.p.id, .int .i64 y.p.hops, .bool y.p.whole, .int .i64 y.p.off, .bool y.p.more, .slice y.a y.zs.length y.c] 29)) u') := KO1
     have E0 : Below (w1.heap.size + 2) ((w1.alloc (.cells #[.int .i64 now, .slice oa ss.length cl] 27)).alloc (.cells #[.int .i64 x.p.src, .int .i64 x.p.dst, .int .i64 x.p.kind, .int .i64 x.p.id, .int .i64 x.p.hops, .bool x.p.whole, .int .i64 x.p.off, .bool x.p.more, .slice x.a x.zs.length x.c] 29)) v1 := HBE.out.trans (d1.mono (by omega))
     obtain ⟨-, -, ⟨lq, q0, q1, q2, q3, q4, q5, q6, q7, q8⟩, lv, -⟩ := HC.out _ E0
     have FIN : Hid (Below w.heap.size w ((v1.alloc (.cells #[.int .i64 now1, .slice oa1 n1 cl1] 27)).alloc (.cells #[.int .i64 y.p.src, .int .i64 y.p.dst, .int .i64 y.p.kind, .int .i64 y.p.id, .int .i64 y.p.hops, .bool y.p.whole, .int .i64 y.p.off, .bool y.p.more, .slice y.a y.zs.length y.c] 29))) := (HC.out _ E1.out).2.2.2.2
     have lv1 : w1.heap.size + 1 < v1.heap.size + 1 := by omega
     have lv2 : w1.heap.size < v1.heap.size := by omega
     clear c0 c1 c2 c3 c4 c5' c6 c7 c8 d1 E0 KO1 KKr j0 j1
     rcases hcs with ⟨rfl, hok⟩ | ⟨rfl, ho, hm⟩ | rfl
     ·rw [hok] at HKO
      go_wp2_with fail
      (with_reducible refine HKO.out.mono ?_)
      rintro e v2 ⟨rfl, d2⟩
      have F2 : Hid (Below w.heap.size w v2) := FIN.out.trans (d2.mono FIN.out.size)
      clear d2
      go_wp2
      go_ret
      exact ⟨rfl, F2.out⟩
     ·rw [ho] at q6
      rw [hm] at q7
      clear ho hm
      go_wp2
      go_ret
      exact ⟨rfl, FIN.out⟩
     ·go_wp2
      go_ret
      exact ⟨rfl, FIN.out⟩
 ·have hvf : v3 = false := by
   cases v3
   ·rfl
   ·exact absurd (hv3.1 rfl) hb
  subst hvf
  obtain ⟨rfl, hks, rfl⟩ : now5 = 0 ∧ ts5.map SV.key = [] ∧ c5 = 1 := by
   rcases HP5.out with ⟨_, h1, h2, h3⟩ | ⟨h, _⟩ | ⟨h, _⟩
   ·exact ⟨h1, h2, h3⟩
   ·exact absurd h hb
   ·exact absurd h hb
  obtain rfl : n5 = 0 := by have h := congrArg List.length hks; simp at h; rw [← HN5.out, h]; rfl
  have KW : Hid (Calls Tryz.prog 9 #[.agg #[.int .i64 0, .slice oa5 0 cl5], .agg #[.int .i64 0, .slice none 0 0]] w6 fun e w' => e = .returned (.bool true) ∧ Below w6.heap.size w6 w') := wfBench_nil 0 oa5 none cl5 0 w6
  go_wp2_with fail
  (with_reducible refine KW.out.mono ?_)
  rintro e w7 ⟨rfl, b7⟩
  have FIN : Hid (Below w.heap.size w w7) := (HC.out _ B6.out).2.2.2.2.trans (b7.mono (by have := (HC.out _ B6.out).2.2.2.2.size; omega))
  clear b7
  go_wp2
  go_ret
  exact ⟨rfl, FIN.out⟩
end Go.Proofs.YtjbkgmbakjnlhaaGreatDoor
