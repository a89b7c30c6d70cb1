/- The law FnExactFragTake. -/
import Derived.Test.YtjbkgmbakjnlhabGreatDoorPartAz
namespace Go.Proofs.YtjbkgmbakjnlhabGreatDoor
set_option maxRecDepth 100000
open Go.RowKit

set_option maxRecDepth 100000 in
set_option maxHeartbeats 12800000 in
theorem takeLaw_any (now : Int) (a : Option Addr) (cl : Nat) (xs : List SV) (x : RV) (w : World) (hL : SLo w a xs) (hm : xs.length ≤ 9223372036854775807) (hr : RdB w x.a x.zs.length x.zs) (hxm : (x.zs.length : Int) ≤ 9223372036854775807) (hxb : ∀ z ∈ x.zs, 0 ≤ z ∧ z ≤ 255) (hg : GoodErr w) :
    Calls Tryz.prog 3 #[.agg #[.int .i64 now, .slice a xs.length cl], .agg #[.int .i64 x.p.src, .int .i64 x.p.dst, .int .i64 x.p.kind, .int .i64 x.p.id, .int .i64 x.p.hops, .bool x.p.whole, .int .i64 x.p.off, .bool x.p.more, .slice x.a x.zs.length x.c]] w fun e w' => e = .returned (.bool true) ∧ Below w.heap.size w w' := by
  have HL : Hid (SLo w a xs) := hL
  have HG : Hid (GoodErr w) := hg
  have HR : Hid (RdB w x.a x.zs.length x.zs) := hr
  have HXB : Hid (∀ z ∈ x.zs, 0 ≤ z ∧ z ≤ 255) := hxb
  obtain ⟨n, hn⟩ : ∃ n, xs.length = n := ⟨_, rfl⟩
  have HN : Hid (xs.length = n) := hn
  have KZ : Hid (∀ W : World, Below w.heap.size w W → Calls Tryz.prog 5 #[.agg #[.int .i64 now, .slice a xs.length cl], .int .i64 1048576] W fun e w' => ∃ r : Int, e = .returned (.int .i64 r) ∧ (r = -1 ∨ (0 ≤ r ∧ xs.length + sumSz xs ≤ 1048576 ∧ r = 1048576 - (xs.length : Int) - (sumSz xs : Int))) ∧ Below W.heap.size W w') := fun W h => szFragBench_any now a cl xs W (HL.out.below h) hm
  have KT : Hid (∀ W : World, Below w.heap.size w W → xs.length + sumSz xs ≤ 1048576 → Calls Tryz.prog 8 #[.agg #[.int .i64 now, .slice a xs.length cl]] W fun e w' => ∃ gS ts, e = .returned (.agg #[.int .i64 now, .slice (some ⟨gS, 0, none⟩) xs.length xs.length]) ∧ SB w' W.heap.size gS xs.length ts ∧ ts.map SV.key = xs.map SV.key ∧ Below W.heap.size W w') := fun W h hs => toFragBench_any now a cl xs W (HL.out.below h) hs
  have KSZ : Hid (∀ (W : World) (left : Int), 0 ≤ left → left ≤ 1048576 → Calls Tryz.prog 6 #[.agg #[.int .i64 x.p.src, .int .i64 x.p.dst, .int .i64 x.p.kind, .int .i64 x.p.id, .int .i64 x.p.hops, .bool x.p.whole, .int .i64 x.p.off, .bool x.p.more, .slice x.a x.zs.length x.c], .int .i64 left] W fun e w' => e = .returned (.int .i64 (if left < x.zs.length then -1 else left - x.zs.length)) ∧ Below W.heap.size W w') := fun W left h0 h1 => by
    have h := szFragPacket_any x.p x.a x.zs.length x.c left W h0 h1 hxm
    unfold Pk.val at h
    exact h
  have KTP : Hid (∀ W : World, Below w.heap.size w W → x.zs.length ≤ 1048576 → Calls Tryz.prog 9 #[.agg #[.int .i64 x.p.src, .int .i64 x.p.dst, .int .i64 x.p.kind, .int .i64 x.p.id, .int .i64 x.p.hops, .bool x.p.whole, .int .i64 x.p.off, .bool x.p.more, .slice x.a x.zs.length x.c]] W fun e w' => ∃ z : RV, e = .returned (.agg #[.int .i64 z.p.src, .int .i64 z.p.dst, .int .i64 z.p.kind, .int .i64 z.p.id, .int .i64 z.p.hops, .bool z.p.whole, .int .i64 z.p.off, .bool z.p.more, .slice z.a z.zs.length z.c]) ∧ z.key = x.key ∧ DataB w' W.heap.size z ∧ Below W.heap.size W w') := fun W h hl => by
    have h := toPacket_rv x W (HR.out.below h) hl HXB.out
    unfold RV.val0 Pk.val at h
    exact h
  have KS : Hid (∀ (W : World) (v1 v3 : Value), n ≤ 1048576 → BenchV now xs n W v1 → PackV x.key W v3 → Calls Tryz.prog 7 #[v1, v3] W (fun e w' => ∃ r, e = .returned r ∧ GotV now xs x.key W r w' ∧ Below W.heap.size W w')) := fun W v1 v3 hx h1 h3 => by
    obtain ⟨g, ts, rfl, hS, hk⟩ := h1
    obtain ⟨z, rfl, hz, hZ⟩ := h3
    have hl : ts.length = n := (map_len hk).trans HN.out
    have h := specTake_any now (some ⟨g, 0, none⟩) ts.length ts z W (Or.inr ⟨g, rfl, hS⟩) (by omega) (Nat.le_refl _) (by omega) hZ
    rw [hl] at h
    refine h.mono fun e w' ⟨nw, ks, oa, cc, us, y, c, h1, h2, h3, h4⟩ => ⟨_, h1, ⟨ts, nw, ks, oa, cc, us, y, c, hk, rfl, hz ▸ h2, h3⟩, h4⟩
  have KI : Hid (∀ (W : World) (v1 v3 : Value), n ≤ 1048576 → Below w.heap.size w W → BenchV now xs n W v1 → PackV x.key W v3 → Calls Tryz.prog 10 #[v1, v3] W (fun e w' => ∃ r, e = .returned r ∧ GotV now xs x.key W r w' ∧ Below W.heap.size W w')) := fun W v1 v3 hx hB h1 h3 => by
    obtain ⟨g, ts, rfl, hS, hk⟩ := h1
    obtain ⟨z, rfl, hz, hZ⟩ := h3
    have hl : ts.length = n := (map_len hk).trans HN.out
    have h := implTake_any now (some ⟨g, 0, none⟩) ts.length ts z W (Or.inr ⟨g, rfl, hS⟩) (by omega) (Nat.le_refl _) (by omega) hZ (HG.out.below hB HG.out.lt)
    rw [hl] at h
    refine h.mono fun e w' ⟨nw, ks, oa, cc, us, y, c, h1, h2, h3, _, h4⟩ => ⟨_, h1, ⟨ts, nw, ks, oa, cc, us, y, c, hk, rfl, hz ▸ h2, h3⟩, h4⟩
  have KIA : Hid (∀ (W : World) (gX : Nat) (tX : List SV) (zX : RV), n ≤ 1048576 → Below w.heap.size w W → SL W gX tX → tX.map SV.key = xs.map SV.key → zX.key = x.key → ROk W zX → Calls Tryz.prog 10 #[.agg #[.int .i64 now, .slice (some ⟨gX, 0, none⟩) n n], .agg #[.int .i64 zX.p.src, .int .i64 zX.p.dst, .int .i64 zX.p.kind, .int .i64 zX.p.id, .int .i64 zX.p.hops, .bool zX.p.whole, .int .i64 zX.p.off, .bool zX.p.more, .slice zX.a zX.zs.length zX.c]] W (TakePostI now tX x.key W)) := fun W gX tX zX hx hB hS hk hz hZ => by
    have hl : tX.length = n := (map_len hk).trans HN.out
    have h := implTake_any now (some ⟨gX, 0, none⟩) tX.length tX zX W (Or.inr ⟨gX, rfl, hS⟩) (by omega) (Nat.le_refl _) (by omega) hZ (HG.out.below hB HG.out.lt)
    rw [hl, hz] at h
    exact h
  rw [hn] at KZ KT ⊢
  have hne : ∀ z : Int, (z != z) = false := fun z => by simp
  clear hL hg hr hxb hm hn
  go_enter Tryz.func3, Tryz.ntmps3
  go_wp2_with fail
  refine (KZ.out _ (Joins.below_alloc2 _ _ _)).mono ?_
  rintro e w1 ⟨r, rfl, hr, b1⟩
  have B1 : Below w.heap.size w w1 := (Joins.below_alloc2 _ _ _).trans (b1.mono (by simp; omega))
  have P1 : w1.heap[w.heap.size]? = some (.cells #[.int .i64 now, .slice a n cl] 24 (0, 0)) := (b1.block _ (by simp; omega)).trans ((Below.heap_alloc _ _ _ (by simp)).trans (heap_new _ _ _ rfl))
  have A1 : w1.heap[w.heap.size + 1]? = some (.cells #[.int .i64 x.p.src, .int .i64 x.p.dst, .int .i64 x.p.kind, .int .i64 x.p.id, .int .i64 x.p.hops, .bool x.p.whole, .int .i64 x.p.off, .bool x.p.more, .slice x.a x.zs.length x.c] 27 (0, 0)) := (b1.block _ (by simp)).trans (heap_new _ _ _ (by simp))
  clear b1 KZ
  by_cases hn : r < 0
  · go_wp2
    go_ret
    exact ⟨rfl, B1⟩
  have hsum : n + sumSz xs ≤ 1048576 := by omega
  have hnl : n ≤ 1048576 := by omega
  have hr0 : 0 ≤ r := by omega
  have hr1 : r ≤ 1048576 := by omega
  clear hr
  have p0 : w1.cell? ⟨w.heap.size + 1, 0, none⟩ = some (.int .i64 x.p.src) := cell_of_row _ _ _ _ _ _ A1
  have p1 : w1.cell? ⟨w.heap.size + 1, 1, none⟩ = some (.int .i64 x.p.dst) := cell_of_row _ _ _ _ _ _ A1
  have p2 : w1.cell? ⟨w.heap.size + 1, 2, none⟩ = some (.int .i64 x.p.kind) := cell_of_row _ _ _ _ _ _ A1
  have p3 : w1.cell? ⟨w.heap.size + 1, 3, none⟩ = some (.int .i64 x.p.id) := cell_of_row _ _ _ _ _ _ A1
  have p4 : w1.cell? ⟨w.heap.size + 1, 4, none⟩ = some (.int .i64 x.p.hops) := cell_of_row _ _ _ _ _ _ A1
  have p5 : w1.cell? ⟨w.heap.size + 1, 5, none⟩ = some (.bool x.p.whole) := cell_of_row _ _ _ _ _ _ A1
  have p6 : w1.cell? ⟨w.heap.size + 1, 6, none⟩ = some (.int .i64 x.p.off) := cell_of_row _ _ _ _ _ _ A1
  have p7 : w1.cell? ⟨w.heap.size + 1, 7, none⟩ = some (.bool x.p.more) := cell_of_row _ _ _ _ _ _ A1
  have p8 : w1.cell? ⟨w.heap.size + 1, 8, none⟩ = some (.slice x.a x.zs.length x.c) := cell_of_row _ _ _ _ _ _ A1
  go_wp2_with fail
  refine (KSZ.out _ r hr0 hr1).mono ?_
  rintro e w2 ⟨rfl, b2⟩
  have B2 : Below w.heap.size w w2 := B1.trans (b2.mono B1.size)
  have P2 := (b2.block _ (lt_of_block P1)).trans P1
  have A2 := (b2.block _ (lt_of_block A1)).trans A1
  clear b2 KSZ B1 P1 A1 p0 p1 p2 p3 p4 p5 p6 p7 p8
  by_cases hlx : r < (x.zs.length : Int)
  · have hi : (if r < (x.zs.length : Int) then (-1 : Int) else r - x.zs.length) = -1 := if_pos hlx
    rw [hi]
    clear hi
    go_wp2
    go_ret
    exact ⟨rfl, B2⟩
  have hi : (if r < (x.zs.length : Int) then (-1 : Int) else r - x.zs.length) = r - x.zs.length := if_neg hlx
  rw [hi]
  clear hi
  have hxl : x.zs.length ≤ 1048576 := by omega
  have hrl : ¬ (r - (x.zs.length : Int) < 0) := by omega
  have lA2 := lt_of_block A2
  go_upto_region 8 with fail
  have Ha : Hid (Below w.heap.size w w2) := B2
  have HPa : Hid (w2.heap[w.heap.size]? = some (.cells #[.int .i64 now, .slice a n cl] 24 (0, 0))) := P2
  have HAa : Hid (w2.heap[w.heap.size + 1]? = some (.cells #[.int .i64 x.p.src, .int .i64 x.p.dst, .int .i64 x.p.kind, .int .i64 x.p.id, .int .i64 x.p.hops, .bool x.p.whole, .int .i64 x.p.off, .bool x.p.more, .slice x.a x.zs.length x.c] 27 (0, 0))) := A2
  have KWa : Hid (∀ u : World, Below w2.heap.size w2 u → u.cell? ⟨w.heap.size, 0, none⟩ = some (.int .i64 now) ∧ u.cell? ⟨w.heap.size, 1, none⟩ = some (.slice a n cl) ∧ u.cell? ⟨w.heap.size + 1, 0, none⟩ = some (.int .i64 x.p.src) ∧ u.cell? ⟨w.heap.size + 1, 1, none⟩ = some (.int .i64 x.p.dst) ∧ u.cell? ⟨w.heap.size + 1, 2, none⟩ = some (.int .i64 x.p.kind) ∧ u.cell? ⟨w.heap.size + 1, 3, none⟩ = some (.int .i64 x.p.id) ∧ u.cell? ⟨w.heap.size + 1, 4, none⟩ = some (.int .i64 x.p.hops) ∧ u.cell? ⟨w.heap.size + 1, 5, none⟩ = some (.bool x.p.whole) ∧ u.cell? ⟨w.heap.size + 1, 6, none⟩ = some (.int .i64 x.p.off) ∧ u.cell? ⟨w.heap.size + 1, 7, none⟩ = some (.bool x.p.more) ∧ u.cell? ⟨w.heap.size + 1, 8, none⟩ = some (.slice x.a x.zs.length x.c)) := fun u hu => by
    have e0 : ∀ o, u.cell? ⟨w.heap.size, o, none⟩ = _ := fun o => cell_of_row _ _ _ _ _ _ ((hu.block _ (lt_of_block HPa.out)).trans HPa.out)
    have e1 : ∀ o, u.cell? ⟨w.heap.size + 1, o, none⟩ = _ := fun o => cell_of_row _ _ _ _ _ _ ((hu.block _ (lt_of_block HAa.out)).trans HAa.out)
    exact ⟨e0 0, e0 1, e1 0, e1 1, e1 2, e1 3, e1 4, e1 5, e1 6, e1 7, e1 8⟩
  refine Code.wp_mono (Q := fun e aa u => e = Exit.normal ∧ ∃ (q0 q1 q5 q20 q21 q22 q23 q24 q25 q26 q27 q28 q29 q30 q31 q32 q33 q34 q35 q36 q37 q38 : Value) (nA nB : Nat) (tt : List SV) (nn : Int) (kk : List SK) (oo : Option Addr) (co : Nat) (us : List SV) (yy : RV) (c : Int), aa = { tmps := #[q0, q1, .pointer (some ⟨w.heap.size, 0, none⟩), .pointer (some ⟨w.heap.size + 1, 0, none⟩), .bool false, q5, .pointer (some ⟨nA, 0, none⟩), .pointer (some ⟨nB, 0, none⟩), .int .i64 c, undef, undef, undef, undef, undef, undef, undef, undef, undef, undef, undef, q20, q21, q22, q23, q24, q25, q26, q27, q28, q29, q30, q31, q32, q33, q34, q35, q36, q37, q38, undef, undef, undef, undef, undef, undef, undef, undef, undef, undef, undef, undef, undef, undef, undef, undef, undef, undef, undef, undef, undef, undef, undef, undef, undef, undef, undef, undef, undef, undef, undef, undef, undef, undef, undef, undef, undef, undef, undef, undef, undef, undef, undef, undef, undef, undef, undef, undef, undef, undef, undef, undef, undef, undef, undef, undef, undef, undef, undef, undef, undef, undef, undef, undef, undef, undef, undef, undef, undef, undef, undef, undef, undef, undef, undef, undef, undef, undef, undef, undef, undef, undef, undef, undef, undef, undef, undef, undef, undef, undef, undef, undef, undef, undef, undef, undef, undef, undef, undef, undef, undef, undef, undef, undef, undef, undef, undef, undef, undef, undef, undef, undef, undef, undef, undef, undef, undef], defers := [] } ∧ tt.map SV.key = xs.map SV.key ∧ TakeP now tt x.key nn kk yy.key c ∧ Got w2 u nA nB nn oo co us yy kk) ?resta ?_
  rotate_left
  refine wp_region_held_drew (S := fun u => Below w2.heap.size w2 u) (by kernel_rfl) ((Below.refl _ w2).drew) (fun hH => ?_)
  refine take_held 0 (some 31) (.agg #[.int .i64 now, .slice a n cl]) rfl rfl (by kernel_rfl) (by kernel_rfl) (by kernel_rfl) (fun _ _ _ h => nomatch h.1) (by rfl) (fun w hS => by have hS' := KWa.out w hS; obtain ⟨s0, s1, s2, s3, s4, s5, s6, s7, s8, s9, s10⟩ := hS'; go_simp) hH ?_
  simp only [Act.put, List.setIfInBounds_toArray, List.set_cons_zero, List.set_cons_succ]
  refine take_held 2 (some 33) (.agg #[.int .i64 x.p.src, .int .i64 x.p.dst, .int .i64 x.p.kind, .int .i64 x.p.id, .int .i64 x.p.hops, .bool x.p.whole, .int .i64 x.p.off, .bool x.p.more, .slice x.a x.zs.length x.c]) rfl rfl (by kernel_rfl) (by kernel_rfl) (by kernel_rfl) (fun _ _ _ h => nomatch h.1) (by rfl) (fun w hS => by have hS' := KWa.out w hS; obtain ⟨s0, s1, s2, s3, s4, s5, s6, s7, s8, s9, s10⟩ := hS'; go_simp) hH ?_
  simp only [Act.put, List.setIfInBounds_toArray, List.set_cons_zero, List.set_cons_succ]
  refine call3_region (W := w2) (P1 := BenchV now xs n) (P3 := PackV x.key) (POST := GotV now xs x.key) (cA := #[.int .i64 0, .slice none 0 0]) (cB := #[.int .i64 0, .int .i64 0, .int .i64 0, .int .i64 0, .int .i64 0, .bool false, .int .i64 0, .bool false, .slice none 0 0]) (tA := 32) (tB := 33) _ 1 3 4 9 10 32 34 35 6 7 31 33 (fun b1 b3 b4 bA bB => #[true, b1, true, b3, b4, false, false, false, false, bA, bB, false, false, false]) 7 8 9 7 (.agg #[.int .i64 now, .slice a n cl]) (.agg #[.int .i64 x.p.src, .int .i64 x.p.dst, .int .i64 x.p.kind, .int .i64 x.p.id, .int .i64 x.p.hops, .bool x.p.whole, .int .i64 x.p.off, .bool x.p.more, .slice x.a x.zs.length x.c]) (fun _ h => h) ?g1 ?g2 (by decide) ?g3 rfl rfl ?h1 ?h3 ?h4 ?hA ?hB ?m1 ?m3 ?c1 ?c3 ?c4 ?X _ hH _ (by kernel_rfl) _ (by kernel_rfl)
  case g1 =>
    intro b1 b3 bA bB
    exact ⟨by kernel_rfl, by kernel_rfl, by kernel_rfl, by kernel_rfl, by kernel_rfl⟩
  case g2 =>
    intro b1 b3 bA bB
    cases b1 <;> cases b3 <;> cases bA <;> cases bB <;> kernel_rfl
  case g3 => intro d hd; simp at hd; rcases hd with rfl | rfl <;> (simp; done)
  case h1 =>
    intro a0 w0 K hv h
    simp only [Act.eval, Array.getD_eq_getD_getElem?] at hv
    exact wpOp_call rfl rfl 32 rfl 8 _ (by go_simp) h
  case h3 =>
    intro a0 w0 K hv h
    simp only [Act.eval, Array.getD_eq_getD_getElem?] at hv
    exact wpOp_call rfl rfl 34 rfl 9 _ (by go_simp) h
  case h4 =>
    intro a0 w0 K u v hu hv h
    simp only [Act.eval, Array.getD_eq_getD_getElem?] at hu hv
    exact wpOp_call rfl rfl 35 rfl 7 #[u, v] (by go_simp) h
  case hA => intro a0 w0 K h; exact wpOp_made rfl rfl 6 rfl (by go_simp) h
  case hB => intro a0 w0 K h; exact wpOp_made rfl rfl 7 rfl (by go_simp) h
  case m1 =>
    rintro u u' v hb ⟨g, ts, h1, h2, h3⟩
    exact ⟨g, ts, h1, h2.below hb, h3⟩
  case m3 =>
    rintro u u' v hb ⟨z, h1, h2, h3⟩
    exact ⟨z, h1, h2, h3.below hb⟩
  case c1 =>
    intro u hu
    refine (KT.out u (Ha.out.trans (hu.mono Ha.out.size)) hsum).mono ?_
    rintro e w' ⟨gS, ts, rfl, h1, h2, h3⟩
    exact ⟨_, rfl, ⟨gS, ts, rfl, h1.sl, h2⟩, h3⟩
  case c3 =>
    intro u hu
    refine (KTP.out u (Ha.out.trans (hu.mono Ha.out.size)) hxl).mono ?_
    rintro e w' ⟨z, rfl, h1, h2, h3⟩
    exact ⟨_, rfl, ⟨z, rfl, h1, h2.rok⟩, h3⟩
  case c4 => exact fun u v1 v3 hu h1 h3 => KS.out u v1 v3 hnl h1 h3
  case X =>
    intro bA bB v1 v3 nA nB u r' w' hu hb hp hA hB hne'
    obtain ⟨tt, nn, kk, oo, co, us, yy, c, ht1, rfl, hTP, hTA⟩ := hp
    have hw' : Below w2.heap.size w2 w' := hu.trans (hb.mono hu.size)
    have hTW : TAns w' w2.heap.size nn kk oo co us yy := hTA.le hu.size
    obtain ⟨kA, kB⟩ := hTA.kinds
    have hsz := hu.size
    have hsb := hb.size
    have KAB : Hid ((∀ b ∈ qblk oo us, u.heap.size ≤ b ∧ b < w'.heap.size) ∧ (∀ b ∈ yy.blk, u.heap.size ≤ b ∧ b < w'.heap.size)) := ⟨kA, kB⟩
    clear hb hu kA kB hTA
    cases bA with
    | false =>
      cases bB with
      | false =>
        show wpAnyH _ _ _ _ _ 9 _ _ _
        have hH := hw'
        simp only [c3Act, pf, cond_true, cond_false, Act.put, List.setIfInBounds_toArray, List.set_cons_zero, List.set_cons_succ]
        refine take_held 5 (some 30) (.tuple #[.agg #[.int .i64 nn, .slice oo us.length co], .agg #[.int .i64 yy.p.src, .int .i64 yy.p.dst, .int .i64 yy.p.kind, .int .i64 yy.p.id, .int .i64 yy.p.hops, .bool yy.p.whole, .int .i64 yy.p.off, .bool yy.p.more, .slice yy.a yy.zs.length yy.c], .int .i64 c]) rfl rfl (by kernel_rfl) (by kernel_rfl) (by kernel_rfl) (fun _ _ _ h => nomatch h.1) (by rfl) (fun w hS => by go_simp) hH ?_
        simp only [Act.put, List.setIfInBounds_toArray, List.set_cons_zero, List.set_cons_succ]
        refine take_held 6 (some 36) (.agg #[.int .i64 nn, .slice oo us.length co]) rfl rfl (by kernel_rfl) (by kernel_rfl) (by kernel_rfl) (fun _ _ _ h => nomatch h.1) (by rfl) (fun w hS => by go_simp) hH ?_
        simp only [Act.put, List.setIfInBounds_toArray, List.set_cons_zero, List.set_cons_succ]
        refine take_held 7 (some 37) (.agg #[.int .i64 yy.p.src, .int .i64 yy.p.dst, .int .i64 yy.p.kind, .int .i64 yy.p.id, .int .i64 yy.p.hops, .bool yy.p.whole, .int .i64 yy.p.off, .bool yy.p.more, .slice yy.a yy.zs.length yy.c]) rfl rfl (by kernel_rfl) (by kernel_rfl) (by kernel_rfl) (fun _ _ _ h => nomatch h.1) (by rfl) (fun w hS => by go_simp) hH ?_
        simp only [Act.put, List.setIfInBounds_toArray, List.set_cons_zero, List.set_cons_succ]
        refine take_held 8 (some 38) (.int .i64 c) rfl rfl (by kernel_rfl) (by kernel_rfl) (by kernel_rfl) (fun _ _ _ h => nomatch h.1) (by rfl) (fun w hS => by go_simp) hH ?_
        simp only [Act.put, List.setIfInBounds_toArray, List.set_cons_zero, List.set_cons_succ]
        refine wpAnyH_ready (rs := [9, 10]) (by kernel_rfl) (by simp) ?_
        refine AllReadyH.cons rfl (fun K hK => ?_) (AllReadyH.cons rfl (fun K hK => ?_) AllReadyH.nil)
        ·
          go_simp
          obtain ⟨v8, hz1⟩ : ∃ v, w'.alloc (.cells #[.int .i64 0, .slice none 0 0] 32) = v := ⟨_, rfl⟩
          have bzv8 : Below w'.heap.size w' v8 := by rw [← hz1]; exact Joins.below_alloc1 _ _
          have szv8 : v8.heap.size = w'.heap.size + 1 := by rw [← hz1]; simp
          have nzv8 : v8.heap[w'.heap.size]? = some (.cells #[.int .i64 0, .slice none 0 0] 32 (0, 0)) := by rw [← hz1]; exact heap_new _ _ _ rfl
          (first | rw [hz1] | skip)
          have hwv8 : Below w2.heap.size w2 v8 := hw'.trans (bzv8.mono (by omega))
          refine hK.out _ _ hwv8 (fun hH => ?_)
          clear hK K hz1
          (first | (simp only [List.setIfInBounds_toArray, List.set_cons_zero, List.set_cons_succ]) | skip)
          refine wpAnyH_ready (rs := [10]) (by kernel_rfl) (by simp) ?_
          refine AllReadyH.cons rfl (fun K hK => ?_) AllReadyH.nil
          go_simp
          obtain ⟨v9, hz1⟩ : ∃ v, v8.alloc (.cells #[.int .i64 0, .int .i64 0, .int .i64 0, .int .i64 0, .int .i64 0, .bool false, .int .i64 0, .bool false, .slice none 0 0] 33) = v := ⟨_, rfl⟩
          have bzv9 : Below v8.heap.size v8 v9 := by rw [← hz1]; exact Joins.below_alloc1 _ _
          have szv9 : v9.heap.size = v8.heap.size + 1 := by rw [← hz1]; simp
          have nzv9 : v9.heap[v8.heap.size]? = some (.cells #[.int .i64 0, .int .i64 0, .int .i64 0, .int .i64 0, .int .i64 0, .bool false, .int .i64 0, .bool false, .slice none 0 0] 33 (0, 0)) := by rw [← hz1]; exact heap_new _ _ _ rfl
          (first | rw [hz1] | skip)
          have hwv9 : Below w2.heap.size w2 v9 := hwv8.trans (bzv9.mono (by omega))
          refine hK.out _ _ hwv9 (fun hH => ?_)
          clear hK K hz1
          (first | (simp only [List.setIfInBounds_toArray, List.set_cons_zero, List.set_cons_succ]) | skip)
          have fA : v9.heap[w'.heap.size]? = some (.cells #[.int .i64 0, .slice none 0 0] 32 (0, 0)) := (bzv9.block _ (by omega)).trans nzv8
          have fB : v9.heap[(w'.heap.size + 1)]? = some (.cells #[.int .i64 0, .int .i64 0, .int .i64 0, .int .i64 0, .int .i64 0, .bool false, .int .i64 0, .bool false, .slice none 0 0] 33 (0, 0)) := szv8 ▸ nzv9
          have nAB : w'.heap.size ≠ (w'.heap.size + 1) := by omega
          have lA : w2.heap.size ≤ w'.heap.size := by omega
          have lB : w2.heap.size ≤ (w'.heap.size + 1) := by omega
          have a0 : v9.cell? ⟨w'.heap.size, 0, none⟩ = some (.int .i64 0) := cell_of_row _ _ _ _ _ _ fA
          have a1 : v9.cell? ⟨w'.heap.size, 1, none⟩ = some (.slice none 0 0) := cell_of_row _ _ _ _ _ _ fA
          have az : ∀ o, v9.frozen? ⟨w'.heap.size, o, none⟩ = false := fun o => Joins.unfrozen_of_block fA o
          have tw : TAns v9 w2.heap.size nn kk oo co us yy := (hTW.below bzv8).below bzv9
          refine wpAnyH_ready (rs := [11]) (by kernel_rfl) (by simp) ?_
          refine AllReadyH.cons rfl (fun K hK => ?_) AllReadyH.nil
          go_simp
          obtain ⟨v10, hz1⟩ : ∃ v, (v9.setCell ⟨w'.heap.size, 0, none⟩ (.int .i64 nn)).setCell ⟨w'.heap.size, 1, none⟩ (.slice oo us.length co) = v := ⟨_, rfl⟩
          have f10 : ∀ b, b ≠ w'.heap.size → v10.heap[b]? = v9.heap[b]? := fun b hb => by rw [← hz1]; exact (Below.heap_setCell _ _ _ _ hb).trans (Below.heap_setCell _ _ _ _ hb)
          have c10 : v10.heap[w'.heap.size]? = some (.cells #[.int .i64 nn, .slice oo us.length co] 32 (0, 0)) := by rw [← hz1]; exact set_at (o := 1) (set_at (o := 0) fA)
          have e10 : v10.os = v9.os ∧ v10.tape = v9.tape ∧ v10.output = v9.output ∧ v10.heap.size = v9.heap.size := by rw [← hz1]; exact ⟨by simp [World.setCell], by simp [World.setCell], by simp [World.setCell], by simp [World.setCell]⟩
          (first | rw [hz1] | skip)
          have hv10 : Below w2.heap.size w2 v10 := ⟨e10.1.trans hwv9.os, e10.2.1.trans hwv9.tape, e10.2.2.1.trans hwv9.output, by rw [e10.2.2.2]; exact hwv9.size, fun b hb => (f10 b (by omega)).trans (hwv9.block b hb)⟩
          refine hK.out _ _ hv10 (fun hH => ?_)
          clear hK K hz1 a0 a1 az
          (first | (simp only [List.setIfInBounds_toArray, List.set_cons_zero, List.set_cons_succ]) | skip)
          have d3 := (f10 ((w'.heap.size + 1)) (by omega)).trans fB
          have bz : ∀ o, v10.frozen? ⟨(w'.heap.size + 1), o, none⟩ = false := fun o => Joins.unfrozen_of_block d3 o
          have p0 : v10.cell? ⟨(w'.heap.size + 1), 0, none⟩ = some (.int .i64 0) := cell_of_row _ _ _ _ _ _ d3
          have p1 : v10.cell? ⟨(w'.heap.size + 1), 1, none⟩ = some (.int .i64 0) := cell_of_row _ _ _ _ _ _ d3
          have p2 : v10.cell? ⟨(w'.heap.size + 1), 2, none⟩ = some (.int .i64 0) := cell_of_row _ _ _ _ _ _ d3
          have p3 : v10.cell? ⟨(w'.heap.size + 1), 3, none⟩ = some (.int .i64 0) := cell_of_row _ _ _ _ _ _ d3
          have p4 : v10.cell? ⟨(w'.heap.size + 1), 4, none⟩ = some (.int .i64 0) := cell_of_row _ _ _ _ _ _ d3
          have p5 : v10.cell? ⟨(w'.heap.size + 1), 5, none⟩ = some (.bool false) := cell_of_row _ _ _ _ _ _ d3
          have p6 : v10.cell? ⟨(w'.heap.size + 1), 6, none⟩ = some (.int .i64 0) := cell_of_row _ _ _ _ _ _ d3
          have p7 : v10.cell? ⟨(w'.heap.size + 1), 7, none⟩ = some (.bool false) := cell_of_row _ _ _ _ _ _ d3
          have p8 : v10.cell? ⟨(w'.heap.size + 1), 8, none⟩ = some (.slice none 0 0) := cell_of_row _ _ _ _ _ _ d3
          refine wpAnyH_ready (rs := [12]) (by kernel_rfl) (by simp) ?_
          refine AllReadyH.cons rfl (fun K hK => ?_) AllReadyH.nil
          go_simp
          obtain ⟨v11, hz1⟩ : ∃ v, (((((((((v10.setCell ⟨(w'.heap.size + 1), 0, none⟩ (.int .i64 yy.p.src)).setCell ⟨(w'.heap.size + 1), 1, none⟩ (.int .i64 yy.p.dst)).setCell ⟨(w'.heap.size + 1), 2, none⟩ (.int .i64 yy.p.kind)).setCell ⟨(w'.heap.size + 1), 3, none⟩ (.int .i64 yy.p.id)).setCell ⟨(w'.heap.size + 1), 4, none⟩ (.int .i64 yy.p.hops)).setCell ⟨(w'.heap.size + 1), 5, none⟩ (.bool yy.p.whole)).setCell ⟨(w'.heap.size + 1), 6, none⟩ (.int .i64 yy.p.off)).setCell ⟨(w'.heap.size + 1), 7, none⟩ (.bool yy.p.more)).setCell ⟨(w'.heap.size + 1), 8, none⟩ (.slice yy.a yy.zs.length yy.c)) = v := ⟨_, rfl⟩
          have f11 : ∀ b, b ≠ (w'.heap.size + 1) → v11.heap[b]? = v10.heap[b]? := fun b hb => by rw [← hz1]; exact box_far9 v10 _ b hb _ _ _ _ _ _ _ _ _
          have c11 : v11.heap[(w'.heap.size + 1)]? = some (.cells #[.int .i64 yy.p.src, .int .i64 yy.p.dst, .int .i64 yy.p.kind, .int .i64 yy.p.id, .int .i64 yy.p.hops, .bool yy.p.whole, .int .i64 yy.p.off, .bool yy.p.more, .slice yy.a yy.zs.length yy.c] 33 (0, 0)) := by rw [← hz1]; exact box_put9 _ _ _ _ _ _ _ _ _ d3
          have e11 : v11.os = v10.os ∧ v11.tape = v10.tape ∧ v11.output = v10.output ∧ v11.heap.size = v10.heap.size := by rw [← hz1]; exact ⟨by simp [World.setCell], by simp [World.setCell], by simp [World.setCell], box_size9 v10 _ _ _ _ _ _ _ _ _ _⟩
          (first | rw [hz1] | skip)
          have hv11 : Below w2.heap.size w2 v11 := ⟨e11.1.trans hv10.os, e11.2.1.trans hv10.tape, e11.2.2.1.trans hv10.output, by rw [e11.2.2.2]; exact hv10.size, fun b hb => (f11 b (by omega)).trans (hv10.block b hb)⟩
          refine hK.out _ _ hv11 (fun hH => ?_)
          clear hK K hz1 p0 p1 p2 p3 p4 p5 p6 p7 p8 bz
          (first | (simp only [List.setIfInBounds_toArray, List.set_cons_zero, List.set_cons_succ]) | skip)
          refine take_held 13 (some 8) (.int .i64 c) rfl rfl (by kernel_rfl) (by kernel_rfl) (by kernel_rfl) (fun _ _ _ h => nomatch h.1) (by rfl) (fun w hS => by go_simp) hH ?_
          simp only [Act.put, List.setIfInBounds_toArray, List.set_cons_zero, List.set_cons_succ]
          refine wpAnyH_done (by kernel_rfl) ?_ _
          have G : Got w2 v11 (w'.heap.size) ((w'.heap.size + 1)) nn oo co us yy kk := ⟨hv11, (f11 _ nAB).trans c10, c11, lA, lB, tw.kept (fun b hb => (f11 b (by have := KAB.out.1 b hb; omega)).trans (f10 b (by have := KAB.out.1 b hb; omega))) (fun b hb => (f11 b (by have := KAB.out.2 b hb; omega)).trans (f10 b (by have := KAB.out.2 b hb; omega)))⟩
          exact ⟨rfl, _, _, _, _, _, _, _, _, _, _, _, _, _, _, _, _, _, _, _, _, _, _, w'.heap.size, (w'.heap.size + 1), tt, nn, kk, oo, co, us, yy, c, rfl, ht1, hTP, G⟩
        ·
          go_simp
          obtain ⟨v8, hz1⟩ : ∃ v, w'.alloc (.cells #[.int .i64 0, .int .i64 0, .int .i64 0, .int .i64 0, .int .i64 0, .bool false, .int .i64 0, .bool false, .slice none 0 0] 33) = v := ⟨_, rfl⟩
          have bzv8 : Below w'.heap.size w' v8 := by rw [← hz1]; exact Joins.below_alloc1 _ _
          have szv8 : v8.heap.size = w'.heap.size + 1 := by rw [← hz1]; simp
          have nzv8 : v8.heap[w'.heap.size]? = some (.cells #[.int .i64 0, .int .i64 0, .int .i64 0, .int .i64 0, .int .i64 0, .bool false, .int .i64 0, .bool false, .slice none 0 0] 33 (0, 0)) := by rw [← hz1]; exact heap_new _ _ _ rfl
          (first | rw [hz1] | skip)
          have hwv8 : Below w2.heap.size w2 v8 := hw'.trans (bzv8.mono (by omega))
          refine hK.out _ _ hwv8 (fun hH => ?_)
          clear hK K hz1
          (first | (simp only [List.setIfInBounds_toArray, List.set_cons_zero, List.set_cons_succ]) | skip)
          refine wpAnyH_ready (rs := [9]) (by kernel_rfl) (by simp) ?_
          refine AllReadyH.cons rfl (fun K hK => ?_) AllReadyH.nil
          go_simp
          obtain ⟨v9, hz1⟩ : ∃ v, v8.alloc (.cells #[.int .i64 0, .slice none 0 0] 32) = v := ⟨_, rfl⟩
          have bzv9 : Below v8.heap.size v8 v9 := by rw [← hz1]; exact Joins.below_alloc1 _ _
          have szv9 : v9.heap.size = v8.heap.size + 1 := by rw [← hz1]; simp
          have nzv9 : v9.heap[v8.heap.size]? = some (.cells #[.int .i64 0, .slice none 0 0] 32 (0, 0)) := by rw [← hz1]; exact heap_new _ _ _ rfl
          (first | rw [hz1] | skip)
          have hwv9 : Below w2.heap.size w2 v9 := hwv8.trans (bzv9.mono (by omega))
          refine hK.out _ _ hwv9 (fun hH => ?_)
          clear hK K hz1
          (first | (simp only [List.setIfInBounds_toArray, List.set_cons_zero, List.set_cons_succ]) | skip)
          have fA : v9.heap[(w'.heap.size + 1)]? = some (.cells #[.int .i64 0, .slice none 0 0] 32 (0, 0)) := szv8 ▸ nzv9
          have fB : v9.heap[w'.heap.size]? = some (.cells #[.int .i64 0, .int .i64 0, .int .i64 0, .int .i64 0, .int .i64 0, .bool false, .int .i64 0, .bool false, .slice none 0 0] 33 (0, 0)) := (bzv9.block _ (by omega)).trans nzv8
          have nAB : (w'.heap.size + 1) ≠ w'.heap.size := by omega
          have lA : w2.heap.size ≤ (w'.heap.size + 1) := by omega
          have lB : w2.heap.size ≤ w'.heap.size := by omega
          have a0 : v9.cell? ⟨(w'.heap.size + 1), 0, none⟩ = some (.int .i64 0) := cell_of_row _ _ _ _ _ _ fA
          have a1 : v9.cell? ⟨(w'.heap.size + 1), 1, none⟩ = some (.slice none 0 0) := cell_of_row _ _ _ _ _ _ fA
          have az : ∀ o, v9.frozen? ⟨(w'.heap.size + 1), o, none⟩ = false := fun o => Joins.unfrozen_of_block fA o
          have tw : TAns v9 w2.heap.size nn kk oo co us yy := (hTW.below bzv8).below bzv9
          refine wpAnyH_ready (rs := [11]) (by kernel_rfl) (by simp) ?_
          refine AllReadyH.cons rfl (fun K hK => ?_) AllReadyH.nil
          go_simp
          obtain ⟨v10, hz1⟩ : ∃ v, (v9.setCell ⟨(w'.heap.size + 1), 0, none⟩ (.int .i64 nn)).setCell ⟨(w'.heap.size + 1), 1, none⟩ (.slice oo us.length co) = v := ⟨_, rfl⟩
          have f10 : ∀ b, b ≠ (w'.heap.size + 1) → v10.heap[b]? = v9.heap[b]? := fun b hb => by rw [← hz1]; exact (Below.heap_setCell _ _ _ _ hb).trans (Below.heap_setCell _ _ _ _ hb)
          have c10 : v10.heap[(w'.heap.size + 1)]? = some (.cells #[.int .i64 nn, .slice oo us.length co] 32 (0, 0)) := by rw [← hz1]; exact set_at (o := 1) (set_at (o := 0) fA)
          have e10 : v10.os = v9.os ∧ v10.tape = v9.tape ∧ v10.output = v9.output ∧ v10.heap.size = v9.heap.size := by rw [← hz1]; exact ⟨by simp [World.setCell], by simp [World.setCell], by simp [World.setCell], by simp [World.setCell]⟩
          (first | rw [hz1] | skip)
          have hv10 : Below w2.heap.size w2 v10 := ⟨e10.1.trans hwv9.os, e10.2.1.trans hwv9.tape, e10.2.2.1.trans hwv9.output, by rw [e10.2.2.2]; exact hwv9.size, fun b hb => (f10 b (by omega)).trans (hwv9.block b hb)⟩
          refine hK.out _ _ hv10 (fun hH => ?_)
          clear hK K hz1 a0 a1 az
          (first | (simp only [List.setIfInBounds_toArray, List.set_cons_zero, List.set_cons_succ]) | skip)
          have d3 := (f10 (w'.heap.size) (by omega)).trans fB
          have bz : ∀ o, v10.frozen? ⟨w'.heap.size, o, none⟩ = false := fun o => Joins.unfrozen_of_block d3 o
          have p0 : v10.cell? ⟨w'.heap.size, 0, none⟩ = some (.int .i64 0) := cell_of_row _ _ _ _ _ _ d3
          have p1 : v10.cell? ⟨w'.heap.size, 1, none⟩ = some (.int .i64 0) := cell_of_row _ _ _ _ _ _ d3
          have p2 : v10.cell? ⟨w'.heap.size, 2, none⟩ = some (.int .i64 0) := cell_of_row _ _ _ _ _ _ d3
          have p3 : v10.cell? ⟨w'.heap.size, 3, none⟩ = some (.int .i64 0) := cell_of_row _ _ _ _ _ _ d3
          have p4 : v10.cell? ⟨w'.heap.size, 4, none⟩ = some (.int .i64 0) := cell_of_row _ _ _ _ _ _ d3
          have p5 : v10.cell? ⟨w'.heap.size, 5, none⟩ = some (.bool false) := cell_of_row _ _ _ _ _ _ d3
          have p6 : v10.cell? ⟨w'.heap.size, 6, none⟩ = some (.int .i64 0) := cell_of_row _ _ _ _ _ _ d3
          have p7 : v10.cell? ⟨w'.heap.size, 7, none⟩ = some (.bool false) := cell_of_row _ _ _ _ _ _ d3
          have p8 : v10.cell? ⟨w'.heap.size, 8, none⟩ = some (.slice none 0 0) := cell_of_row _ _ _ _ _ _ d3
          refine wpAnyH_ready (rs := [12]) (by kernel_rfl) (by simp) ?_
          refine AllReadyH.cons rfl (fun K hK => ?_) AllReadyH.nil
          go_simp
          obtain ⟨v11, hz1⟩ : ∃ v, (((((((((v10.setCell ⟨w'.heap.size, 0, none⟩ (.int .i64 yy.p.src)).setCell ⟨w'.heap.size, 1, none⟩ (.int .i64 yy.p.dst)).setCell ⟨w'.heap.size, 2, none⟩ (.int .i64 yy.p.kind)).setCell ⟨w'.heap.size, 3, none⟩ (.int .i64 yy.p.id)).setCell ⟨w'.heap.size, 4, none⟩ (.int .i64 yy.p.hops)).setCell ⟨w'.heap.size, 5, none⟩ (.bool yy.p.whole)).setCell ⟨w'.heap.size, 6, none⟩ (.int .i64 yy.p.off)).setCell ⟨w'.heap.size, 7, none⟩ (.bool yy.p.more)).setCell ⟨w'.heap.size, 8, none⟩ (.slice yy.a yy.zs.length yy.c)) = v := ⟨_, rfl⟩
          have f11 : ∀ b, b ≠ w'.heap.size → v11.heap[b]? = v10.heap[b]? := fun b hb => by rw [← hz1]; exact box_far9 v10 _ b hb _ _ _ _ _ _ _ _ _
          have c11 : v11.heap[w'.heap.size]? = some (.cells #[.int .i64 yy.p.src, .int .i64 yy.p.dst, .int .i64 yy.p.kind, .int .i64 yy.p.id, .int .i64 yy.p.hops, .bool yy.p.whole, .int .i64 yy.p.off, .bool yy.p.more, .slice yy.a yy.zs.length yy.c] 33 (0, 0)) := by rw [← hz1]; exact box_put9 _ _ _ _ _ _ _ _ _ d3
          have e11 : v11.os = v10.os ∧ v11.tape = v10.tape ∧ v11.output = v10.output ∧ v11.heap.size = v10.heap.size := by rw [← hz1]; exact ⟨by simp [World.setCell], by simp [World.setCell], by simp [World.setCell], box_size9 v10 _ _ _ _ _ _ _ _ _ _⟩
          (first | rw [hz1] | skip)
          have hv11 : Below w2.heap.size w2 v11 := ⟨e11.1.trans hv10.os, e11.2.1.trans hv10.tape, e11.2.2.1.trans hv10.output, by rw [e11.2.2.2]; exact hv10.size, fun b hb => (f11 b (by omega)).trans (hv10.block b hb)⟩
          refine hK.out _ _ hv11 (fun hH => ?_)
          clear hK K hz1 p0 p1 p2 p3 p4 p5 p6 p7 p8 bz
          (first | (simp only [List.setIfInBounds_toArray, List.set_cons_zero, List.set_cons_succ]) | skip)
          refine take_held 13 (some 8) (.int .i64 c) rfl rfl (by kernel_rfl) (by kernel_rfl) (by kernel_rfl) (fun _ _ _ h => nomatch h.1) (by rfl) (fun w hS => by go_simp) hH ?_
          simp only [Act.put, List.setIfInBounds_toArray, List.set_cons_zero, List.set_cons_succ]
          refine wpAnyH_done (by kernel_rfl) ?_ _
          have G : Got w2 v11 ((w'.heap.size + 1)) (w'.heap.size) nn oo co us yy kk := ⟨hv11, (f11 _ nAB).trans c10, c11, lA, lB, tw.kept (fun b hb => (f11 b (by have := KAB.out.1 b hb; omega)).trans (f10 b (by have := KAB.out.1 b hb; omega))) (fun b hb => (f11 b (by have := KAB.out.2 b hb; omega)).trans (f10 b (by have := KAB.out.2 b hb; omega)))⟩
          exact ⟨rfl, _, _, _, _, _, _, _, _, _, _, _, _, _, _, _, _, _, _, _, _, _, _, (w'.heap.size + 1), w'.heap.size, tt, nn, kk, oo, co, us, yy, c, rfl, ht1, hTP, G⟩
      | true =>
        show wpAnyH _ _ _ _ _ 8 _ _ _
        obtain ⟨hB1, hB2, hB3⟩ := hB rfl
        have hH := hw'
        simp only [c3Act, pf, cond_true, cond_false, Act.put, List.setIfInBounds_toArray, List.set_cons_zero, List.set_cons_succ]
        refine take_held 5 (some 30) (.tuple #[.agg #[.int .i64 nn, .slice oo us.length co], .agg #[.int .i64 yy.p.src, .int .i64 yy.p.dst, .int .i64 yy.p.kind, .int .i64 yy.p.id, .int .i64 yy.p.hops, .bool yy.p.whole, .int .i64 yy.p.off, .bool yy.p.more, .slice yy.a yy.zs.length yy.c], .int .i64 c]) rfl rfl (by kernel_rfl) (by kernel_rfl) (by kernel_rfl) (fun _ _ _ h => nomatch h.1) (by rfl) (fun w hS => by go_simp) hH ?_
        simp only [Act.put, List.setIfInBounds_toArray, List.set_cons_zero, List.set_cons_succ]
        refine take_held 6 (some 36) (.agg #[.int .i64 nn, .slice oo us.length co]) rfl rfl (by kernel_rfl) (by kernel_rfl) (by kernel_rfl) (fun _ _ _ h => nomatch h.1) (by rfl) (fun w hS => by go_simp) hH ?_
        simp only [Act.put, List.setIfInBounds_toArray, List.set_cons_zero, List.set_cons_succ]
        refine take_held 7 (some 37) (.agg #[.int .i64 yy.p.src, .int .i64 yy.p.dst, .int .i64 yy.p.kind, .int .i64 yy.p.id, .int .i64 yy.p.hops, .bool yy.p.whole, .int .i64 yy.p.off, .bool yy.p.more, .slice yy.a yy.zs.length yy.c]) rfl rfl (by kernel_rfl) (by kernel_rfl) (by kernel_rfl) (fun _ _ _ h => nomatch h.1) (by rfl) (fun w hS => by go_simp) hH ?_
        simp only [Act.put, List.setIfInBounds_toArray, List.set_cons_zero, List.set_cons_succ]
        refine take_held 8 (some 38) (.int .i64 c) rfl rfl (by kernel_rfl) (by kernel_rfl) (by kernel_rfl) (fun _ _ _ h => nomatch h.1) (by rfl) (fun w hS => by go_simp) hH ?_
        simp only [Act.put, List.setIfInBounds_toArray, List.set_cons_zero, List.set_cons_succ]
        refine wpAnyH_ready (rs := [9]) (by kernel_rfl) (by simp) ?_
        refine AllReadyH.cons rfl (fun K hK => ?_) AllReadyH.nil
        go_simp
        obtain ⟨v8, hz1⟩ : ∃ v, w'.alloc (.cells #[.int .i64 0, .slice none 0 0] 32) = v := ⟨_, rfl⟩
        have bzv8 : Below w'.heap.size w' v8 := by rw [← hz1]; exact Joins.below_alloc1 _ _
        have szv8 : v8.heap.size = w'.heap.size + 1 := by rw [← hz1]; simp
        have nzv8 : v8.heap[w'.heap.size]? = some (.cells #[.int .i64 0, .slice none 0 0] 32 (0, 0)) := by rw [← hz1]; exact heap_new _ _ _ rfl
        (first | rw [hz1] | skip)
        have hwv8 : Below w2.heap.size w2 v8 := hw'.trans (bzv8.mono (by omega))
        refine hK.out _ _ hwv8 (fun hH => ?_)
        clear hK K hz1
        (first | (simp only [List.setIfInBounds_toArray, List.set_cons_zero, List.set_cons_succ]) | skip)
        have fA : v8.heap[w'.heap.size]? = some (.cells #[.int .i64 0, .slice none 0 0] 32 (0, 0)) := nzv8
        have fB : v8.heap[nB]? = some (.cells #[.int .i64 0, .int .i64 0, .int .i64 0, .int .i64 0, .int .i64 0, .bool false, .int .i64 0, .bool false, .slice none 0 0] 33 (0, 0)) := (bzv8.block _ (by omega)).trans hB1
        have nAB : w'.heap.size ≠ nB := by omega
        have lA : w2.heap.size ≤ w'.heap.size := by omega
        have lB : w2.heap.size ≤ nB := hB2
        have a0 : v8.cell? ⟨w'.heap.size, 0, none⟩ = some (.int .i64 0) := cell_of_row _ _ _ _ _ _ fA
        have a1 : v8.cell? ⟨w'.heap.size, 1, none⟩ = some (.slice none 0 0) := cell_of_row _ _ _ _ _ _ fA
        have az : ∀ o, v8.frozen? ⟨w'.heap.size, o, none⟩ = false := fun o => Joins.unfrozen_of_block fA o
        have tw : TAns v8 w2.heap.size nn kk oo co us yy := hTW.below bzv8
        refine wpAnyH_ready (rs := [11]) (by kernel_rfl) (by simp) ?_
        refine AllReadyH.cons rfl (fun K hK => ?_) AllReadyH.nil
        go_simp
        obtain ⟨v10, hz1⟩ : ∃ v, (v8.setCell ⟨w'.heap.size, 0, none⟩ (.int .i64 nn)).setCell ⟨w'.heap.size, 1, none⟩ (.slice oo us.length co) = v := ⟨_, rfl⟩
        have f10 : ∀ b, b ≠ w'.heap.size → v10.heap[b]? = v8.heap[b]? := fun b hb => by rw [← hz1]; exact (Below.heap_setCell _ _ _ _ hb).trans (Below.heap_setCell _ _ _ _ hb)
        have c10 : v10.heap[w'.heap.size]? = some (.cells #[.int .i64 nn, .slice oo us.length co] 32 (0, 0)) := by rw [← hz1]; exact set_at (o := 1) (set_at (o := 0) fA)
        have e10 : v10.os = v8.os ∧ v10.tape = v8.tape ∧ v10.output = v8.output ∧ v10.heap.size = v8.heap.size := by rw [← hz1]; exact ⟨by simp [World.setCell], by simp [World.setCell], by simp [World.setCell], by simp [World.setCell]⟩
        (first | rw [hz1] | skip)
        have hv10 : Below w2.heap.size w2 v10 := ⟨e10.1.trans hwv8.os, e10.2.1.trans hwv8.tape, e10.2.2.1.trans hwv8.output, by rw [e10.2.2.2]; exact hwv8.size, fun b hb => (f10 b (by omega)).trans (hwv8.block b hb)⟩
        refine hK.out _ _ hv10 (fun hH => ?_)
        clear hK K hz1 a0 a1 az
        (first | (simp only [List.setIfInBounds_toArray, List.set_cons_zero, List.set_cons_succ]) | skip)
        have d3 := (f10 (nB) (by omega)).trans fB
        have bz : ∀ o, v10.frozen? ⟨nB, o, none⟩ = false := fun o => Joins.unfrozen_of_block d3 o
        have p0 : v10.cell? ⟨nB, 0, none⟩ = some (.int .i64 0) := cell_of_row _ _ _ _ _ _ d3
        have p1 : v10.cell? ⟨nB, 1, none⟩ = some (.int .i64 0) := cell_of_row _ _ _ _ _ _ d3
        have p2 : v10.cell? ⟨nB, 2, none⟩ = some (.int .i64 0) := cell_of_row _ _ _ _ _ _ d3
        have p3 : v10.cell? ⟨nB, 3, none⟩ = some (.int .i64 0) := cell_of_row _ _ _ _ _ _ d3
        have p4 : v10.cell? ⟨nB, 4, none⟩ = some (.int .i64 0) := cell_of_row _ _ _ _ _ _ d3
        have p5 : v10.cell? ⟨nB, 5, none⟩ = some (.bool false) := cell_of_row _ _ _ _ _ _ d3
        have p6 : v10.cell? ⟨nB, 6, none⟩ = some (.int .i64 0) := cell_of_row _ _ _ _ _ _ d3
        have p7 : v10.cell? ⟨nB, 7, none⟩ = some (.bool false) := cell_of_row _ _ _ _ _ _ d3
        have p8 : v10.cell? ⟨nB, 8, none⟩ = some (.slice none 0 0) := cell_of_row _ _ _ _ _ _ d3
        refine wpAnyH_ready (rs := [12]) (by kernel_rfl) (by simp) ?_
        refine AllReadyH.cons rfl (fun K hK => ?_) AllReadyH.nil
        go_simp
        obtain ⟨v11, hz1⟩ : ∃ v, (((((((((v10.setCell ⟨nB, 0, none⟩ (.int .i64 yy.p.src)).setCell ⟨nB, 1, none⟩ (.int .i64 yy.p.dst)).setCell ⟨nB, 2, none⟩ (.int .i64 yy.p.kind)).setCell ⟨nB, 3, none⟩ (.int .i64 yy.p.id)).setCell ⟨nB, 4, none⟩ (.int .i64 yy.p.hops)).setCell ⟨nB, 5, none⟩ (.bool yy.p.whole)).setCell ⟨nB, 6, none⟩ (.int .i64 yy.p.off)).setCell ⟨nB, 7, none⟩ (.bool yy.p.more)).setCell ⟨nB, 8, none⟩ (.slice yy.a yy.zs.length yy.c)) = v := ⟨_, rfl⟩
        have f11 : ∀ b, b ≠ nB → v11.heap[b]? = v10.heap[b]? := fun b hb => by rw [← hz1]; exact box_far9 v10 _ b hb _ _ _ _ _ _ _ _ _
        have c11 : v11.heap[nB]? = some (.cells #[.int .i64 yy.p.src, .int .i64 yy.p.dst, .int .i64 yy.p.kind, .int .i64 yy.p.id, .int .i64 yy.p.hops, .bool yy.p.whole, .int .i64 yy.p.off, .bool yy.p.more, .slice yy.a yy.zs.length yy.c] 33 (0, 0)) := by rw [← hz1]; exact box_put9 _ _ _ _ _ _ _ _ _ d3
        have e11 : v11.os = v10.os ∧ v11.tape = v10.tape ∧ v11.output = v10.output ∧ v11.heap.size = v10.heap.size := by rw [← hz1]; exact ⟨by simp [World.setCell], by simp [World.setCell], by simp [World.setCell], box_size9 v10 _ _ _ _ _ _ _ _ _ _⟩
        (first | rw [hz1] | skip)
        have hv11 : Below w2.heap.size w2 v11 := ⟨e11.1.trans hv10.os, e11.2.1.trans hv10.tape, e11.2.2.1.trans hv10.output, by rw [e11.2.2.2]; exact hv10.size, fun b hb => (f11 b (by omega)).trans (hv10.block b hb)⟩
        refine hK.out _ _ hv11 (fun hH => ?_)
        clear hK K hz1 p0 p1 p2 p3 p4 p5 p6 p7 p8 bz
        (first | (simp only [List.setIfInBounds_toArray, List.set_cons_zero, List.set_cons_succ]) | skip)
        refine take_held 13 (some 8) (.int .i64 c) rfl rfl (by kernel_rfl) (by kernel_rfl) (by kernel_rfl) (fun _ _ _ h => nomatch h.1) (by rfl) (fun w hS => by go_simp) hH ?_
        simp only [Act.put, List.setIfInBounds_toArray, List.set_cons_zero, List.set_cons_succ]
        refine wpAnyH_done (by kernel_rfl) ?_ _
        have G : Got w2 v11 (w'.heap.size) (nB) nn oo co us yy kk := ⟨hv11, (f11 _ nAB).trans c10, c11, lA, lB, tw.kept (fun b hb => (f11 b (by have := KAB.out.1 b hb; omega)).trans (f10 b (by have := KAB.out.1 b hb; omega))) (fun b hb => (f11 b (by have := KAB.out.2 b hb; omega)).trans (f10 b (by have := KAB.out.2 b hb; omega)))⟩
        exact ⟨rfl, _, _, _, _, _, _, _, _, _, _, _, _, _, _, _, _, _, _, _, _, _, _, w'.heap.size, nB, tt, nn, kk, oo, co, us, yy, c, rfl, ht1, hTP, G⟩
    | true =>
      cases bB with
      | false =>
        show wpAnyH _ _ _ _ _ 8 _ _ _
        obtain ⟨hA1, hA2, hA3⟩ := hA rfl
        have hH := hw'
        simp only [c3Act, pf, cond_true, cond_false, Act.put, List.setIfInBounds_toArray, List.set_cons_zero, List.set_cons_succ]
        refine take_held 5 (some 30) (.tuple #[.agg #[.int .i64 nn, .slice oo us.length co], .agg #[.int .i64 yy.p.src, .int .i64 yy.p.dst, .int .i64 yy.p.kind, .int .i64 yy.p.id, .int .i64 yy.p.hops, .bool yy.p.whole, .int .i64 yy.p.off, .bool yy.p.more, .slice yy.a yy.zs.length yy.c], .int .i64 c]) rfl rfl (by kernel_rfl) (by kernel_rfl) (by kernel_rfl) (fun _ _ _ h => nomatch h.1) (by rfl) (fun w hS => by go_simp) hH ?_
        simp only [Act.put, List.setIfInBounds_toArray, List.set_cons_zero, List.set_cons_succ]
        refine take_held 6 (some 36) (.agg #[.int .i64 nn, .slice oo us.length co]) rfl rfl (by kernel_rfl) (by kernel_rfl) (by kernel_rfl) (fun _ _ _ h => nomatch h.1) (by rfl) (fun w hS => by go_simp) hH ?_
        simp only [Act.put, List.setIfInBounds_toArray, List.set_cons_zero, List.set_cons_succ]
        refine take_held 7 (some 37) (.agg #[.int .i64 yy.p.src, .int .i64 yy.p.dst, .int .i64 yy.p.kind, .int .i64 yy.p.id, .int .i64 yy.p.hops, .bool yy.p.whole, .int .i64 yy.p.off, .bool yy.p.more, .slice yy.a yy.zs.length yy.c]) rfl rfl (by kernel_rfl) (by kernel_rfl) (by kernel_rfl) (fun _ _ _ h => nomatch h.1) (by rfl) (fun w hS => by go_simp) hH ?_
        simp only [Act.put, List.setIfInBounds_toArray, List.set_cons_zero, List.set_cons_succ]
        refine take_held 8 (some 38) (.int .i64 c) rfl rfl (by kernel_rfl) (by kernel_rfl) (by kernel_rfl) (fun _ _ _ h => nomatch h.1) (by rfl) (fun w hS => by go_simp) hH ?_
        simp only [Act.put, List.setIfInBounds_toArray, List.set_cons_zero, List.set_cons_succ]
        refine wpAnyH_ready (rs := [10]) (by kernel_rfl) (by simp) ?_
        refine AllReadyH.cons rfl (fun K hK => ?_) AllReadyH.nil
        go_simp
        obtain ⟨v8, hz1⟩ : ∃ v, w'.alloc (.cells #[.int .i64 0, .int .i64 0, .int .i64 0, .int .i64 0, .int .i64 0, .bool false, .int .i64 0, .bool false, .slice none 0 0] 33) = v := ⟨_, rfl⟩
        have bzv8 : Below w'.heap.size w' v8 := by rw [← hz1]; exact Joins.below_alloc1 _ _
        have szv8 : v8.heap.size = w'.heap.size + 1 := by rw [← hz1]; simp
        have nzv8 : v8.heap[w'.heap.size]? = some (.cells #[.int .i64 0, .int .i64 0, .int .i64 0, .int .i64 0, .int .i64 0, .bool false, .int .i64 0, .bool false, .slice none 0 0] 33 (0, 0)) := by rw [← hz1]; exact heap_new _ _ _ rfl
        (first | rw [hz1] | skip)
        have hwv8 : Below w2.heap.size w2 v8 := hw'.trans (bzv8.mono (by omega))
        refine hK.out _ _ hwv8 (fun hH => ?_)
        clear hK K hz1
        (first | (simp only [List.setIfInBounds_toArray, List.set_cons_zero, List.set_cons_succ]) | skip)
        have fA : v8.heap[nA]? = some (.cells #[.int .i64 0, .slice none 0 0] 32 (0, 0)) := (bzv8.block _ (by omega)).trans hA1
        have fB : v8.heap[w'.heap.size]? = some (.cells #[.int .i64 0, .int .i64 0, .int .i64 0, .int .i64 0, .int .i64 0, .bool false, .int .i64 0, .bool false, .slice none 0 0] 33 (0, 0)) := nzv8
        have nAB : nA ≠ w'.heap.size := by omega
        have lA : w2.heap.size ≤ nA := hA2
        have lB : w2.heap.size ≤ w'.heap.size := by omega
        have a0 : v8.cell? ⟨nA, 0, none⟩ = some (.int .i64 0) := cell_of_row _ _ _ _ _ _ fA
        have a1 : v8.cell? ⟨nA, 1, none⟩ = some (.slice none 0 0) := cell_of_row _ _ _ _ _ _ fA
        have az : ∀ o, v8.frozen? ⟨nA, o, none⟩ = false := fun o => Joins.unfrozen_of_block fA o
        have tw : TAns v8 w2.heap.size nn kk oo co us yy := hTW.below bzv8
        refine wpAnyH_ready (rs := [11]) (by kernel_rfl) (by simp) ?_
        refine AllReadyH.cons rfl (fun K hK => ?_) AllReadyH.nil
        go_simp
        obtain ⟨v10, hz1⟩ : ∃ v, (v8.setCell ⟨nA, 0, none⟩ (.int .i64 nn)).setCell ⟨nA, 1, none⟩ (.slice oo us.length co) = v := ⟨_, rfl⟩
        have f10 : ∀ b, b ≠ nA → v10.heap[b]? = v8.heap[b]? := fun b hb => by rw [← hz1]; exact (Below.heap_setCell _ _ _ _ hb).trans (Below.heap_setCell _ _ _ _ hb)
        have c10 : v10.heap[nA]? = some (.cells #[.int .i64 nn, .slice oo us.length co] 32 (0, 0)) := by rw [← hz1]; exact set_at (o := 1) (set_at (o := 0) fA)
        have e10 : v10.os = v8.os ∧ v10.tape = v8.tape ∧ v10.output = v8.output ∧ v10.heap.size = v8.heap.size := by rw [← hz1]; exact ⟨by simp [World.setCell], by simp [World.setCell], by simp [World.setCell], by simp [World.setCell]⟩
        (first | rw [hz1] | skip)
        have hv10 : Below w2.heap.size w2 v10 := ⟨e10.1.trans hwv8.os, e10.2.1.trans hwv8.tape, e10.2.2.1.trans hwv8.output, by rw [e10.2.2.2]; exact hwv8.size, fun b hb => (f10 b (by omega)).trans (hwv8.block b hb)⟩
        refine hK.out _ _ hv10 (fun hH => ?_)
        clear hK K hz1 a0 a1 az
        (first | (simp only [List.setIfInBounds_toArray, List.set_cons_zero, List.set_cons_succ]) | skip)
        have d3 := (f10 (w'.heap.size) (by omega)).trans fB
        have bz : ∀ o, v10.frozen? ⟨w'.heap.size, o, none⟩ = false := fun o => Joins.unfrozen_of_block d3 o
        have p0 : v10.cell? ⟨w'.heap.size, 0, none⟩ = some (.int .i64 0) := cell_of_row _ _ _ _ _ _ d3
        have p1 : v10.cell? ⟨w'.heap.size, 1, none⟩ = some (.int .i64 0) := cell_of_row _ _ _ _ _ _ d3
        have p2 : v10.cell? ⟨w'.heap.size, 2, none⟩ = some (.int .i64 0) := cell_of_row _ _ _ _ _ _ d3
        have p3 : v10.cell? ⟨w'.heap.size, 3, none⟩ = some (.int .i64 0) := cell_of_row _ _ _ _ _ _ d3
        have p4 : v10.cell? ⟨w'.heap.size, 4, none⟩ = some (.int .i64 0) := cell_of_row _ _ _ _ _ _ d3
        have p5 : v10.cell? ⟨w'.heap.size, 5, none⟩ = some (.bool false) := cell_of_row _ _ _ _ _ _ d3
        have p6 : v10.cell? ⟨w'.heap.size, 6, none⟩ = some (.int .i64 0) := cell_of_row _ _ _ _ _ _ d3
        have p7 : v10.cell? ⟨w'.heap.size, 7, none⟩ = some (.bool false) := cell_of_row _ _ _ _ _ _ d3
        have p8 : v10.cell? ⟨w'.heap.size, 8, none⟩ = some (.slice none 0 0) := cell_of_row _ _ _ _ _ _ d3
        refine wpAnyH_ready (rs := [12]) (by kernel_rfl) (by simp) ?_
        refine AllReadyH.cons rfl (fun K hK => ?_) AllReadyH.nil
        go_simp
        obtain ⟨v11, hz1⟩ : ∃ v, (((((((((v10.setCell ⟨w'.heap.size, 0, none⟩ (.int .i64 yy.p.src)).setCell ⟨w'.heap.size, 1, none⟩ (.int .i64 yy.p.dst)).setCell ⟨w'.heap.size, 2, none⟩ (.int .i64 yy.p.kind)).setCell ⟨w'.heap.size, 3, none⟩ (.int .i64 yy.p.id)).setCell ⟨w'.heap.size, 4, none⟩ (.int .i64 yy.p.hops)).setCell ⟨w'.heap.size, 5, none⟩ (.bool yy.p.whole)).setCell ⟨w'.heap.size, 6, none⟩ (.int .i64 yy.p.off)).setCell ⟨w'.heap.size, 7, none⟩ (.bool yy.p.more)).setCell ⟨w'.heap.size, 8, none⟩ (.slice yy.a yy.zs.length yy.c)) = v := ⟨_, rfl⟩
        have f11 : ∀ b, b ≠ w'.heap.size → v11.heap[b]? = v10.heap[b]? := fun b hb => by rw [← hz1]; exact box_far9 v10 _ b hb _ _ _ _ _ _ _ _ _
        have c11 : v11.heap[w'.heap.size]? = some (.cells #[.int .i64 yy.p.src, .int .i64 yy.p.dst, .int .i64 yy.p.kind, .int .i64 yy.p.id, .int .i64 yy.p.hops, .bool yy.p.whole, .int .i64 yy.p.off, .bool yy.p.more, .slice yy.a yy.zs.length yy.c] 33 (0, 0)) := by rw [← hz1]; exact box_put9 _ _ _ _ _ _ _ _ _ d3
        have e11 : v11.os = v10.os ∧ v11.tape = v10.tape ∧ v11.output = v10.output ∧ v11.heap.size = v10.heap.size := by rw [← hz1]; exact ⟨by simp [World.setCell], by simp [World.setCell], by simp [World.setCell], box_size9 v10 _ _ _ _ _ _ _ _ _ _⟩
        (first | rw [hz1] | skip)
        have hv11 : Below w2.heap.size w2 v11 := ⟨e11.1.trans hv10.os, e11.2.1.trans hv10.tape, e11.2.2.1.trans hv10.output, by rw [e11.2.2.2]; exact hv10.size, fun b hb => (f11 b (by omega)).trans (hv10.block b hb)⟩
        refine hK.out _ _ hv11 (fun hH => ?_)
        clear hK K hz1 p0 p1 p2 p3 p4 p5 p6 p7 p8 bz
        (first | (simp only [List.setIfInBounds_toArray, List.set_cons_zero, List.set_cons_succ]) | skip)
        refine take_held 13 (some 8) (.int .i64 c) rfl rfl (by kernel_rfl) (by kernel_rfl) (by kernel_rfl) (fun _ _ _ h => nomatch h.1) (by rfl) (fun w hS => by go_simp) hH ?_
        simp only [Act.put, List.setIfInBounds_toArray, List.set_cons_zero, List.set_cons_succ]
        refine wpAnyH_done (by kernel_rfl) ?_ _
        have G : Got w2 v11 (nA) (w'.heap.size) nn oo co us yy kk := ⟨hv11, (f11 _ nAB).trans c10, c11, lA, lB, tw.kept (fun b hb => (f11 b (by have := KAB.out.1 b hb; omega)).trans (f10 b (by have := KAB.out.1 b hb; omega))) (fun b hb => (f11 b (by have := KAB.out.2 b hb; omega)).trans (f10 b (by have := KAB.out.2 b hb; omega)))⟩
        exact ⟨rfl, _, _, _, _, _, _, _, _, _, _, _, _, _, _, _, _, _, _, _, _, _, _, nA, w'.heap.size, tt, nn, kk, oo, co, us, yy, c, rfl, ht1, hTP, G⟩
      | true =>
        show wpAnyH _ _ _ _ _ 7 _ _ _
        obtain ⟨hA1, hA2, hA3⟩ := hA rfl
        obtain ⟨hB1, hB2, hB3⟩ := hB rfl
        have hneq := hne' rfl rfl
        have hH := hw'
        simp only [c3Act, pf, cond_true, Act.put, List.setIfInBounds_toArray, List.set_cons_zero, List.set_cons_succ]
        refine take_held 5 (some 30) (.tuple #[.agg #[.int .i64 nn, .slice oo us.length co], .agg #[.int .i64 yy.p.src, .int .i64 yy.p.dst, .int .i64 yy.p.kind, .int .i64 yy.p.id, .int .i64 yy.p.hops, .bool yy.p.whole, .int .i64 yy.p.off, .bool yy.p.more, .slice yy.a yy.zs.length yy.c], .int .i64 c]) rfl rfl (by kernel_rfl) (by kernel_rfl) (by kernel_rfl) (fun _ _ _ h => nomatch h.1) (by rfl) (fun w hS => by go_simp) hH ?_
        simp only [Act.put, List.setIfInBounds_toArray, List.set_cons_zero, List.set_cons_succ]
        refine take_held 6 (some 36) (.agg #[.int .i64 nn, .slice oo us.length co]) rfl rfl (by kernel_rfl) (by kernel_rfl) (by kernel_rfl) (fun _ _ _ h => nomatch h.1) (by rfl) (fun w hS => by go_simp) hH ?_
        simp only [Act.put, List.setIfInBounds_toArray, List.set_cons_zero, List.set_cons_succ]
        refine take_held 7 (some 37) (.agg #[.int .i64 yy.p.src, .int .i64 yy.p.dst, .int .i64 yy.p.kind, .int .i64 yy.p.id, .int .i64 yy.p.hops, .bool yy.p.whole, .int .i64 yy.p.off, .bool yy.p.more, .slice yy.a yy.zs.length yy.c]) rfl rfl (by kernel_rfl) (by kernel_rfl) (by kernel_rfl) (fun _ _ _ h => nomatch h.1) (by rfl) (fun w hS => by go_simp) hH ?_
        simp only [Act.put, List.setIfInBounds_toArray, List.set_cons_zero, List.set_cons_succ]
        refine take_held 8 (some 38) (.int .i64 c) rfl rfl (by kernel_rfl) (by kernel_rfl) (by kernel_rfl) (fun _ _ _ h => nomatch h.1) (by rfl) (fun w hS => by go_simp) hH ?_
        simp only [Act.put, List.setIfInBounds_toArray, List.set_cons_zero, List.set_cons_succ]
        have fA : w'.heap[nA]? = some (.cells #[.int .i64 0, .slice none 0 0] 32 (0, 0)) := hA1
        have fB : w'.heap[nB]? = some (.cells #[.int .i64 0, .int .i64 0, .int .i64 0, .int .i64 0, .int .i64 0, .bool false, .int .i64 0, .bool false, .slice none 0 0] 33 (0, 0)) := hB1
        have nAB : nA ≠ nB := hneq
        have lA : w2.heap.size ≤ nA := hA2
        have lB : w2.heap.size ≤ nB := hB2
        have a0 : w'.cell? ⟨nA, 0, none⟩ = some (.int .i64 0) := cell_of_row _ _ _ _ _ _ fA
        have a1 : w'.cell? ⟨nA, 1, none⟩ = some (.slice none 0 0) := cell_of_row _ _ _ _ _ _ fA
        have az : ∀ o, w'.frozen? ⟨nA, o, none⟩ = false := fun o => Joins.unfrozen_of_block fA o
        have tw : TAns w' w2.heap.size nn kk oo co us yy := hTW
        refine wpAnyH_ready (rs := [11]) (by kernel_rfl) (by simp) ?_
        refine AllReadyH.cons rfl (fun K hK => ?_) AllReadyH.nil
        go_simp
        obtain ⟨v10, hz1⟩ : ∃ v, (w'.setCell ⟨nA, 0, none⟩ (.int .i64 nn)).setCell ⟨nA, 1, none⟩ (.slice oo us.length co) = v := ⟨_, rfl⟩
        have f10 : ∀ b, b ≠ nA → v10.heap[b]? = w'.heap[b]? := fun b hb => by rw [← hz1]; exact (Below.heap_setCell _ _ _ _ hb).trans (Below.heap_setCell _ _ _ _ hb)
        have c10 : v10.heap[nA]? = some (.cells #[.int .i64 nn, .slice oo us.length co] 32 (0, 0)) := by rw [← hz1]; exact set_at (o := 1) (set_at (o := 0) fA)
        have e10 : v10.os = w'.os ∧ v10.tape = w'.tape ∧ v10.output = w'.output ∧ v10.heap.size = w'.heap.size := by rw [← hz1]; exact ⟨by simp [World.setCell], by simp [World.setCell], by simp [World.setCell], by simp [World.setCell]⟩
        (first | rw [hz1] | skip)
        have hv10 : Below w2.heap.size w2 v10 := ⟨e10.1.trans hw'.os, e10.2.1.trans hw'.tape, e10.2.2.1.trans hw'.output, by rw [e10.2.2.2]; exact hw'.size, fun b hb => (f10 b (by omega)).trans (hw'.block b hb)⟩
        refine hK.out _ _ hv10 (fun hH => ?_)
        clear hK K hz1 a0 a1 az
        (first | (simp only [List.setIfInBounds_toArray, List.set_cons_zero, List.set_cons_succ]) | skip)
        have d3 := (f10 (nB) (by omega)).trans fB
        have bz : ∀ o, v10.frozen? ⟨nB, o, none⟩ = false := fun o => Joins.unfrozen_of_block d3 o
        have p0 : v10.cell? ⟨nB, 0, none⟩ = some (.int .i64 0) := cell_of_row _ _ _ _ _ _ d3
        have p1 : v10.cell? ⟨nB, 1, none⟩ = some (.int .i64 0) := cell_of_row _ _ _ _ _ _ d3
        have p2 : v10.cell? ⟨nB, 2, none⟩ = some (.int .i64 0) := cell_of_row _ _ _ _ _ _ d3
        have p3 : v10.cell? ⟨nB, 3, none⟩ = some (.int .i64 0) := cell_of_row _ _ _ _ _ _ d3
        have p4 : v10.cell? ⟨nB, 4, none⟩ = some (.int .i64 0) := cell_of_row _ _ _ _ _ _ d3
        have p5 : v10.cell? ⟨nB, 5, none⟩ = some (.bool false) := cell_of_row _ _ _ _ _ _ d3
        have p6 : v10.cell? ⟨nB, 6, none⟩ = some (.int .i64 0) := cell_of_row _ _ _ _ _ _ d3
        have p7 : v10.cell? ⟨nB, 7, none⟩ = some (.bool false) := cell_of_row _ _ _ _ _ _ d3
        have p8 : v10.cell? ⟨nB, 8, none⟩ = some (.slice none 0 0) := cell_of_row _ _ _ _ _ _ d3
        refine wpAnyH_ready (rs := [12]) (by kernel_rfl) (by simp) ?_
        refine AllReadyH.cons rfl (fun K hK => ?_) AllReadyH.nil
        go_simp
        obtain ⟨v11, hz1⟩ : ∃ v, (((((((((v10.setCell ⟨nB, 0, none⟩ (.int .i64 yy.p.src)).setCell ⟨nB, 1, none⟩ (.int .i64 yy.p.dst)).setCell ⟨nB, 2, none⟩ (.int .i64 yy.p.kind)).setCell ⟨nB, 3, none⟩ (.int .i64 yy.p.id)).setCell ⟨nB, 4, none⟩ (.int .i64 yy.p.hops)).setCell ⟨nB, 5, none⟩ (.bool yy.p.whole)).setCell ⟨nB, 6, none⟩ (.int .i64 yy.p.off)).setCell ⟨nB, 7, none⟩ (.bool yy.p.more)).setCell ⟨nB, 8, none⟩ (.slice yy.a yy.zs.length yy.c)) = v := ⟨_, rfl⟩
        have f11 : ∀ b, b ≠ nB → v11.heap[b]? = v10.heap[b]? := fun b hb => by rw [← hz1]; exact box_far9 v10 _ b hb _ _ _ _ _ _ _ _ _
        have c11 : v11.heap[nB]? = some (.cells #[.int .i64 yy.p.src, .int .i64 yy.p.dst, .int .i64 yy.p.kind, .int .i64 yy.p.id, .int .i64 yy.p.hops, .bool yy.p.whole, .int .i64 yy.p.off, .bool yy.p.more, .slice yy.a yy.zs.length yy.c] 33 (0, 0)) := by rw [← hz1]; exact box_put9 _ _ _ _ _ _ _ _ _ d3
        have e11 : v11.os = v10.os ∧ v11.tape = v10.tape ∧ v11.output = v10.output ∧ v11.heap.size = v10.heap.size := by rw [← hz1]; exact ⟨by simp [World.setCell], by simp [World.setCell], by simp [World.setCell], box_size9 v10 _ _ _ _ _ _ _ _ _ _⟩
        (first | rw [hz1] | skip)
        have hv11 : Below w2.heap.size w2 v11 := ⟨e11.1.trans hv10.os, e11.2.1.trans hv10.tape, e11.2.2.1.trans hv10.output, by rw [e11.2.2.2]; exact hv10.size, fun b hb => (f11 b (by omega)).trans (hv10.block b hb)⟩
        refine hK.out _ _ hv11 (fun hH => ?_)
        clear hK K hz1 p0 p1 p2 p3 p4 p5 p6 p7 p8 bz
        (first | (simp only [List.setIfInBounds_toArray, List.set_cons_zero, List.set_cons_succ]) | skip)
        refine take_held 13 (some 8) (.int .i64 c) rfl rfl (by kernel_rfl) (by kernel_rfl) (by kernel_rfl) (fun _ _ _ h => nomatch h.1) (by rfl) (fun w hS => by go_simp) hH ?_
        simp only [Act.put, List.setIfInBounds_toArray, List.set_cons_zero, List.set_cons_succ]
        refine wpAnyH_done (by kernel_rfl) ?_ _
        have G : Got w2 v11 (nA) (nB) nn oo co us yy kk := ⟨hv11, (f11 _ nAB).trans c10, c11, lA, lB, tw.kept (fun b hb => (f11 b (by have := KAB.out.1 b hb; omega)).trans (f10 b (by have := KAB.out.1 b hb; omega))) (fun b hb => (f11 b (by have := KAB.out.2 b hb; omega)).trans (f10 b (by have := KAB.out.2 b hb; omega)))⟩
        exact ⟨rfl, _, _, _, _, _, _, _, _, _, _, _, _, _, _, _, _, _, _, _, _, _, _, nA, nB, tt, nn, kk, oo, co, us, yy, c, rfl, ht1, hTP, G⟩
  case resta =>
    rintro e aa u ⟨rfl, q0, q1, q5, q20, q21, q22, q23, q24, q25, q26, q27, q28, q29, q30, q31, q32, q33, q34, q35, q36, q37, q38, zA, zB, t1, nw, ks, oW, cW, tsW, yW, cc, rfl, ht1, hTP, G3⟩
    obtain ⟨w3, rfl⟩ : ∃ w3, w3 = u := ⟨_, rfl⟩
    have HTW : Hid (TakeP now t1 x.key nw ks yW.key cc) := hTP
    have HK1 : Hid (t1.map SV.key = xs.map SV.key) := ht1
    have lA2 := lt_of_block HAa.out
    have s23 := G3.below.size
    have S3 : BaseS w w3.heap.size (.cells #[.int .i64 now, .slice a n cl] 24 (0, 0)) (.cells #[.int .i64 x.p.src, .int .i64 x.p.dst, .int .i64 x.p.kind, .int .i64 x.p.id, .int .i64 x.p.hops, .bool x.p.whole, .int .i64 x.p.off, .bool x.p.more, .slice x.a x.zs.length x.c] 27 (0, 0)) (.cells #[.int .i64 nw, .slice oW tsW.length cW] 32 (0, 0)) (.cells #[.int .i64 yW.p.src, .int .i64 yW.p.dst, .int .i64 yW.p.kind, .int .i64 yW.p.id, .int .i64 yW.p.hops, .bool yW.p.whole, .int .i64 yW.p.off, .bool yW.p.more, .slice yW.a yW.zs.length yW.c] 33 (0, 0)) zA zB w2.heap.size nw ks oW cW tsW yW w3 := ⟨(G3.below.block _ (lt_of_block HPa.out)).trans HPa.out, (G3.below.block _ (lt_of_block HAa.out)).trans HAa.out, G3.boxA, G3.boxB, G3.ans, Ha.out.trans (G3.below.mono Ha.out.size), by omega, lt_of_block G3.boxA, lt_of_block G3.boxB, fun b hb => (G3.ans.kinds.1 b hb).2, fun b hb => (G3.ans.kinds.2 b hb).2, Nat.le_refl _⟩
    have lB3 := S3.hw
    have lzA := S3.hA
    have lzB := S3.hB
    clear hTP ht1 G3 Ha HPa HAa KWa
    have y0 : w3.cell? ⟨w.heap.size, 0, none⟩ = some (.int .i64 now) := cell_of_row _ _ _ _ _ _ S3.P
    have y1 : w3.cell? ⟨w.heap.size, 1, none⟩ = some (.slice a n cl) := cell_of_row _ _ _ _ _ _ S3.P
    go_wp2_with fail
    refine (KT.out _ S3.B hsum).mono ?_
    rintro e w4 ⟨gX, tX, rfl, X4, kX, b4⟩
    have S4 := S3.below b4
    have s4 := b4.size
    have RX := X4.rng
    have HKX : Hid (tX.map SV.key = xs.map SV.key) := kX
    have lX : tX.length = n := (map_len kX).trans HN.out
    obtain ⟨w5, hw5⟩ : ∃ v, w4.alloc (.cells #[.int .i64 now, .slice (some ⟨gX, 0, none⟩) n n] 32) = v := ⟨_, rfl⟩
    have b5 : Below w4.heap.size w4 w5 := by rw [← hw5]; exact Joins.below_alloc1 _ _
    have s5 : w5.heap.size = w4.heap.size + 1 := by rw [← hw5]; simp
    have X5 : w5.heap[w4.heap.size]? = some (.cells #[.int .i64 now, .slice (some ⟨gX, 0, none⟩) n n] 32 (0, 0)) := by rw [← hw5]; exact heap_new _ _ _ rfl
    have S5 := S4.below b5
    clear y0 y1 kX
    have p0 : w5.cell? ⟨w.heap.size + 1, 0, none⟩ = some (.int .i64 x.p.src) := cell_of_row _ _ _ _ _ _ S5.A
    have p1 : w5.cell? ⟨w.heap.size + 1, 1, none⟩ = some (.int .i64 x.p.dst) := cell_of_row _ _ _ _ _ _ S5.A
    have p2 : w5.cell? ⟨w.heap.size + 1, 2, none⟩ = some (.int .i64 x.p.kind) := cell_of_row _ _ _ _ _ _ S5.A
    have p3 : w5.cell? ⟨w.heap.size + 1, 3, none⟩ = some (.int .i64 x.p.id) := cell_of_row _ _ _ _ _ _ S5.A
    have p4 : w5.cell? ⟨w.heap.size + 1, 4, none⟩ = some (.int .i64 x.p.hops) := cell_of_row _ _ _ _ _ _ S5.A
    have p5 : w5.cell? ⟨w.heap.size + 1, 5, none⟩ = some (.bool x.p.whole) := cell_of_row _ _ _ _ _ _ S5.A
    have p6 : w5.cell? ⟨w.heap.size + 1, 6, none⟩ = some (.int .i64 x.p.off) := cell_of_row _ _ _ _ _ _ S5.A
    have p7 : w5.cell? ⟨w.heap.size + 1, 7, none⟩ = some (.bool x.p.more) := cell_of_row _ _ _ _ _ _ S5.A
    have p8 : w5.cell? ⟨w.heap.size + 1, 8, none⟩ = some (.slice x.a x.zs.length x.c) := cell_of_row _ _ _ _ _ _ S5.A
    go_wp2_with fail
    (first | rw [hw5] | skip)
    refine (KTP.out _ S5.B hxl).mono ?_
    rintro e w6 ⟨zX, rfl, hzX, D6, b6⟩
    have S6 := S5.below b6
    have s6 := b6.size
    have HZX : Hid (zX.key = x.key) := hzX
    have RY : ∀ b ∈ zX.blk, w5.heap.size ≤ b ∧ b < w6.heap.size := fun b hb => ⟨(D6.blk b hb).1, (D6.blk b hb).2.1⟩
    obtain ⟨w7, hw7⟩ : ∃ v, w6.alloc (.cells #[.int .i64 zX.p.src, .int .i64 zX.p.dst, .int .i64 zX.p.kind, .int .i64 zX.p.id, .int .i64 zX.p.hops, .bool zX.p.whole, .int .i64 zX.p.off, .bool zX.p.more, .slice zX.a zX.zs.length zX.c] 33) = v := ⟨_, rfl⟩
    have b7 : Below w6.heap.size w6 w7 := by rw [← hw7]; exact Joins.below_alloc1 _ _
    have s7 : w7.heap.size = w6.heap.size + 1 := by rw [← hw7]; simp
    have Z7 : w7.heap[w6.heap.size]? = some (.cells #[.int .i64 zX.p.src, .int .i64 zX.p.dst, .int .i64 zX.p.kind, .int .i64 zX.p.id, .int .i64 zX.p.hops, .bool zX.p.whole, .int .i64 zX.p.off, .bool zX.p.more, .slice zX.a zX.zs.length zX.c] 33 (0, 0)) := by rw [← hw7]; exact heap_new _ _ _ rfl
    have S7 := S6.below b7
    have X7 := (b7.block _ (by omega)).trans ((b6.block _ (by omega)).trans X5)
    have SX7 : SB w7 w3.heap.size gX n tX := ((X4.below b5).below b6).below b7
    have DX7 : DataB w7 w5.heap.size zX := D6.below b7
    clear hw5 p0 p1 p2 p3 p4 p5 p6 p7 p8 hzX X4 X5 D6 S3 S4 S5 S6 b4 b5 b6 b7
    have x0 : w7.cell? ⟨w4.heap.size, 0, none⟩ = some (.int .i64 now) := cell_of_row _ _ _ _ _ _ X7
    have x1 : w7.cell? ⟨w4.heap.size, 1, none⟩ = some (.slice (some ⟨gX, 0, none⟩) n n) := cell_of_row _ _ _ _ _ _ X7
    have p0 : w7.cell? ⟨w6.heap.size, 0, none⟩ = some (.int .i64 zX.p.src) := cell_of_row _ _ _ _ _ _ Z7
    have p1 : w7.cell? ⟨w6.heap.size, 1, none⟩ = some (.int .i64 zX.p.dst) := cell_of_row _ _ _ _ _ _ Z7
    have p2 : w7.cell? ⟨w6.heap.size, 2, none⟩ = some (.int .i64 zX.p.kind) := cell_of_row _ _ _ _ _ _ Z7
    have p3 : w7.cell? ⟨w6.heap.size, 3, none⟩ = some (.int .i64 zX.p.id) := cell_of_row _ _ _ _ _ _ Z7
    have p4 : w7.cell? ⟨w6.heap.size, 4, none⟩ = some (.int .i64 zX.p.hops) := cell_of_row _ _ _ _ _ _ Z7
    have p5 : w7.cell? ⟨w6.heap.size, 5, none⟩ = some (.bool zX.p.whole) := cell_of_row _ _ _ _ _ _ Z7
    have p6 : w7.cell? ⟨w6.heap.size, 6, none⟩ = some (.int .i64 zX.p.off) := cell_of_row _ _ _ _ _ _ Z7
    have p7 : w7.cell? ⟨w6.heap.size, 7, none⟩ = some (.bool zX.p.more) := cell_of_row _ _ _ _ _ _ Z7
    have p8 : w7.cell? ⟨w6.heap.size, 8, none⟩ = some (.slice zX.a zX.zs.length zX.c) := cell_of_row _ _ _ _ _ _ Z7
    go_wp2_with fail
    (first | rw [hw7] | skip)
    refine (KIA.out _ gX tX zX hnl S7.B SX7.sl HKX.out HZX.out DX7.rok).mono ?_
    rintro e w8 ⟨nw', ks', oG, cG, tsG, yG, cc', rfl, hTG, T8, ap8, b8⟩
    obtain ⟨rfl, rfl, hyk, rfl⟩ := HTW.out.same hTG (HKX.out.trans HK1.out.symm) rfl
    unfold RV.val0 Pk.val
    have s8 := b8.size
    obtain ⟨w9, hw9⟩ : ∃ v, (w8.alloc (.cells #[.int .i64 nw, .slice oG tsG.length cG] 32)).alloc (.cells #[.int .i64 yG.p.src, .int .i64 yG.p.dst, .int .i64 yG.p.kind, .int .i64 yG.p.id, .int .i64 yG.p.hops, .bool yG.p.whole, .int .i64 yG.p.off, .bool yG.p.more, .slice yG.a yG.zs.length yG.c] 33) = v := ⟨_, rfl⟩
    have b9 : Below w8.heap.size w8 w9 := by rw [← hw9]; exact Joins.below_alloc2 _ _ _
    have s9 : w9.heap.size = w8.heap.size + 2 := by rw [← hw9]; simp
    have HYK : Hid (yW.key = yG.key) := hyk
    have g9 : w9.heap[w8.heap.size]? = some (.cells #[.int .i64 nw, .slice oG tsG.length cG] 32 (0, 0)) := by rw [← hw9]; exact (Below.heap_alloc _ _ _ (by simp)).trans (heap_new _ _ _ rfl)
    have r9 : w9.heap[w8.heap.size + 1]? = some (.cells #[.int .i64 yG.p.src, .int .i64 yG.p.dst, .int .i64 yG.p.kind, .int .i64 yG.p.id, .int .i64 yG.p.hops, .bool yG.p.whole, .int .i64 yG.p.off, .bool yG.p.more, .slice yG.a yG.zs.length yG.c] 33 (0, 0)) := by rw [← hw9]; exact heap_new _ _ _ (by simp)
    have G9 : GotS w7.heap.size w9.heap.size (.cells #[.int .i64 nw, .slice oG tsG.length cG] 32 (0, 0)) (.cells #[.int .i64 yG.p.src, .int .i64 yG.p.dst, .int .i64 yG.p.kind, .int .i64 yG.p.id, .int .i64 yG.p.hops, .bool yG.p.whole, .int .i64 yG.p.off, .bool yG.p.more, .slice yG.a yG.zs.length yG.c] 33 (0, 0)) w8.heap.size (w8.heap.size + 1) nw ks oG cG tsG yG w9 := ⟨g9, r9, T8.below b9, by omega, by omega, fun b hb => (by have := T8.kinds.1 b hb; omega), fun b hb => (by have := T8.kinds.2 b hb; omega), tap_q T8.ans ap8, Nat.le_refl _⟩
    have KEY : Hid (tsW.map SV.key = tsG.map SV.key) := S7.T.keys.trans T8.keys.symm
    have KB : Hid (Below w7.heap.size w7 w9) := b8.trans (b9.mono s8)
    have S9 := S7.below KB.out
    have X9 := (KB.out.block _ (by omega)).trans X7
    have Z9 := (KB.out.block _ (by omega)).trans Z7
    have SX9 := SX7.below KB.out
    have DX9 := DX7.below KB.out
    clear x0 x1 p0 p1 p2 p3 p4 p5 p6 p7 p8 hTG T8 ap8 b8 b9 g9 r9 hyk S7 X7 Z7 SX7 DX7 hw7 KB KIA
    have g0 : w9.cell? ⟨w8.heap.size, 0, none⟩ = some (.int .i64 nw) := cell_of_row _ _ _ _ _ _ G9.G
    have g1 : w9.cell? ⟨w8.heap.size, 1, none⟩ = some (.slice oG tsG.length cG) := cell_of_row _ _ _ _ _ _ G9.G
    have z0 : w9.cell? ⟨zA, 0, none⟩ = some (.int .i64 nw) := cell_of_row _ _ _ _ _ _ S9.Q
    have z1 : w9.cell? ⟨zA, 1, none⟩ = some (.slice oW tsW.length cW) := cell_of_row _ _ _ _ _ _ S9.Q
    go_wp2_with fail
    (first | rw [hw9] | skip)
    refine (eqBench_q nw oG oW cG cW tsG tsW _ G9.T.ans.slq S9.T.ans.slq KEY.out (by have := G9.T.len; omega)).mono ?_
    rintro e w10 ⟨rfl, b10⟩
    have s10 := b10.size
    have G10 := G9.below b10
    have S10 := S9.below b10
    have X10 := (b10.block _ (by omega)).trans X9
    have Z10 := (b10.block _ (by omega)).trans Z9
    have SX10 := SX9.below b10
    have DX10 := DX9.below b10
    have KEP : Hid (∀ U : World, ROk U yG → ROk U yW → Calls Tryz.prog 12 #[.agg #[.int .i64 yG.p.src, .int .i64 yG.p.dst, .int .i64 yG.p.kind, .int .i64 yG.p.id, .int .i64 yG.p.hops, .bool yG.p.whole, .int .i64 yG.p.off, .bool yG.p.more, .slice yG.a yG.zs.length yG.c], .agg #[.int .i64 yW.p.src, .int .i64 yW.p.dst, .int .i64 yW.p.kind, .int .i64 yW.p.id, .int .i64 yW.p.hops, .bool yW.p.whole, .int .i64 yW.p.off, .bool yW.p.more, .slice yW.a yW.zs.length yW.c]] U fun e w' => e = .returned (.bool true) ∧ Below U.heap.size U w') := fun U h1 h2 => by
      have h := eqPacket_rv yG yW U h1 h2 HYK.out.symm
      unfold RV.val0 Pk.val at h
      exact h
    clear g0 g1 z0 z1 hw9 S9 X9 Z9 SX9 DX9 G9 b10
    have p0 : w10.cell? ⟨w8.heap.size + 1, 0, none⟩ = some (.int .i64 yG.p.src) := cell_of_row _ _ _ _ _ _ G10.Y
    have p1 : w10.cell? ⟨w8.heap.size + 1, 1, none⟩ = some (.int .i64 yG.p.dst) := cell_of_row _ _ _ _ _ _ G10.Y
    have p2 : w10.cell? ⟨w8.heap.size + 1, 2, none⟩ = some (.int .i64 yG.p.kind) := cell_of_row _ _ _ _ _ _ G10.Y
    have p3 : w10.cell? ⟨w8.heap.size + 1, 3, none⟩ = some (.int .i64 yG.p.id) := cell_of_row _ _ _ _ _ _ G10.Y
    have p4 : w10.cell? ⟨w8.heap.size + 1, 4, none⟩ = some (.int .i64 yG.p.hops) := cell_of_row _ _ _ _ _ _ G10.Y
    have p5 : w10.cell? ⟨w8.heap.size + 1, 5, none⟩ = some (.bool yG.p.whole) := cell_of_row _ _ _ _ _ _ G10.Y
    have p6 : w10.cell? ⟨w8.heap.size + 1, 6, none⟩ = some (.int .i64 yG.p.off) := cell_of_row _ _ _ _ _ _ G10.Y
    have p7 : w10.cell? ⟨w8.heap.size + 1, 7, none⟩ = some (.bool yG.p.more) := cell_of_row _ _ _ _ _ _ G10.Y
    have p8 : w10.cell? ⟨w8.heap.size + 1, 8, none⟩ = some (.slice yG.a yG.zs.length yG.c) := cell_of_row _ _ _ _ _ _ G10.Y
    have r0 : w10.cell? ⟨zB, 0, none⟩ = some (.int .i64 yW.p.src) := cell_of_row _ _ _ _ _ _ S10.Y
    have r1 : w10.cell? ⟨zB, 1, none⟩ = some (.int .i64 yW.p.dst) := cell_of_row _ _ _ _ _ _ S10.Y
    have r2 : w10.cell? ⟨zB, 2, none⟩ = some (.int .i64 yW.p.kind) := cell_of_row _ _ _ _ _ _ S10.Y
    have r3 : w10.cell? ⟨zB, 3, none⟩ = some (.int .i64 yW.p.id) := cell_of_row _ _ _ _ _ _ S10.Y
    have r4 : w10.cell? ⟨zB, 4, none⟩ = some (.int .i64 yW.p.hops) := cell_of_row _ _ _ _ _ _ S10.Y
    have r5 : w10.cell? ⟨zB, 5, none⟩ = some (.bool yW.p.whole) := cell_of_row _ _ _ _ _ _ S10.Y
    have r6 : w10.cell? ⟨zB, 6, none⟩ = some (.int .i64 yW.p.off) := cell_of_row _ _ _ _ _ _ S10.Y
    have r7 : w10.cell? ⟨zB, 7, none⟩ = some (.bool yW.p.more) := cell_of_row _ _ _ _ _ _ S10.Y
    have r8 : w10.cell? ⟨zB, 8, none⟩ = some (.slice yW.a yW.zs.length yW.c) := cell_of_row _ _ _ _ _ _ S10.Y
    go_wp2_with fail
    refine (KEP.out _ G10.T.data.rok S10.T.data.rok).mono ?_
    rintro e w11 ⟨rfl, b11⟩
    have s11 := b11.size
    have G11 := G10.below b11
    have S11 := S10.below b11
    have X11 := (b11.block _ (by omega)).trans X10
    have Z11 := (b11.block _ (by omega)).trans Z10
    have SX11 := SX10.below b11
    have DX11 := DX10.below b11
    clear p0 p1 p2 p3 p4 p5 p6 p7 p8 r0 r1 r2 r3 r4 r5 r6 r7 r8 S10 X10 Z10 SX10 DX10 G10 b11
    go_upto_region 14 with fail
    have SK : Hid (∀ u : World, Below w11.heap.size w11 u → (fun u => u.cell? ⟨w.heap.size, 0, none⟩ = some (.int .i64 now) ∧ u.cell? ⟨w.heap.size, 1, none⟩ = some (.slice a n cl) ∧ u.cell? ⟨w4.heap.size, 0, none⟩ = some (.int .i64 now) ∧ u.cell? ⟨w4.heap.size, 1, none⟩ = some (.slice (some ⟨gX, 0, none⟩) n n)) u) := fun u hu => by
      have e0 : ∀ o, u.cell? ⟨w.heap.size, o, none⟩ = _ := fun o => cell_of_row _ _ _ _ _ _ ((hu.block _ (by omega)).trans S11.P)
      have e1 : ∀ o, u.cell? ⟨w4.heap.size, o, none⟩ = _ := fun o => cell_of_row _ _ _ _ _ _ ((hu.block _ (by omega)).trans X11)
      exact ⟨e0 0, e0 1, e1 0, e1 1⟩
    refine wp_region_held_drew (S := fun u => u.cell? ⟨w.heap.size, 0, none⟩ = some (.int .i64 now) ∧ u.cell? ⟨w.heap.size, 1, none⟩ = some (.slice a n cl) ∧ u.cell? ⟨w4.heap.size, 0, none⟩ = some (.int .i64 now) ∧ u.cell? ⟨w4.heap.size, 1, none⟩ = some (.slice (some ⟨gX, 0, none⟩) n n)) (by kernel_rfl) (SK.out _ ((Below.refl _ w11).drew)) (fun hH => ?_)
    refine take_held 0 (some 65) (.agg #[.int .i64 now, .slice (some ⟨gX, 0, none⟩) n n]) rfl rfl (by kernel_rfl) (by kernel_rfl) (by kernel_rfl) (fun _ _ _ h => h) (by rfl) (fun w hS => by obtain ⟨s0, s1, s2, s3⟩ := hS; go_simp) hH ?_
    simp only [Act.put, List.setIfInBounds_toArray, List.set_cons_zero, List.set_cons_succ]
    refine take_held 1 (some 66) (.agg #[.int .i64 now, .slice a n cl]) rfl rfl (by kernel_rfl) (by kernel_rfl) (by kernel_rfl) (fun _ _ _ h => h) (by rfl) (fun w hS => by obtain ⟨s0, s1, s2, s3⟩ := hS; go_simp) hH ?_
    simp only [Act.put, List.setIfInBounds_toArray, List.set_cons_zero, List.set_cons_succ]
    refine wpAnyH_ready (rs := [2]) (by kernel_rfl) (by simp) ?_
    refine AllReadyH.cons rfl (fun K hK => ?_) AllReadyH.nil
    go_simp
    refine (KT.out _ S11.B.drew hsum).mono ?_
    rintro e w12 ⟨gT, tT, rfl, ST, kT, b12'⟩
    have b12 : Below w11.heap.size w11 w12 := ((Below.refl _ w11).drew).trans b12'
    have s12 := b12.size
    have KE : Hid (Calls Tryz.prog 11 #[.agg #[.int .i64 now, .slice (some ⟨gX, 0, none⟩) n n], .agg #[.int .i64 now, .slice (some ⟨gT, 0, none⟩) n n]] w12 fun e w' => e = .returned (.bool true) ∧ Below w12.heap.size w12 w') := (show Calls _ _ _ _ _ by
      have h := eqFragBench_same now gX gT n n tX tT w12 (SX11.below b12).sl ST.sl (kT.trans HKX.out.symm) (by omega)
      rw [lX] at h
      exact h)
    go_simp
    refine hK.out _ _ (SK.out _ b12) (fun hH => ?_)
    clear hK K ST kT b12'
    (first | (simp only [Act.put, List.setIfInBounds_toArray, List.set_cons_zero, List.set_cons_succ]) | skip)
    refine wpAnyH_ready (rs := [3]) (by kernel_rfl) (by simp) ?_
    refine AllReadyH.cons rfl (fun K hK => ?_) AllReadyH.nil
    go_simp
    refine KE.out.mono ?_
    rintro e w13 ⟨rfl, b13'⟩
    have b13 : Below w11.heap.size w11 w13 := b12.trans (b13'.mono s12)
    have s13 := b13.size
    go_simp
    refine hK.out _ _ (SK.out _ b13) (fun hH => ?_)
    clear hK K b13' b12 KE
    (first | (simp only [Act.put, List.setIfInBounds_toArray, List.set_cons_zero, List.set_cons_succ]) | skip)
    refine take_held 4 (some 69) (.bool false) rfl rfl (by kernel_rfl) (by kernel_rfl) (by kernel_rfl) (fun _ _ _ h => h) (by rfl) (fun w hS => by obtain ⟨s0, s1, s2, s3⟩ := hS; go_simp) hH ?_
    simp only [Act.put, List.setIfInBounds_toArray, List.set_cons_zero, List.set_cons_succ]
    refine wpAnyH_done (by kernel_rfl) ?_ _
    have S13 := S11.below b13
    have X13 := (b13.block _ (by omega)).trans X11
    have Z13 := (b13.block _ (by omega)).trans Z11
    have SX13 := SX11.below b13
    have DX13 := DX11.below b13
    have G13 := G11.below b13
    clear hH SK S11 X11 Z11 SX11 DX11 G11 b13
    go_upto_region 16 with fail
    have SK : Hid (∀ u : World, Below w13.heap.size w13 u → (fun u => u.cell? ⟨w.heap.size + 1, 0, none⟩ = some (.int .i64 x.p.src) ∧ u.cell? ⟨w.heap.size + 1, 1, none⟩ = some (.int .i64 x.p.dst) ∧ u.cell? ⟨w.heap.size + 1, 2, none⟩ = some (.int .i64 x.p.kind) ∧ u.cell? ⟨w.heap.size + 1, 3, none⟩ = some (.int .i64 x.p.id) ∧ u.cell? ⟨w.heap.size + 1, 4, none⟩ = some (.int .i64 x.p.hops) ∧ u.cell? ⟨w.heap.size + 1, 5, none⟩ = some (.bool x.p.whole) ∧ u.cell? ⟨w.heap.size + 1, 6, none⟩ = some (.int .i64 x.p.off) ∧ u.cell? ⟨w.heap.size + 1, 7, none⟩ = some (.bool x.p.more) ∧ u.cell? ⟨w.heap.size + 1, 8, none⟩ = some (.slice x.a x.zs.length x.c) ∧ u.cell? ⟨w6.heap.size, 0, none⟩ = some (.int .i64 zX.p.src) ∧ u.cell? ⟨w6.heap.size, 1, none⟩ = some (.int .i64 zX.p.dst) ∧ u.cell? ⟨w6.heap.size, 2, none⟩ = some (.int .i64 zX.p.kind) ∧ u.cell? ⟨w6.heap.size, 3, none⟩ = some (.int .i64 zX.p.id) ∧ u.cell? ⟨w6.heap.size, 4, none⟩ = some (.int .i64 zX.p.hops) ∧ u.cell? ⟨w6.heap.size, 5, none⟩ = some (.bool zX.p.whole) ∧ u.cell? ⟨w6.heap.size, 6, none⟩ = some (.int .i64 zX.p.off) ∧ u.cell? ⟨w6.heap.size, 7, none⟩ = some (.bool zX.p.more) ∧ u.cell? ⟨w6.heap.size, 8, none⟩ = some (.slice zX.a zX.zs.length zX.c)) u) := fun u hu => by
      have e0 : ∀ o, u.cell? ⟨w.heap.size + 1, o, none⟩ = _ := fun o => cell_of_row _ _ _ _ _ _ ((hu.block _ (by omega)).trans S13.A)
      have e1 : ∀ o, u.cell? ⟨w6.heap.size, o, none⟩ = _ := fun o => cell_of_row _ _ _ _ _ _ ((hu.block _ (by omega)).trans Z13)
      exact ⟨e0 0, e0 1, e0 2, e0 3, e0 4, e0 5, e0 6, e0 7, e0 8, e1 0, e1 1, e1 2, e1 3, e1 4, e1 5, e1 6, e1 7, e1 8⟩
    refine wp_region_held_drew (S := fun u => u.cell? ⟨w.heap.size + 1, 0, none⟩ = some (.int .i64 x.p.src) ∧ u.cell? ⟨w.heap.size + 1, 1, none⟩ = some (.int .i64 x.p.dst) ∧ u.cell? ⟨w.heap.size + 1, 2, none⟩ = some (.int .i64 x.p.kind) ∧ u.cell? ⟨w.heap.size + 1, 3, none⟩ = some (.int .i64 x.p.id) ∧ u.cell? ⟨w.heap.size + 1, 4, none⟩ = some (.int .i64 x.p.hops) ∧ u.cell? ⟨w.heap.size + 1, 5, none⟩ = some (.bool x.p.whole) ∧ u.cell? ⟨w.heap.size + 1, 6, none⟩ = some (.int .i64 x.p.off) ∧ u.cell? ⟨w.heap.size + 1, 7, none⟩ = some (.bool x.p.more) ∧ u.cell? ⟨w.heap.size + 1, 8, none⟩ = some (.slice x.a x.zs.length x.c) ∧ u.cell? ⟨w6.heap.size, 0, none⟩ = some (.int .i64 zX.p.src) ∧ u.cell? ⟨w6.heap.size, 1, none⟩ = some (.int .i64 zX.p.dst) ∧ u.cell? ⟨w6.heap.size, 2, none⟩ = some (.int .i64 zX.p.kind) ∧ u.cell? ⟨w6.heap.size, 3, none⟩ = some (.int .i64 zX.p.id) ∧ u.cell? ⟨w6.heap.size, 4, none⟩ = some (.int .i64 zX.p.hops) ∧ u.cell? ⟨w6.heap.size, 5, none⟩ = some (.bool zX.p.whole) ∧ u.cell? ⟨w6.heap.size, 6, none⟩ = some (.int .i64 zX.p.off) ∧ u.cell? ⟨w6.heap.size, 7, none⟩ = some (.bool zX.p.more) ∧ u.cell? ⟨w6.heap.size, 8, none⟩ = some (.slice zX.a zX.zs.length zX.c)) (by kernel_rfl) (SK.out _ ((Below.refl _ w13).drew)) (fun hH => ?_)
    refine take_held 0 (some 70) (.agg #[.int .i64 zX.p.src, .int .i64 zX.p.dst, .int .i64 zX.p.kind, .int .i64 zX.p.id, .int .i64 zX.p.hops, .bool zX.p.whole, .int .i64 zX.p.off, .bool zX.p.more, .slice zX.a zX.zs.length zX.c]) rfl rfl (by kernel_rfl) (by kernel_rfl) (by kernel_rfl) (fun _ _ _ h => h) (by rfl) (fun w hS => by obtain ⟨s0, s1, s2, s3, s4, s5, s6, s7, s8, s9, s10, s11, s12, s13, s14, s15, s16, s17⟩ := hS; go_simp) hH ?_
    simp only [Act.put, List.setIfInBounds_toArray, List.set_cons_zero, List.set_cons_succ]
    refine take_held 1 (some 71) (.agg #[.int .i64 x.p.src, .int .i64 x.p.dst, .int .i64 x.p.kind, .int .i64 x.p.id, .int .i64 x.p.hops, .bool x.p.whole, .int .i64 x.p.off, .bool x.p.more, .slice x.a x.zs.length x.c]) rfl rfl (by kernel_rfl) (by kernel_rfl) (by kernel_rfl) (fun _ _ _ h => h) (by rfl) (fun w hS => by obtain ⟨s0, s1, s2, s3, s4, s5, s6, s7, s8, s9, s10, s11, s12, s13, s14, s15, s16, s17⟩ := hS; go_simp) hH ?_
    simp only [Act.put, List.setIfInBounds_toArray, List.set_cons_zero, List.set_cons_succ]
    refine wpAnyH_ready (rs := [2]) (by kernel_rfl) (by simp) ?_
    refine AllReadyH.cons rfl (fun K hK => ?_) AllReadyH.nil
    go_simp
    refine (KTP.out _ S13.B.drew hxl).mono ?_
    rintro e w14 ⟨zT, rfl, hzT, DT, b14'⟩
    have b14 : Below w13.heap.size w13 w14 := ((Below.refl _ w13).drew).trans b14'
    have s14 := b14.size
    have KE : Hid (Calls Tryz.prog 12 #[.agg #[.int .i64 zX.p.src, .int .i64 zX.p.dst, .int .i64 zX.p.kind, .int .i64 zX.p.id, .int .i64 zX.p.hops, .bool zX.p.whole, .int .i64 zX.p.off, .bool zX.p.more, .slice zX.a zX.zs.length zX.c], .agg #[.int .i64 zT.p.src, .int .i64 zT.p.dst, .int .i64 zT.p.kind, .int .i64 zT.p.id, .int .i64 zT.p.hops, .bool zT.p.whole, .int .i64 zT.p.off, .bool zT.p.more, .slice zT.a zT.zs.length zT.c]] w14 fun e w' => e = .returned (.bool true) ∧ Below w14.heap.size w14 w') := (show Calls _ _ _ _ _ by
      have h := eqPacket_rv zX zT w14 (DX13.below b14).rok DT.rok (HZX.out.trans hzT.symm)
      unfold RV.val0 Pk.val at h
      exact h)
    go_simp
    refine hK.out _ _ (SK.out _ b14) (fun hH => ?_)
    clear hK K DT hzT b14'
    (first | (simp only [Act.put, List.setIfInBounds_toArray, List.set_cons_zero, List.set_cons_succ]) | skip)
    refine wpAnyH_ready (rs := [3]) (by kernel_rfl) (by simp) ?_
    refine AllReadyH.cons rfl (fun K hK => ?_) AllReadyH.nil
    go_simp
    refine KE.out.mono ?_
    rintro e w15 ⟨rfl, b15'⟩
    have b15 : Below w13.heap.size w13 w15 := b14.trans (b15'.mono s14)
    have s15 := b15.size
    go_simp
    refine hK.out _ _ (SK.out _ b15) (fun hH => ?_)
    clear hK K b15' b14 KE
    (first | (simp only [Act.put, List.setIfInBounds_toArray, List.set_cons_zero, List.set_cons_succ]) | skip)
    refine take_held 4 (some 74) (.bool false) rfl rfl (by kernel_rfl) (by kernel_rfl) (by kernel_rfl) (fun _ _ _ h => h) (by rfl) (fun w hS => by go_simp) hH ?_
    simp only [Act.put, List.setIfInBounds_toArray, List.set_cons_zero, List.set_cons_succ]
    refine wpAnyH_done (by kernel_rfl) ?_ _
    have S15 := S13.below b15
    have X15 := (b15.block _ (by omega)).trans X13
    have Z15 := (b15.block _ (by omega)).trans Z13
    have SX15 := SX13.below b15
    have DX15 := DX13.below b15
    have G15 := G13.below b15
    clear hH SK S13 X13 Z13 SX13 DX13 G13 b15
    have KM : Hid (Calls Tryz.prog 13 #[.agg #[.int .i64 now, .slice (some ⟨gX, 0, none⟩) n n], .int .i64 1] w15 fun e w' => e = .returned (.int .i64 (1 + soff tX tX.length)) ∧ Mk (qblk (some ⟨gX, 0, none⟩) tX) w15 w' ∧ ((tX.flatMap SV.blks).Nodup → MkQ w' (some ⟨gX, 0, none⟩) tX)) := (show Calls _ _ _ _ _ by
      have h := markBench_q now (some ⟨gX, 0, none⟩) n tX w15 (Or.inr ⟨gX, rfl, SX15.sks lX⟩) (SX15.need (by omega))
      rw [lX] at h ⊢
      exact h)
    have x0 : w15.cell? ⟨w4.heap.size, 0, none⟩ = some (.int .i64 now) := cell_of_row _ _ _ _ _ _ X15
    have x1 : w15.cell? ⟨w4.heap.size, 1, none⟩ = some (.slice (some ⟨gX, 0, none⟩) n n) := cell_of_row _ _ _ _ _ _ X15
    go_wp2_with fail
    refine KM.out.mono ?_
    rintro e w16 ⟨rfl, m16, _⟩
    have s16 := m16.size
    have S16 := S15.mkd m16 (fun b hb => (RX b hb).1)
    have G16 := G15.mkd m16 (fun b hb => by have := RX b hb; omega)
    have Z16 := (m16.block _ (by omega) (fun h => by have := RX _ h; omega)).trans Z15
    have DX16 := DX15.mkd m16 (fun b hb h => by have := RX _ h; have := RY _ hb; omega)
    obtain ⟨km, hkm⟩ : ∃ km : Nat, soff tX tX.length = km := ⟨_, rfl⟩
    have hkb : (1 : Int) + (km : Int) ≤ 4611686018427387904 - 1048576 := by rw [← hkm]; exact SX15.need2 (by omega)
    rw [hkm]
    clear x0 x1 m16 KM S15 X15 Z15 SX15 DX15 G15 hkm
    have KMP : Hid (Calls Tryz.prog 14 #[.agg #[.int .i64 zX.p.src, .int .i64 zX.p.dst, .int .i64 zX.p.kind, .int .i64 zX.p.id, .int .i64 zX.p.hops, .bool zX.p.whole, .int .i64 zX.p.off, .bool zX.p.more, .slice zX.a zX.zs.length zX.c], .int .i64 (1 + km)] w16 fun e w' => e = .returned (.int .i64 (1 + km + zX.zs.length)) ∧ Mk (ablk zX.a) w16 w' ∧ MkP w' zX (1 + km)) := (show Calls _ _ _ _ _ by
      have hzl := DX16.len
      have h := markPacket_rv zX (1 + km) w16 DX16.sky (by omega) (by omega)
      unfold RV.val0 Pk.val at h
      exact h)
    have p0 : w16.cell? ⟨w6.heap.size, 0, none⟩ = some (.int .i64 zX.p.src) := cell_of_row _ _ _ _ _ _ Z16
    have p1 : w16.cell? ⟨w6.heap.size, 1, none⟩ = some (.int .i64 zX.p.dst) := cell_of_row _ _ _ _ _ _ Z16
    have p2 : w16.cell? ⟨w6.heap.size, 2, none⟩ = some (.int .i64 zX.p.kind) := cell_of_row _ _ _ _ _ _ Z16
    have p3 : w16.cell? ⟨w6.heap.size, 3, none⟩ = some (.int .i64 zX.p.id) := cell_of_row _ _ _ _ _ _ Z16
    have p4 : w16.cell? ⟨w6.heap.size, 4, none⟩ = some (.int .i64 zX.p.hops) := cell_of_row _ _ _ _ _ _ Z16
    have p5 : w16.cell? ⟨w6.heap.size, 5, none⟩ = some (.bool zX.p.whole) := cell_of_row _ _ _ _ _ _ Z16
    have p6 : w16.cell? ⟨w6.heap.size, 6, none⟩ = some (.int .i64 zX.p.off) := cell_of_row _ _ _ _ _ _ Z16
    have p7 : w16.cell? ⟨w6.heap.size, 7, none⟩ = some (.bool zX.p.more) := cell_of_row _ _ _ _ _ _ Z16
    have p8 : w16.cell? ⟨w6.heap.size, 8, none⟩ = some (.slice zX.a zX.zs.length zX.c) := cell_of_row _ _ _ _ _ _ Z16
    go_wp2_with fail
    refine KMP.out.mono ?_
    rintro e w17 ⟨rfl, m17, _⟩
    have s17 := m17.size
    have S17 := S16.mkd m17 (fun b hb => by have := RY b hb; omega)
    have G17 := G16.mkd m17 (fun b hb => by have := RY b hb; omega)
    have hk9 : ¬ ((1 : Int) + (km : Int) + (zX.zs.length : Int) < 0) := by omega
    clear p0 p1 p2 p3 p4 p5 p6 p7 p8 m17 KMP S16 Z16 DX16 G16
    have g0 : w17.cell? ⟨w8.heap.size, 0, none⟩ = some (.int .i64 nw) := cell_of_row _ _ _ _ _ _ G17.G
    have g1 : w17.cell? ⟨w8.heap.size, 1, none⟩ = some (.slice oG tsG.length cG) := cell_of_row _ _ _ _ _ _ G17.G
    have z0 : w17.cell? ⟨zA, 0, none⟩ = some (.int .i64 nw) := cell_of_row _ _ _ _ _ _ S17.Q
    have z1 : w17.cell? ⟨zA, 1, none⟩ = some (.slice oW tsW.length cW) := cell_of_row _ _ _ _ _ _ S17.Q
    go_wp2_with fail
    refine (eqBench_q nw oG oW cG cW tsG tsW _ G17.T.ans.slq S17.T.ans.slq KEY.out (by have := G17.T.len; omega)).mono ?_
    rintro e w18 ⟨rfl, b18⟩
    have s18 := b18.size
    have G18 := G17.below b18
    have S18 := S17.below b18
    clear g0 g1 z0 z1 S17 G17 b18 hk9
    have p0 : w18.cell? ⟨w8.heap.size + 1, 0, none⟩ = some (.int .i64 yG.p.src) := cell_of_row _ _ _ _ _ _ G18.Y
    have p1 : w18.cell? ⟨w8.heap.size + 1, 1, none⟩ = some (.int .i64 yG.p.dst) := cell_of_row _ _ _ _ _ _ G18.Y
    have p2 : w18.cell? ⟨w8.heap.size + 1, 2, none⟩ = some (.int .i64 yG.p.kind) := cell_of_row _ _ _ _ _ _ G18.Y
    have p3 : w18.cell? ⟨w8.heap.size + 1, 3, none⟩ = some (.int .i64 yG.p.id) := cell_of_row _ _ _ _ _ _ G18.Y
    have p4 : w18.cell? ⟨w8.heap.size + 1, 4, none⟩ = some (.int .i64 yG.p.hops) := cell_of_row _ _ _ _ _ _ G18.Y
    have p5 : w18.cell? ⟨w8.heap.size + 1, 5, none⟩ = some (.bool yG.p.whole) := cell_of_row _ _ _ _ _ _ G18.Y
    have p6 : w18.cell? ⟨w8.heap.size + 1, 6, none⟩ = some (.int .i64 yG.p.off) := cell_of_row _ _ _ _ _ _ G18.Y
    have p7 : w18.cell? ⟨w8.heap.size + 1, 7, none⟩ = some (.bool yG.p.more) := cell_of_row _ _ _ _ _ _ G18.Y
    have p8 : w18.cell? ⟨w8.heap.size + 1, 8, none⟩ = some (.slice yG.a yG.zs.length yG.c) := cell_of_row _ _ _ _ _ _ G18.Y
    have r0 : w18.cell? ⟨zB, 0, none⟩ = some (.int .i64 yW.p.src) := cell_of_row _ _ _ _ _ _ S18.Y
    have r1 : w18.cell? ⟨zB, 1, none⟩ = some (.int .i64 yW.p.dst) := cell_of_row _ _ _ _ _ _ S18.Y
    have r2 : w18.cell? ⟨zB, 2, none⟩ = some (.int .i64 yW.p.kind) := cell_of_row _ _ _ _ _ _ S18.Y
    have r3 : w18.cell? ⟨zB, 3, none⟩ = some (.int .i64 yW.p.id) := cell_of_row _ _ _ _ _ _ S18.Y
    have r4 : w18.cell? ⟨zB, 4, none⟩ = some (.int .i64 yW.p.hops) := cell_of_row _ _ _ _ _ _ S18.Y
    have r5 : w18.cell? ⟨zB, 5, none⟩ = some (.bool yW.p.whole) := cell_of_row _ _ _ _ _ _ S18.Y
    have r6 : w18.cell? ⟨zB, 6, none⟩ = some (.int .i64 yW.p.off) := cell_of_row _ _ _ _ _ _ S18.Y
    have r7 : w18.cell? ⟨zB, 7, none⟩ = some (.bool yW.p.more) := cell_of_row _ _ _ _ _ _ S18.Y
    have r8 : w18.cell? ⟨zB, 8, none⟩ = some (.slice yW.a yW.zs.length yW.c) := cell_of_row _ _ _ _ _ _ S18.Y
    go_wp2_with fail
    refine (KEP.out _ G18.T.data.rok S18.T.data.rok).mono ?_
    rintro e w19 ⟨rfl, b19⟩
    have s19 := b19.size
    have G19 := G18.below b19
    have S19 := S18.below b19
    clear p0 p1 p2 p3 p4 p5 p6 p7 p8 r0 r1 r2 r3 r4 r5 r6 r7 r8 S18 G18 b19
    have g0 : w19.cell? ⟨w8.heap.size, 0, none⟩ = some (.int .i64 nw) := cell_of_row _ _ _ _ _ _ G19.G
    have g1 : w19.cell? ⟨w8.heap.size, 1, none⟩ = some (.slice oG tsG.length cG) := cell_of_row _ _ _ _ _ _ G19.G
    go_wp2_with fail
    refine (markBench_q nw oG cG tsG w19 G19.T.ans.skq (G19.T.ans.need G19.T.len)).mono ?_
    rintro e w20 ⟨rfl, m20, u20⟩
    have s20 := m20.size
    have l1 := G19.hG
    have l2 := G19.hY
    have l3 := G19.hu
    have S20 := S19.mkd m20 (fun b hb => by have := G19.T.kinds.1 b hb; omega)
    have gG20 := (m20.block _ (by omega) (fun h => (G19.r1 _ h).2.1 rfl)).trans G19.G
    have gY20 := (m20.block _ (by omega) (fun h => (G19.r1 _ h).2.2 rfl)).trans G19.Y
    have D20 := G19.T.data.mkd m20 (fun b hb h => G19.ap b hb h)
    have sq20 := G19.T.ans.skq.mkd m20
    have mq20 := u20 G19.T.ans.nd
    have HN2 : Hid ((1 : Int) + (soff tsG tsG.length : Int) ≤ 4611686018427387904) := G19.T.ans.need G19.T.len
    have hkn2 := G19.T.ans.need2 G19.T.len
    obtain ⟨kn, hkn⟩ : ∃ kn : Nat, soff tsG tsG.length = kn := ⟨_, rfl⟩
    have HKN : Hid (soff tsG tsG.length = kn) := hkn
    rw [hkn] at hkn2 ⊢
    have hyl : yG.zs.length ≤ 1048576 := D20.len
    have KMP : Hid (Calls Tryz.prog 14 #[.agg #[.int .i64 yG.p.src, .int .i64 yG.p.dst, .int .i64 yG.p.kind, .int .i64 yG.p.id, .int .i64 yG.p.hops, .bool yG.p.whole, .int .i64 yG.p.off, .bool yG.p.more, .slice yG.a yG.zs.length yG.c], .int .i64 (1 + kn)] w20 fun e w' => e = .returned (.int .i64 (1 + kn + yG.zs.length)) ∧ Mk (ablk yG.a) w20 w' ∧ MkP w' yG (1 + kn)) := (show Calls _ _ _ _ _ by
      have h := markPacket_rv yG (1 + kn) w20 D20.sky (by omega) (by omega)
      unfold RV.val0 Pk.val at h
      exact h)
    clear g0 g1 S19 hkn u20
    have p0 : w20.cell? ⟨w8.heap.size + 1, 0, none⟩ = some (.int .i64 yG.p.src) := cell_of_row _ _ _ _ _ _ gY20
    have p1 : w20.cell? ⟨w8.heap.size + 1, 1, none⟩ = some (.int .i64 yG.p.dst) := cell_of_row _ _ _ _ _ _ gY20
    have p2 : w20.cell? ⟨w8.heap.size + 1, 2, none⟩ = some (.int .i64 yG.p.kind) := cell_of_row _ _ _ _ _ _ gY20
    have p3 : w20.cell? ⟨w8.heap.size + 1, 3, none⟩ = some (.int .i64 yG.p.id) := cell_of_row _ _ _ _ _ _ gY20
    have p4 : w20.cell? ⟨w8.heap.size + 1, 4, none⟩ = some (.int .i64 yG.p.hops) := cell_of_row _ _ _ _ _ _ gY20
    have p5 : w20.cell? ⟨w8.heap.size + 1, 5, none⟩ = some (.bool yG.p.whole) := cell_of_row _ _ _ _ _ _ gY20
    have p6 : w20.cell? ⟨w8.heap.size + 1, 6, none⟩ = some (.int .i64 yG.p.off) := cell_of_row _ _ _ _ _ _ gY20
    have p7 : w20.cell? ⟨w8.heap.size + 1, 7, none⟩ = some (.bool yG.p.more) := cell_of_row _ _ _ _ _ _ gY20
    have p8 : w20.cell? ⟨w8.heap.size + 1, 8, none⟩ = some (.slice yG.a yG.zs.length yG.c) := cell_of_row _ _ _ _ _ _ gY20
    go_wp2_with fail
    refine KMP.out.mono ?_
    rintro e w21 ⟨rfl, m21, my21⟩
    have s21 := m21.size
    have S21 := S20.mkd m21 (fun b hb => by have := G19.T.kinds.2 b hb; omega)
    have H21 : HeldS (.cells #[.int .i64 nw, .slice oG tsG.length cG] 32 (0, 0)) (.cells #[.int .i64 yG.p.src, .int .i64 yG.p.dst, .int .i64 yG.p.kind, .int .i64 yG.p.id, .int .i64 yG.p.hops, .bool yG.p.whole, .int .i64 yG.p.off, .bool yG.p.more, .slice yG.a yG.zs.length yG.c] 33 (0, 0)) w8.heap.size (w8.heap.size + 1) oG tsG yG (1 + kn) w21 := ⟨(m21.block _ (by omega) (fun h => (G19.r2 _ h).2.1 rfl)).trans gG20, (m21.block _ (by omega) (fun h => (G19.r2 _ h).2.2 rfl)).trans gY20, sq20.mkd m21, mq20.mkd m21 (fun b hb h => G19.ap b h hb) (fun b hb => by have := G19.r1 b hb; omega), D20.sky.mkd m21, my21⟩
    clear p0 p1 p2 p3 p4 p5 p6 p7 p8 KMP S20 m20 m21 gG20 gY20 D20 sq20 mq20 my21 G19
    have hv1 : ¬ ((1 : Int) + (kn : Int) < 0) := by omega
    have hv2 : ¬ ((1 : Int) + (kn : Int) + (yG.zs.length : Int) < 0) := by omega
    have KHP : Hid (∀ U : World, HeldS (.cells #[.int .i64 nw, .slice oG tsG.length cG] 32 (0, 0)) (.cells #[.int .i64 yG.p.src, .int .i64 yG.p.dst, .int .i64 yG.p.kind, .int .i64 yG.p.id, .int .i64 yG.p.hops, .bool yG.p.whole, .int .i64 yG.p.off, .bool yG.p.more, .slice yG.a yG.zs.length yG.c] 33 (0, 0)) w8.heap.size (w8.heap.size + 1) oG tsG yG (1 + kn) U → Calls Tryz.prog 16 #[.agg #[.int .i64 yG.p.src, .int .i64 yG.p.dst, .int .i64 yG.p.kind, .int .i64 yG.p.id, .int .i64 yG.p.hops, .bool yG.p.whole, .int .i64 yG.p.off, .bool yG.p.more, .slice yG.a yG.zs.length yG.c], .int .i64 (1 + kn)] U fun e w' => e = .returned (.int .i64 (1 + kn + yG.zs.length)) ∧ Below U.heap.size U w') := fun U h => by
      have h := heldPacket_rv yG (1 + kn) U h.sy h.my (by omega) (by omega)
      unfold RV.val0 Pk.val at h
      exact h
    have KHB : Hid (∀ U : World, HeldS (.cells #[.int .i64 nw, .slice oG tsG.length cG] 32 (0, 0)) (.cells #[.int .i64 yG.p.src, .int .i64 yG.p.dst, .int .i64 yG.p.kind, .int .i64 yG.p.id, .int .i64 yG.p.hops, .bool yG.p.whole, .int .i64 yG.p.off, .bool yG.p.more, .slice yG.a yG.zs.length yG.c] 33 (0, 0)) w8.heap.size (w8.heap.size + 1) oG tsG yG (1 + kn) U → Calls Tryz.prog 15 #[.agg #[.int .i64 nw, .slice oG tsG.length cG], .int .i64 1] U fun e w' => e = .returned (.int .i64 (1 + kn)) ∧ Below U.heap.size U w') := fun U h => by
      have h := heldBench_q nw oG cG tsG U h.sq h.mq HN2.out
      rw [HKN.out] at h
      exact h
    have g0 : w21.cell? ⟨w8.heap.size, 0, none⟩ = some (.int .i64 nw) := cell_of_row _ _ _ _ _ _ H21.G
    have g1 : w21.cell? ⟨w8.heap.size, 1, none⟩ = some (.slice oG tsG.length cG) := cell_of_row _ _ _ _ _ _ H21.G
    go_wp2_with fail
    refine (KHB.out _ H21).mono ?_
    rintro e w22 ⟨rfl, b22⟩
    have s22 := b22.size
    have H22 := H21.below b22
    have S22 := S21.below b22
    clear g0 g1 H21 S21 b22
    have p0 : w22.cell? ⟨w8.heap.size + 1, 0, none⟩ = some (.int .i64 yG.p.src) := cell_of_row _ _ _ _ _ _ H22.Y
    have p1 : w22.cell? ⟨w8.heap.size + 1, 1, none⟩ = some (.int .i64 yG.p.dst) := cell_of_row _ _ _ _ _ _ H22.Y
    have p2 : w22.cell? ⟨w8.heap.size + 1, 2, none⟩ = some (.int .i64 yG.p.kind) := cell_of_row _ _ _ _ _ _ H22.Y
    have p3 : w22.cell? ⟨w8.heap.size + 1, 3, none⟩ = some (.int .i64 yG.p.id) := cell_of_row _ _ _ _ _ _ H22.Y
    have p4 : w22.cell? ⟨w8.heap.size + 1, 4, none⟩ = some (.int .i64 yG.p.hops) := cell_of_row _ _ _ _ _ _ H22.Y
    have p5 : w22.cell? ⟨w8.heap.size + 1, 5, none⟩ = some (.bool yG.p.whole) := cell_of_row _ _ _ _ _ _ H22.Y
    have p6 : w22.cell? ⟨w8.heap.size + 1, 6, none⟩ = some (.int .i64 yG.p.off) := cell_of_row _ _ _ _ _ _ H22.Y
    have p7 : w22.cell? ⟨w8.heap.size + 1, 7, none⟩ = some (.bool yG.p.more) := cell_of_row _ _ _ _ _ _ H22.Y
    have p8 : w22.cell? ⟨w8.heap.size + 1, 8, none⟩ = some (.slice yG.a yG.zs.length yG.c) := cell_of_row _ _ _ _ _ _ H22.Y
    go_wp2_with fail
    refine (KHP.out _ H22).mono ?_
    rintro e w23 ⟨rfl, b23⟩
    have s23 := b23.size
    have H23 := H22.below b23
    have S23 := S22.below b23
    clear p0 p1 p2 p3 p4 p5 p6 p7 p8 H22 S22 b23
    go_upto_region 35 with fail
    have Hb : Hid (Below w.heap.size w w23) := S23.B
    have HPb : Hid (w23.heap[w.heap.size]? = some (.cells #[.int .i64 now, .slice a n cl] 24 (0, 0))) := S23.P
    have HAb : Hid (w23.heap[w.heap.size + 1]? = some (.cells #[.int .i64 x.p.src, .int .i64 x.p.dst, .int .i64 x.p.kind, .int .i64 x.p.id, .int .i64 x.p.hops, .bool x.p.whole, .int .i64 x.p.off, .bool x.p.more, .slice x.a x.zs.length x.c] 27 (0, 0))) := S23.A
    have KWb : Hid (∀ u : World, Below w23.heap.size w23 u → u.cell? ⟨w.heap.size, 0, none⟩ = some (.int .i64 now) ∧ u.cell? ⟨w.heap.size, 1, none⟩ = some (.slice a n cl) ∧ u.cell? ⟨w.heap.size + 1, 0, none⟩ = some (.int .i64 x.p.src) ∧ u.cell? ⟨w.heap.size + 1, 1, none⟩ = some (.int .i64 x.p.dst) ∧ u.cell? ⟨w.heap.size + 1, 2, none⟩ = some (.int .i64 x.p.kind) ∧ u.cell? ⟨w.heap.size + 1, 3, none⟩ = some (.int .i64 x.p.id) ∧ u.cell? ⟨w.heap.size + 1, 4, none⟩ = some (.int .i64 x.p.hops) ∧ u.cell? ⟨w.heap.size + 1, 5, none⟩ = some (.bool x.p.whole) ∧ u.cell? ⟨w.heap.size + 1, 6, none⟩ = some (.int .i64 x.p.off) ∧ u.cell? ⟨w.heap.size + 1, 7, none⟩ = some (.bool x.p.more) ∧ u.cell? ⟨w.heap.size + 1, 8, none⟩ = some (.slice x.a x.zs.length x.c)) := fun u hu => by
      have e0 : ∀ o, u.cell? ⟨w.heap.size, o, none⟩ = _ := fun o => cell_of_row _ _ _ _ _ _ ((hu.block _ (lt_of_block HPb.out)).trans HPb.out)
      have e1 : ∀ o, u.cell? ⟨w.heap.size + 1, o, none⟩ = _ := fun o => cell_of_row _ _ _ _ _ _ ((hu.block _ (lt_of_block HAb.out)).trans HAb.out)
      exact ⟨e0 0, e0 1, e1 0, e1 1, e1 2, e1 3, e1 4, e1 5, e1 6, e1 7, e1 8⟩
    refine wp_region_held_drew (S := fun u => Below w23.heap.size w23 u) (by kernel_rfl) ((Below.refl _ w23).drew) (fun hH => ?_)
    refine take_held 0 (some 120) (.agg #[.int .i64 now, .slice a n cl]) rfl rfl (by kernel_rfl) (by kernel_rfl) (by kernel_rfl) (fun _ _ _ h => h) (by rfl) (fun w hS => by have hS' := KWb.out w hS; obtain ⟨s0, s1, s2, s3, s4, s5, s6, s7, s8, s9, s10⟩ := hS'; go_simp) hH ?_
    simp only [Act.put, List.setIfInBounds_toArray, List.set_cons_zero, List.set_cons_succ]
    refine take_held 2 (some 122) (.agg #[.int .i64 x.p.src, .int .i64 x.p.dst, .int .i64 x.p.kind, .int .i64 x.p.id, .int .i64 x.p.hops, .bool x.p.whole, .int .i64 x.p.off, .bool x.p.more, .slice x.a x.zs.length x.c]) rfl rfl (by kernel_rfl) (by kernel_rfl) (by kernel_rfl) (fun _ _ _ h => h) (by rfl) (fun w hS => by have hS' := KWb.out w hS; obtain ⟨s0, s1, s2, s3, s4, s5, s6, s7, s8, s9, s10⟩ := hS'; go_simp) hH ?_
    simp only [Act.put, List.setIfInBounds_toArray, List.set_cons_zero, List.set_cons_succ]
    refine call3_region (W := w23) (P1 := BenchV now xs n) (P3 := PackV x.key) (POST := GotV now xs x.key) (cA := #[.int .i64 0, .slice none 0 0]) (cB := #[.int .i64 0, .int .i64 0, .int .i64 0, .int .i64 0, .int .i64 0, .bool false, .int .i64 0, .bool false, .slice none 0 0]) (tA := 32) (tB := 33) _ 1 3 4 9 10 121 123 124 17 18 120 122 (fun b1 b3 b4 bA bB => #[true, b1, true, b3, b4, false, false, false, false, bA, bB, false, false, false]) 7 8 9 10 (.agg #[.int .i64 now, .slice a n cl]) (.agg #[.int .i64 x.p.src, .int .i64 x.p.dst, .int .i64 x.p.kind, .int .i64 x.p.id, .int .i64 x.p.hops, .bool x.p.whole, .int .i64 x.p.off, .bool x.p.more, .slice x.a x.zs.length x.c]) (fun _ h => h) ?g1 ?g2 (by decide) ?g3 rfl rfl ?h1 ?h3 ?h4 ?hA ?hB ?m1 ?m3 ?c1 ?c3 ?c4 ?X _ hH _ (by kernel_rfl) _ (by kernel_rfl)
    case g1 =>
      intro b1 b3 bA bB
      exact ⟨by kernel_rfl, by kernel_rfl, by kernel_rfl, by kernel_rfl, by kernel_rfl⟩
    case g2 =>
      intro b1 b3 bA bB
      cases b1 <;> cases b3 <;> cases bA <;> cases bB <;> kernel_rfl
    case g3 => intro d hd; simp at hd; rcases hd with rfl | rfl <;> (simp; done)
    case h1 =>
      intro a0 w0 K hv h
      simp only [Act.eval, Array.getD_eq_getD_getElem?] at hv
      exact wpOp_call rfl rfl 121 rfl 8 _ (by go_simp) h
    case h3 =>
      intro a0 w0 K hv h
      simp only [Act.eval, Array.getD_eq_getD_getElem?] at hv
      exact wpOp_call rfl rfl 123 rfl 9 _ (by go_simp) h
    case h4 =>
      intro a0 w0 K u v hu hv h
      simp only [Act.eval, Array.getD_eq_getD_getElem?] at hu hv
      exact wpOp_call rfl rfl 124 rfl 10 #[u, v] (by go_simp) h
    case hA => intro a0 w0 K h; exact wpOp_made rfl rfl 17 rfl (by go_simp) h
    case hB => intro a0 w0 K h; exact wpOp_made rfl rfl 18 rfl (by go_simp) h
    case m1 =>
      rintro u u' v hb ⟨g, ts, h1, h2, h3⟩
      exact ⟨g, ts, h1, h2.below hb, h3⟩
    case m3 =>
      rintro u u' v hb ⟨z, h1, h2, h3⟩
      exact ⟨z, h1, h2, h3.below hb⟩
    case c1 =>
      intro u hu
      refine (KT.out u (Hb.out.trans (hu.mono Hb.out.size)) hsum).mono ?_
      rintro e w' ⟨gS, ts, rfl, h1, h2, h3⟩
      exact ⟨_, rfl, ⟨gS, ts, rfl, h1.sl, h2⟩, h3⟩
    case c3 =>
      intro u hu
      refine (KTP.out u (Hb.out.trans (hu.mono Hb.out.size)) hxl).mono ?_
      rintro e w' ⟨z, rfl, h1, h2, h3⟩
      exact ⟨_, rfl, ⟨z, rfl, h1, h2.rok⟩, h3⟩
    case c4 => exact fun u v1 v3 hu h1 h3 => KI.out u v1 v3 hnl (Hb.out.trans (hu.mono Hb.out.size)) h1 h3
    case X =>
      intro bA bB v1 v3 nA nB u r' w' hu hb hp hA hB hne'
      obtain ⟨tt, nn, kk, oo, co, us, yy, c, ht1, rfl, hTP, hTA⟩ := hp
      have hw' : Below w23.heap.size w23 w' := hu.trans (hb.mono hu.size)
      have hTW : TAns w' w23.heap.size nn kk oo co us yy := hTA.le hu.size
      obtain ⟨kA, kB⟩ := hTA.kinds
      have hsz := hu.size
      have hsb := hb.size
      have KAB : Hid ((∀ b ∈ qblk oo us, u.heap.size ≤ b ∧ b < w'.heap.size) ∧ (∀ b ∈ yy.blk, u.heap.size ≤ b ∧ b < w'.heap.size)) := ⟨kA, kB⟩
      clear hb hu kA kB hTA
      cases bA with
      | false =>
        cases bB with
        | false =>
          show wpAnyH _ _ _ _ _ 9 _ _ _
          have hH := hw'
          simp only [c3Act, pf, cond_true, cond_false, Act.put, List.setIfInBounds_toArray, List.set_cons_zero, List.set_cons_succ]
          refine take_held 5 (some 119) (.tuple #[.agg #[.int .i64 nn, .slice oo us.length co], .agg #[.int .i64 yy.p.src, .int .i64 yy.p.dst, .int .i64 yy.p.kind, .int .i64 yy.p.id, .int .i64 yy.p.hops, .bool yy.p.whole, .int .i64 yy.p.off, .bool yy.p.more, .slice yy.a yy.zs.length yy.c], .int .i64 c]) rfl rfl (by kernel_rfl) (by kernel_rfl) (by kernel_rfl) (fun _ _ _ h => h) (by rfl) (fun w hS => by go_simp) hH ?_
          simp only [Act.put, List.setIfInBounds_toArray, List.set_cons_zero, List.set_cons_succ]
          refine take_held 6 (some 125) (.agg #[.int .i64 nn, .slice oo us.length co]) rfl rfl (by kernel_rfl) (by kernel_rfl) (by kernel_rfl) (fun _ _ _ h => h) (by rfl) (fun w hS => by go_simp) hH ?_
          simp only [Act.put, List.setIfInBounds_toArray, List.set_cons_zero, List.set_cons_succ]
          refine take_held 7 (some 126) (.agg #[.int .i64 yy.p.src, .int .i64 yy.p.dst, .int .i64 yy.p.kind, .int .i64 yy.p.id, .int .i64 yy.p.hops, .bool yy.p.whole, .int .i64 yy.p.off, .bool yy.p.more, .slice yy.a yy.zs.length yy.c]) rfl rfl (by kernel_rfl) (by kernel_rfl) (by kernel_rfl) (fun _ _ _ h => h) (by rfl) (fun w hS => by go_simp) hH ?_
          simp only [Act.put, List.setIfInBounds_toArray, List.set_cons_zero, List.set_cons_succ]
          refine take_held 8 (some 127) (.int .i64 c) rfl rfl (by kernel_rfl) (by kernel_rfl) (by kernel_rfl) (fun _ _ _ h => h) (by rfl) (fun w hS => by go_simp) hH ?_
          simp only [Act.put, List.setIfInBounds_toArray, List.set_cons_zero, List.set_cons_succ]
          refine wpAnyH_ready (rs := [9, 10]) (by kernel_rfl) (by simp) ?_
          refine AllReadyH.cons rfl (fun K hK => ?_) (AllReadyH.cons rfl (fun K hK => ?_) AllReadyH.nil)
          ·
            go_simp
            obtain ⟨v8, hz1⟩ : ∃ v, w'.alloc (.cells #[.int .i64 0, .slice none 0 0] 32) = v := ⟨_, rfl⟩
            have bzv8 : Below w'.heap.size w' v8 := by rw [← hz1]; exact Joins.below_alloc1 _ _
            have szv8 : v8.heap.size = w'.heap.size + 1 := by rw [← hz1]; simp
            have nzv8 : v8.heap[w'.heap.size]? = some (.cells #[.int .i64 0, .slice none 0 0] 32 (0, 0)) := by rw [← hz1]; exact heap_new _ _ _ rfl
            (first | rw [hz1] | skip)
            have hwv8 : Below w23.heap.size w23 v8 := hw'.trans (bzv8.mono (by omega))
            refine hK.out _ _ hwv8 (fun hH => ?_)
            clear hK K hz1
            (first | (simp only [List.setIfInBounds_toArray, List.set_cons_zero, List.set_cons_succ]) | skip)
            refine wpAnyH_ready (rs := [10]) (by kernel_rfl) (by simp) ?_
            refine AllReadyH.cons rfl (fun K hK => ?_) AllReadyH.nil
            go_simp
            obtain ⟨v9, hz1⟩ : ∃ v, v8.alloc (.cells #[.int .i64 0, .int .i64 0, .int .i64 0, .int .i64 0, .int .i64 0, .bool false, .int .i64 0, .bool false, .slice none 0 0] 33) = v := ⟨_, rfl⟩
            have bzv9 : Below v8.heap.size v8 v9 := by rw [← hz1]; exact Joins.below_alloc1 _ _
            have szv9 : v9.heap.size = v8.heap.size + 1 := by rw [← hz1]; simp
            have nzv9 : v9.heap[v8.heap.size]? = some (.cells #[.int .i64 0, .int .i64 0, .int .i64 0, .int .i64 0, .int .i64 0, .bool false, .int .i64 0, .bool false, .slice none 0 0] 33 (0, 0)) := by rw [← hz1]; exact heap_new _ _ _ rfl
            (first | rw [hz1] | skip)
            have hwv9 : Below w23.heap.size w23 v9 := hwv8.trans (bzv9.mono (by omega))
            refine hK.out _ _ hwv9 (fun hH => ?_)
            clear hK K hz1
            (first | (simp only [List.setIfInBounds_toArray, List.set_cons_zero, List.set_cons_succ]) | skip)
            have fA : v9.heap[w'.heap.size]? = some (.cells #[.int .i64 0, .slice none 0 0] 32 (0, 0)) := (bzv9.block _ (by omega)).trans nzv8
            have fB : v9.heap[(w'.heap.size + 1)]? = some (.cells #[.int .i64 0, .int .i64 0, .int .i64 0, .int .i64 0, .int .i64 0, .bool false, .int .i64 0, .bool false, .slice none 0 0] 33 (0, 0)) := szv8 ▸ nzv9
            have nAB : w'.heap.size ≠ (w'.heap.size + 1) := by omega
            have lA : w23.heap.size ≤ w'.heap.size := by omega
            have lB : w23.heap.size ≤ (w'.heap.size + 1) := by omega
            have a0 : v9.cell? ⟨w'.heap.size, 0, none⟩ = some (.int .i64 0) := cell_of_row _ _ _ _ _ _ fA
            have a1 : v9.cell? ⟨w'.heap.size, 1, none⟩ = some (.slice none 0 0) := cell_of_row _ _ _ _ _ _ fA
            have az : ∀ o, v9.frozen? ⟨w'.heap.size, o, none⟩ = false := fun o => Joins.unfrozen_of_block fA o
            have tw : TAns v9 w23.heap.size nn kk oo co us yy := (hTW.below bzv8).below bzv9
            refine wpAnyH_ready (rs := [11]) (by kernel_rfl) (by simp) ?_
            refine AllReadyH.cons rfl (fun K hK => ?_) AllReadyH.nil
            go_simp
            obtain ⟨v10, hz1⟩ : ∃ v, (v9.setCell ⟨w'.heap.size, 0, none⟩ (.int .i64 nn)).setCell ⟨w'.heap.size, 1, none⟩ (.slice oo us.length co) = v := ⟨_, rfl⟩
            have f10 : ∀ b, b ≠ w'.heap.size → v10.heap[b]? = v9.heap[b]? := fun b hb => by rw [← hz1]; exact (Below.heap_setCell _ _ _ _ hb).trans (Below.heap_setCell _ _ _ _ hb)
            have c10 : v10.heap[w'.heap.size]? = some (.cells #[.int .i64 nn, .slice oo us.length co] 32 (0, 0)) := by rw [← hz1]; exact set_at (o := 1) (set_at (o := 0) fA)
            have e10 : v10.os = v9.os ∧ v10.tape = v9.tape ∧ v10.output = v9.output ∧ v10.heap.size = v9.heap.size := by rw [← hz1]; exact ⟨by simp [World.setCell], by simp [World.setCell], by simp [World.setCell], by simp [World.setCell]⟩
            (first | rw [hz1] | skip)
            have hv10 : Below w23.heap.size w23 v10 := ⟨e10.1.trans hwv9.os, e10.2.1.trans hwv9.tape, e10.2.2.1.trans hwv9.output, by rw [e10.2.2.2]; exact hwv9.size, fun b hb => (f10 b (by omega)).trans (hwv9.block b hb)⟩
            refine hK.out _ _ hv10 (fun hH => ?_)
            clear hK K hz1 a0 a1 az
            (first | (simp only [List.setIfInBounds_toArray, List.set_cons_zero, List.set_cons_succ]) | skip)
            have d3 := (f10 ((w'.heap.size + 1)) (by omega)).trans fB
            have bz : ∀ o, v10.frozen? ⟨(w'.heap.size + 1), o, none⟩ = false := fun o => Joins.unfrozen_of_block d3 o
            have p0 : v10.cell? ⟨(w'.heap.size + 1), 0, none⟩ = some (.int .i64 0) := cell_of_row _ _ _ _ _ _ d3
            have p1 : v10.cell? ⟨(w'.heap.size + 1), 1, none⟩ = some (.int .i64 0) := cell_of_row _ _ _ _ _ _ d3
            have p2 : v10.cell? ⟨(w'.heap.size + 1), 2, none⟩ = some (.int .i64 0) := cell_of_row _ _ _ _ _ _ d3
            have p3 : v10.cell? ⟨(w'.heap.size + 1), 3, none⟩ = some (.int .i64 0) := cell_of_row _ _ _ _ _ _ d3
            have p4 : v10.cell? ⟨(w'.heap.size + 1), 4, none⟩ = some (.int .i64 0) := cell_of_row _ _ _ _ _ _ d3
            have p5 : v10.cell? ⟨(w'.heap.size + 1), 5, none⟩ = some (.bool false) := cell_of_row _ _ _ _ _ _ d3
            have p6 : v10.cell? ⟨(w'.heap.size + 1), 6, none⟩ = some (.int .i64 0) := cell_of_row _ _ _ _ _ _ d3
            have p7 : v10.cell? ⟨(w'.heap.size + 1), 7, none⟩ = some (.bool false) := cell_of_row _ _ _ _ _ _ d3
            have p8 : v10.cell? ⟨(w'.heap.size + 1), 8, none⟩ = some (.slice none 0 0) := cell_of_row _ _ _ _ _ _ d3
            refine wpAnyH_ready (rs := [12]) (by kernel_rfl) (by simp) ?_
            refine AllReadyH.cons rfl (fun K hK => ?_) AllReadyH.nil
            go_simp
            obtain ⟨v11, hz1⟩ : ∃ v, (((((((((v10.setCell ⟨(w'.heap.size + 1), 0, none⟩ (.int .i64 yy.p.src)).setCell ⟨(w'.heap.size + 1), 1, none⟩ (.int .i64 yy.p.dst)).setCell ⟨(w'.heap.size + 1), 2, none⟩ (.int .i64 yy.p.kind)).setCell ⟨(w'.heap.size + 1), 3, none⟩ (.int .i64 yy.p.id)).setCell ⟨(w'.heap.size + 1), 4, none⟩ (.int .i64 yy.p.hops)).setCell ⟨(w'.heap.size + 1), 5, none⟩ (.bool yy.p.whole)).setCell ⟨(w'.heap.size + 1), 6, none⟩ (.int .i64 yy.p.off)).setCell ⟨(w'.heap.size + 1), 7, none⟩ (.bool yy.p.more)).setCell ⟨(w'.heap.size + 1), 8, none⟩ (.slice yy.a yy.zs.length yy.c)) = v := ⟨_, rfl⟩
            have f11 : ∀ b, b ≠ (w'.heap.size + 1) → v11.heap[b]? = v10.heap[b]? := fun b hb => by rw [← hz1]; exact box_far9 v10 _ b hb _ _ _ _ _ _ _ _ _
            have c11 : v11.heap[(w'.heap.size + 1)]? = some (.cells #[.int .i64 yy.p.src, .int .i64 yy.p.dst, .int .i64 yy.p.kind, .int .i64 yy.p.id, .int .i64 yy.p.hops, .bool yy.p.whole, .int .i64 yy.p.off, .bool yy.p.more, .slice yy.a yy.zs.length yy.c] 33 (0, 0)) := by rw [← hz1]; exact box_put9 _ _ _ _ _ _ _ _ _ d3
            have e11 : v11.os = v10.os ∧ v11.tape = v10.tape ∧ v11.output = v10.output ∧ v11.heap.size = v10.heap.size := by rw [← hz1]; exact ⟨by simp [World.setCell], by simp [World.setCell], by simp [World.setCell], box_size9 v10 _ _ _ _ _ _ _ _ _ _⟩
            (first | rw [hz1] | skip)
            have hv11 : Below w23.heap.size w23 v11 := ⟨e11.1.trans hv10.os, e11.2.1.trans hv10.tape, e11.2.2.1.trans hv10.output, by rw [e11.2.2.2]; exact hv10.size, fun b hb => (f11 b (by omega)).trans (hv10.block b hb)⟩
            refine hK.out _ _ hv11 (fun hH => ?_)
            clear hK K hz1 p0 p1 p2 p3 p4 p5 p6 p7 p8 bz
            (first | (simp only [List.setIfInBounds_toArray, List.set_cons_zero, List.set_cons_succ]) | skip)
            refine take_held 13 (some 19) (.int .i64 c) rfl rfl (by kernel_rfl) (by kernel_rfl) (by kernel_rfl) (fun _ _ _ h => h) (by rfl) (fun w hS => by go_simp) hH ?_
            simp only [Act.put, List.setIfInBounds_toArray, List.set_cons_zero, List.set_cons_succ]
            refine wpAnyH_done (by kernel_rfl) ?_ _
            have G : Got w23 v11 (w'.heap.size) ((w'.heap.size + 1)) nn oo co us yy kk := ⟨hv11, (f11 _ nAB).trans c10, c11, lA, lB, tw.kept (fun b hb => (f11 b (by have := KAB.out.1 b hb; omega)).trans (f10 b (by have := KAB.out.1 b hb; omega))) (fun b hb => (f11 b (by have := KAB.out.2 b hb; omega)).trans (f10 b (by have := KAB.out.2 b hb; omega)))⟩
            clear hH f10 f11 c10 c11 e10 e11 hv11 hv10 tw d3 fA fB
            obtain ⟨w24, hw24⟩ : ∃ v, v11 = v := ⟨_, rfl⟩
            rw [hw24] at G ⊢
            clear hw24
            obtain ⟨rfl, rfl, hyk2, rfl⟩ := HTW.out.same hTP (ht1.trans HK1.out.symm) rfl
            have S24 := S23.below G.below
            have H24 := H23.below G.below
            have s24 := G.below.size
            have lC := lt_of_block G.boxA
            have lD := lt_of_block G.boxB
            have K25 : Hid (tsW.map SV.key = us.map SV.key) := S24.T.keys.trans G.ans.keys.symm
            have KEH : Hid (∀ U : World, ROk U yy → ROk U yW → Calls Tryz.prog 12 #[.agg #[.int .i64 yy.p.src, .int .i64 yy.p.dst, .int .i64 yy.p.kind, .int .i64 yy.p.id, .int .i64 yy.p.hops, .bool yy.p.whole, .int .i64 yy.p.off, .bool yy.p.more, .slice yy.a yy.zs.length yy.c], .agg #[.int .i64 yW.p.src, .int .i64 yW.p.dst, .int .i64 yW.p.kind, .int .i64 yW.p.id, .int .i64 yW.p.hops, .bool yW.p.whole, .int .i64 yW.p.off, .bool yW.p.more, .slice yW.a yW.zs.length yW.c]] U fun e w' => e = .returned (.bool true) ∧ Below U.heap.size U w') := fun U h1 h2 => by
              have h := eqPacket_rv yy yW U h1 h2 hyk2.symm
              unfold RV.val0 Pk.val at h
              exact h
            clear hTP ht1 KWb HPb HAb Hb S23 H23 hyk2 KAB
            have g0 : w24.cell? ⟨w'.heap.size, 0, none⟩ = some (.int .i64 nw) := cell_of_row _ _ _ _ _ _ G.boxA
            have g1 : w24.cell? ⟨w'.heap.size, 1, none⟩ = some (.slice oo us.length co) := cell_of_row _ _ _ _ _ _ G.boxA
            have z0 : w24.cell? ⟨zA, 0, none⟩ = some (.int .i64 nw) := cell_of_row _ _ _ _ _ _ S24.Q
            have z1 : w24.cell? ⟨zA, 1, none⟩ = some (.slice oW tsW.length cW) := cell_of_row _ _ _ _ _ _ S24.Q
            go_wp2_with fail
            refine (eqBench_q nw oo oW co cW us tsW _ G.ans.ans.slq S24.T.ans.slq K25.out (by have := G.ans.len; omega)).mono ?_
            rintro e w25 ⟨rfl, b25⟩
            have s25 := b25.size
            have S25 := S24.below b25
            have H25 := H24.below b25
            have hD25 := (b25.block _ lD).trans G.boxB
            have rH25 := (G.ans.data.below b25).rok
            clear g0 g1 z0 z1 S24 H24 G b25
            have p0 : w25.cell? ⟨(w'.heap.size + 1), 0, none⟩ = some (.int .i64 yy.p.src) := cell_of_row _ _ _ _ _ _ hD25
            have p1 : w25.cell? ⟨(w'.heap.size + 1), 1, none⟩ = some (.int .i64 yy.p.dst) := cell_of_row _ _ _ _ _ _ hD25
            have p2 : w25.cell? ⟨(w'.heap.size + 1), 2, none⟩ = some (.int .i64 yy.p.kind) := cell_of_row _ _ _ _ _ _ hD25
            have p3 : w25.cell? ⟨(w'.heap.size + 1), 3, none⟩ = some (.int .i64 yy.p.id) := cell_of_row _ _ _ _ _ _ hD25
            have p4 : w25.cell? ⟨(w'.heap.size + 1), 4, none⟩ = some (.int .i64 yy.p.hops) := cell_of_row _ _ _ _ _ _ hD25
            have p5 : w25.cell? ⟨(w'.heap.size + 1), 5, none⟩ = some (.bool yy.p.whole) := cell_of_row _ _ _ _ _ _ hD25
            have p6 : w25.cell? ⟨(w'.heap.size + 1), 6, none⟩ = some (.int .i64 yy.p.off) := cell_of_row _ _ _ _ _ _ hD25
            have p7 : w25.cell? ⟨(w'.heap.size + 1), 7, none⟩ = some (.bool yy.p.more) := cell_of_row _ _ _ _ _ _ hD25
            have p8 : w25.cell? ⟨(w'.heap.size + 1), 8, none⟩ = some (.slice yy.a yy.zs.length yy.c) := cell_of_row _ _ _ _ _ _ hD25
            have r0 : w25.cell? ⟨zB, 0, none⟩ = some (.int .i64 yW.p.src) := cell_of_row _ _ _ _ _ _ S25.Y
            have r1 : w25.cell? ⟨zB, 1, none⟩ = some (.int .i64 yW.p.dst) := cell_of_row _ _ _ _ _ _ S25.Y
            have r2 : w25.cell? ⟨zB, 2, none⟩ = some (.int .i64 yW.p.kind) := cell_of_row _ _ _ _ _ _ S25.Y
            have r3 : w25.cell? ⟨zB, 3, none⟩ = some (.int .i64 yW.p.id) := cell_of_row _ _ _ _ _ _ S25.Y
            have r4 : w25.cell? ⟨zB, 4, none⟩ = some (.int .i64 yW.p.hops) := cell_of_row _ _ _ _ _ _ S25.Y
            have r5 : w25.cell? ⟨zB, 5, none⟩ = some (.bool yW.p.whole) := cell_of_row _ _ _ _ _ _ S25.Y
            have r6 : w25.cell? ⟨zB, 6, none⟩ = some (.int .i64 yW.p.off) := cell_of_row _ _ _ _ _ _ S25.Y
            have r7 : w25.cell? ⟨zB, 7, none⟩ = some (.bool yW.p.more) := cell_of_row _ _ _ _ _ _ S25.Y
            have r8 : w25.cell? ⟨zB, 8, none⟩ = some (.slice yW.a yW.zs.length yW.c) := cell_of_row _ _ _ _ _ _ S25.Y
            go_wp2_with fail
            refine (KEH.out _ rH25 S25.T.data.rok).mono ?_
            rintro e w26 ⟨rfl, b26⟩
            have s26 := b26.size
            have S26 := S25.below b26
            have H26 := H25.below b26
            clear p0 p1 p2 p3 p4 p5 p6 p7 p8 r0 r1 r2 r3 r4 r5 r6 r7 r8 S25 H25 hD25 rH25 b26
            have g0 : w26.cell? ⟨w8.heap.size, 0, none⟩ = some (.int .i64 nw) := cell_of_row _ _ _ _ _ _ H26.G
            have g1 : w26.cell? ⟨w8.heap.size, 1, none⟩ = some (.slice oG tsG.length cG) := cell_of_row _ _ _ _ _ _ H26.G
            go_wp2_with fail
            refine (KHB.out _ H26).mono ?_
            rintro e w27 ⟨rfl, b27⟩
            have s27 := b27.size
            have H27 := H26.below b27
            have S27 := S26.below b27
            clear g0 g1 H26 S26 b27
            have p0 : w27.cell? ⟨w8.heap.size + 1, 0, none⟩ = some (.int .i64 yG.p.src) := cell_of_row _ _ _ _ _ _ H27.Y
            have p1 : w27.cell? ⟨w8.heap.size + 1, 1, none⟩ = some (.int .i64 yG.p.dst) := cell_of_row _ _ _ _ _ _ H27.Y
            have p2 : w27.cell? ⟨w8.heap.size + 1, 2, none⟩ = some (.int .i64 yG.p.kind) := cell_of_row _ _ _ _ _ _ H27.Y
            have p3 : w27.cell? ⟨w8.heap.size + 1, 3, none⟩ = some (.int .i64 yG.p.id) := cell_of_row _ _ _ _ _ _ H27.Y
            have p4 : w27.cell? ⟨w8.heap.size + 1, 4, none⟩ = some (.int .i64 yG.p.hops) := cell_of_row _ _ _ _ _ _ H27.Y
            have p5 : w27.cell? ⟨w8.heap.size + 1, 5, none⟩ = some (.bool yG.p.whole) := cell_of_row _ _ _ _ _ _ H27.Y
            have p6 : w27.cell? ⟨w8.heap.size + 1, 6, none⟩ = some (.int .i64 yG.p.off) := cell_of_row _ _ _ _ _ _ H27.Y
            have p7 : w27.cell? ⟨w8.heap.size + 1, 7, none⟩ = some (.bool yG.p.more) := cell_of_row _ _ _ _ _ _ H27.Y
            have p8 : w27.cell? ⟨w8.heap.size + 1, 8, none⟩ = some (.slice yG.a yG.zs.length yG.c) := cell_of_row _ _ _ _ _ _ H27.Y
            go_wp2_with fail
            refine (KHP.out _ H27).mono ?_
            rintro e w28 ⟨rfl, b28⟩
            have s28 := b28.size
            have H28 := H27.below b28
            have S28 := S27.below b28
            clear p0 p1 p2 p3 p4 p5 p6 p7 p8 H27 S27 b28
            have FIN : Hid (Below w.heap.size w w28) := S28.B
            clear S28 H28
            go_wp2
            go_ret
            exact ⟨rfl, FIN.out⟩
          ·
            go_simp
            obtain ⟨v8, hz1⟩ : ∃ v, w'.alloc (.cells #[.int .i64 0, .int .i64 0, .int .i64 0, .int .i64 0, .int .i64 0, .bool false, .int .i64 0, .bool false, .slice none 0 0] 33) = v := ⟨_, rfl⟩
            have bzv8 : Below w'.heap.size w' v8 := by rw [← hz1]; exact Joins.below_alloc1 _ _
            have szv8 : v8.heap.size = w'.heap.size + 1 := by rw [← hz1]; simp
            have nzv8 : v8.heap[w'.heap.size]? = some (.cells #[.int .i64 0, .int .i64 0, .int .i64 0, .int .i64 0, .int .i64 0, .bool false, .int .i64 0, .bool false, .slice none 0 0] 33 (0, 0)) := by rw [← hz1]; exact heap_new _ _ _ rfl
            (first | rw [hz1] | skip)
            have hwv8 : Below w23.heap.size w23 v8 := hw'.trans (bzv8.mono (by omega))
            refine hK.out _ _ hwv8 (fun hH => ?_)
            clear hK K hz1
            (first | (simp only [List.setIfInBounds_toArray, List.set_cons_zero, List.set_cons_succ]) | skip)
            refine wpAnyH_ready (rs := [9]) (by kernel_rfl) (by simp) ?_
            refine AllReadyH.cons rfl (fun K hK => ?_) AllReadyH.nil
            go_simp
            obtain ⟨v9, hz1⟩ : ∃ v, v8.alloc (.cells #[.int .i64 0, .slice none 0 0] 32) = v := ⟨_, rfl⟩
            have bzv9 : Below v8.heap.size v8 v9 := by rw [← hz1]; exact Joins.below_alloc1 _ _
            have szv9 : v9.heap.size = v8.heap.size + 1 := by rw [← hz1]; simp
            have nzv9 : v9.heap[v8.heap.size]? = some (.cells #[.int .i64 0, .slice none 0 0] 32 (0, 0)) := by rw [← hz1]; exact heap_new _ _ _ rfl
            (first | rw [hz1] | skip)
            have hwv9 : Below w23.heap.size w23 v9 := hwv8.trans (bzv9.mono (by omega))
            refine hK.out _ _ hwv9 (fun hH => ?_)
            clear hK K hz1
            (first | (simp only [List.setIfInBounds_toArray, List.set_cons_zero, List.set_cons_succ]) | skip)
            have fA : v9.heap[(w'.heap.size + 1)]? = some (.cells #[.int .i64 0, .slice none 0 0] 32 (0, 0)) := szv8 ▸ nzv9
            have fB : v9.heap[w'.heap.size]? = some (.cells #[.int .i64 0, .int .i64 0, .int .i64 0, .int .i64 0, .int .i64 0, .bool false, .int .i64 0, .bool false, .slice none 0 0] 33 (0, 0)) := (bzv9.block _ (by omega)).trans nzv8
            have nAB : (w'.heap.size + 1) ≠ w'.heap.size := by omega
            have lA : w23.heap.size ≤ (w'.heap.size + 1) := by omega
            have lB : w23.heap.size ≤ w'.heap.size := by omega
            have a0 : v9.cell? ⟨(w'.heap.size + 1), 0, none⟩ = some (.int .i64 0) := cell_of_row _ _ _ _ _ _ fA
            have a1 : v9.cell? ⟨(w'.heap.size + 1), 1, none⟩ = some (.slice none 0 0) := cell_of_row _ _ _ _ _ _ fA
            have az : ∀ o, v9.frozen? ⟨(w'.heap.size + 1), o, none⟩ = false := fun o => Joins.unfrozen_of_block fA o
            have tw : TAns v9 w23.heap.size nn kk oo co us yy := (hTW.below bzv8).below bzv9
            refine wpAnyH_ready (rs := [11]) (by kernel_rfl) (by simp) ?_
            refine AllReadyH.cons rfl (fun K hK => ?_) AllReadyH.nil
            go_simp
            obtain ⟨v10, hz1⟩ : ∃ v, (v9.setCell ⟨(w'.heap.size + 1), 0, none⟩ (.int .i64 nn)).setCell ⟨(w'.heap.size + 1), 1, none⟩ (.slice oo us.length co) = v := ⟨_, rfl⟩
            have f10 : ∀ b, b ≠ (w'.heap.size + 1) → v10.heap[b]? = v9.heap[b]? := fun b hb => by rw [← hz1]; exact (Below.heap_setCell _ _ _ _ hb).trans (Below.heap_setCell _ _ _ _ hb)
            have c10 : v10.heap[(w'.heap.size + 1)]? = some (.cells #[.int .i64 nn, .slice oo us.length co] 32 (0, 0)) := by rw [← hz1]; exact set_at (o := 1) (set_at (o := 0) fA)
            have e10 : v10.os = v9.os ∧ v10.tape = v9.tape ∧ v10.output = v9.output ∧ v10.heap.size = v9.heap.size := by rw [← hz1]; exact ⟨by simp [World.setCell], by simp [World.setCell], by simp [World.setCell], by simp [World.setCell]⟩
            (first | rw [hz1] | skip)
            have hv10 : Below w23.heap.size w23 v10 := ⟨e10.1.trans hwv9.os, e10.2.1.trans hwv9.tape, e10.2.2.1.trans hwv9.output, by rw [e10.2.2.2]; exact hwv9.size, fun b hb => (f10 b (by omega)).trans (hwv9.block b hb)⟩
            refine hK.out _ _ hv10 (fun hH => ?_)
            clear hK K hz1 a0 a1 az
            (first | (simp only [List.setIfInBounds_toArray, List.set_cons_zero, List.set_cons_succ]) | skip)
            have d3 := (f10 (w'.heap.size) (by omega)).trans fB
            have bz : ∀ o, v10.frozen? ⟨w'.heap.size, o, none⟩ = false := fun o => Joins.unfrozen_of_block d3 o
            have p0 : v10.cell? ⟨w'.heap.size, 0, none⟩ = some (.int .i64 0) := cell_of_row _ _ _ _ _ _ d3
            have p1 : v10.cell? ⟨w'.heap.size, 1, none⟩ = some (.int .i64 0) := cell_of_row _ _ _ _ _ _ d3
            have p2 : v10.cell? ⟨w'.heap.size, 2, none⟩ = some (.int .i64 0) := cell_of_row _ _ _ _ _ _ d3
            have p3 : v10.cell? ⟨w'.heap.size, 3, none⟩ = some (.int .i64 0) := cell_of_row _ _ _ _ _ _ d3
            have p4 : v10.cell? ⟨w'.heap.size, 4, none⟩ = some (.int .i64 0) := cell_of_row _ _ _ _ _ _ d3
            have p5 : v10.cell? ⟨w'.heap.size, 5, none⟩ = some (.bool false) := cell_of_row _ _ _ _ _ _ d3
            have p6 : v10.cell? ⟨w'.heap.size, 6, none⟩ = some (.int .i64 0) := cell_of_row _ _ _ _ _ _ d3
            have p7 : v10.cell? ⟨w'.heap.size, 7, none⟩ = some (.bool false) := cell_of_row _ _ _ _ _ _ d3
            have p8 : v10.cell? ⟨w'.heap.size, 8, none⟩ = some (.slice none 0 0) := cell_of_row _ _ _ _ _ _ d3
            refine wpAnyH_ready (rs := [12]) (by kernel_rfl) (by simp) ?_
            refine AllReadyH.cons rfl (fun K hK => ?_) AllReadyH.nil
            go_simp
            obtain ⟨v11, hz1⟩ : ∃ v, (((((((((v10.setCell ⟨w'.heap.size, 0, none⟩ (.int .i64 yy.p.src)).setCell ⟨w'.heap.size, 1, none⟩ (.int .i64 yy.p.dst)).setCell ⟨w'.heap.size, 2, none⟩ (.int .i64 yy.p.kind)).setCell ⟨w'.heap.size, 3, none⟩ (.int .i64 yy.p.id)).setCell ⟨w'.heap.size, 4, none⟩ (.int .i64 yy.p.hops)).setCell ⟨w'.heap.size, 5, none⟩ (.bool yy.p.whole)).setCell ⟨w'.heap.size, 6, none⟩ (.int .i64 yy.p.off)).setCell ⟨w'.heap.size, 7, none⟩ (.bool yy.p.more)).setCell ⟨w'.heap.size, 8, none⟩ (.slice yy.a yy.zs.length yy.c)) = v := ⟨_, rfl⟩
            have f11 : ∀ b, b ≠ w'.heap.size → v11.heap[b]? = v10.heap[b]? := fun b hb => by rw [← hz1]; exact box_far9 v10 _ b hb _ _ _ _ _ _ _ _ _
            have c11 : v11.heap[w'.heap.size]? = some (.cells #[.int .i64 yy.p.src, .int .i64 yy.p.dst, .int .i64 yy.p.kind, .int .i64 yy.p.id, .int .i64 yy.p.hops, .bool yy.p.whole, .int .i64 yy.p.off, .bool yy.p.more, .slice yy.a yy.zs.length yy.c] 33 (0, 0)) := by rw [← hz1]; exact box_put9 _ _ _ _ _ _ _ _ _ d3
            have e11 : v11.os = v10.os ∧ v11.tape = v10.tape ∧ v11.output = v10.output ∧ v11.heap.size = v10.heap.size := by rw [← hz1]; exact ⟨by simp [World.setCell], by simp [World.setCell], by simp [World.setCell], box_size9 v10 _ _ _ _ _ _ _ _ _ _⟩
            (first | rw [hz1] | skip)
            have hv11 : Below w23.heap.size w23 v11 := ⟨e11.1.trans hv10.os, e11.2.1.trans hv10.tape, e11.2.2.1.trans hv10.output, by rw [e11.2.2.2]; exact hv10.size, fun b hb => (f11 b (by omega)).trans (hv10.block b hb)⟩
            refine hK.out _ _ hv11 (fun hH => ?_)
            clear hK K hz1 p0 p1 p2 p3 p4 p5 p6 p7 p8 bz
            (first | (simp only [List.setIfInBounds_toArray, List.set_cons_zero, List.set_cons_succ]) | skip)
            refine take_held 13 (some 19) (.int .i64 c) rfl rfl (by kernel_rfl) (by kernel_rfl) (by kernel_rfl) (fun _ _ _ h => h) (by rfl) (fun w hS => by go_simp) hH ?_
            simp only [Act.put, List.setIfInBounds_toArray, List.set_cons_zero, List.set_cons_succ]
            refine wpAnyH_done (by kernel_rfl) ?_ _
            have G : Got w23 v11 ((w'.heap.size + 1)) (w'.heap.size) nn oo co us yy kk := ⟨hv11, (f11 _ nAB).trans c10, c11, lA, lB, tw.kept (fun b hb => (f11 b (by have := KAB.out.1 b hb; omega)).trans (f10 b (by have := KAB.out.1 b hb; omega))) (fun b hb => (f11 b (by have := KAB.out.2 b hb; omega)).trans (f10 b (by have := KAB.out.2 b hb; omega)))⟩
            clear hH f10 f11 c10 c11 e10 e11 hv11 hv10 tw d3 fA fB
            obtain ⟨w24, hw24⟩ : ∃ v, v11 = v := ⟨_, rfl⟩
            rw [hw24] at G ⊢
            clear hw24
            obtain ⟨rfl, rfl, hyk2, rfl⟩ := HTW.out.same hTP (ht1.trans HK1.out.symm) rfl
            have S24 := S23.below G.below
            have H24 := H23.below G.below
            have s24 := G.below.size
            have lC := lt_of_block G.boxA
            have lD := lt_of_block G.boxB
            have K25 : Hid (tsW.map SV.key = us.map SV.key) := S24.T.keys.trans G.ans.keys.symm
            have KEH : Hid (∀ U : World, ROk U yy → ROk U yW → Calls Tryz.prog 12 #[.agg #[.int .i64 yy.p.src, .int .i64 yy.p.dst, .int .i64 yy.p.kind, .int .i64 yy.p.id, .int .i64 yy.p.hops, .bool yy.p.whole, .int .i64 yy.p.off, .bool yy.p.more, .slice yy.a yy.zs.length yy.c], .agg #[.int .i64 yW.p.src, .int .i64 yW.p.dst, .int .i64 yW.p.kind, .int .i64 yW.p.id, .int .i64 yW.p.hops, .bool yW.p.whole, .int .i64 yW.p.off, .bool yW.p.more, .slice yW.a yW.zs.length yW.c]] U fun e w' => e = .returned (.bool true) ∧ Below U.heap.size U w') := fun U h1 h2 => by
              have h := eqPacket_rv yy yW U h1 h2 hyk2.symm
              unfold RV.val0 Pk.val at h
              exact h
            clear hTP ht1 KWb HPb HAb Hb S23 H23 hyk2 KAB
            have g0 : w24.cell? ⟨(w'.heap.size + 1), 0, none⟩ = some (.int .i64 nw) := cell_of_row _ _ _ _ _ _ G.boxA
            have g1 : w24.cell? ⟨(w'.heap.size + 1), 1, none⟩ = some (.slice oo us.length co) := cell_of_row _ _ _ _ _ _ G.boxA
            have z0 : w24.cell? ⟨zA, 0, none⟩ = some (.int .i64 nw) := cell_of_row _ _ _ _ _ _ S24.Q
            have z1 : w24.cell? ⟨zA, 1, none⟩ = some (.slice oW tsW.length cW) := cell_of_row _ _ _ _ _ _ S24.Q
            go_wp2_with fail
            refine (eqBench_q nw oo oW co cW us tsW _ G.ans.ans.slq S24.T.ans.slq K25.out (by have := G.ans.len; omega)).mono ?_
            rintro e w25 ⟨rfl, b25⟩
            have s25 := b25.size
            have S25 := S24.below b25
            have H25 := H24.below b25
            have hD25 := (b25.block _ lD).trans G.boxB
            have rH25 := (G.ans.data.below b25).rok
            clear g0 g1 z0 z1 S24 H24 G b25
            have p0 : w25.cell? ⟨w'.heap.size, 0, none⟩ = some (.int .i64 yy.p.src) := cell_of_row _ _ _ _ _ _ hD25
            have p1 : w25.cell? ⟨w'.heap.size, 1, none⟩ = some (.int .i64 yy.p.dst) := cell_of_row _ _ _ _ _ _ hD25
            have p2 : w25.cell? ⟨w'.heap.size, 2, none⟩ = some (.int .i64 yy.p.kind) := cell_of_row _ _ _ _ _ _ hD25
            have p3 : w25.cell? ⟨w'.heap.size, 3, none⟩ = some (.int .i64 yy.p.id) := cell_of_row _ _ _ _ _ _ hD25
            have p4 : w25.cell? ⟨w'.heap.size, 4, none⟩ = some (.int .i64 yy.p.hops) := cell_of_row _ _ _ _ _ _ hD25
            have p5 : w25.cell? ⟨w'.heap.size, 5, none⟩ = some (.bool yy.p.whole) := cell_of_row _ _ _ _ _ _ hD25
            have p6 : w25.cell? ⟨w'.heap.size, 6, none⟩ = some (.int .i64 yy.p.off) := cell_of_row _ _ _ _ _ _ hD25
            have p7 : w25.cell? ⟨w'.heap.size, 7, none⟩ = some (.bool yy.p.more) := cell_of_row _ _ _ _ _ _ hD25
            have p8 : w25.cell? ⟨w'.heap.size, 8, none⟩ = some (.slice yy.a yy.zs.length yy.c) := cell_of_row _ _ _ _ _ _ hD25
            have r0 : w25.cell? ⟨zB, 0, none⟩ = some (.int .i64 yW.p.src) := cell_of_row _ _ _ _ _ _ S25.Y
            have r1 : w25.cell? ⟨zB, 1, none⟩ = some (.int .i64 yW.p.dst) := cell_of_row _ _ _ _ _ _ S25.Y
            have r2 : w25.cell? ⟨zB, 2, none⟩ = some (.int .i64 yW.p.kind) := cell_of_row _ _ _ _ _ _ S25.Y
            have r3 : w25.cell? ⟨zB, 3, none⟩ = some (.int .i64 yW.p.id) := cell_of_row _ _ _ _ _ _ S25.Y
            have r4 : w25.cell? ⟨zB, 4, none⟩ = some (.int .i64 yW.p.hops) := cell_of_row _ _ _ _ _ _ S25.Y
            have r5 : w25.cell? ⟨zB, 5, none⟩ = some (.bool yW.p.whole) := cell_of_row _ _ _ _ _ _ S25.Y
            have r6 : w25.cell? ⟨zB, 6, none⟩ = some (.int .i64 yW.p.off) := cell_of_row _ _ _ _ _ _ S25.Y
            have r7 : w25.cell? ⟨zB, 7, none⟩ = some (.bool yW.p.more) := cell_of_row _ _ _ _ _ _ S25.Y
            have r8 : w25.cell? ⟨zB, 8, none⟩ = some (.slice yW.a yW.zs.length yW.c) := cell_of_row _ _ _ _ _ _ S25.Y
            go_wp2_with fail
            refine (KEH.out _ rH25 S25.T.data.rok).mono ?_
            rintro e w26 ⟨rfl, b26⟩
            have s26 := b26.size
            have S26 := S25.below b26
            have H26 := H25.below b26
            clear p0 p1 p2 p3 p4 p5 p6 p7 p8 r0 r1 r2 r3 r4 r5 r6 r7 r8 S25 H25 hD25 rH25 b26
            have g0 : w26.cell? ⟨w8.heap.size, 0, none⟩ = some (.int .i64 nw) := cell_of_row _ _ _ _ _ _ H26.G
            have g1 : w26.cell? ⟨w8.heap.size, 1, none⟩ = some (.slice oG tsG.length cG) := cell_of_row _ _ _ _ _ _ H26.G
            go_wp2_with fail
            refine (KHB.out _ H26).mono ?_
            rintro e w27 ⟨rfl, b27⟩
            have s27 := b27.size
            have H27 := H26.below b27
            have S27 := S26.below b27
            clear g0 g1 H26 S26 b27
            have p0 : w27.cell? ⟨w8.heap.size + 1, 0, none⟩ = some (.int .i64 yG.p.src) := cell_of_row _ _ _ _ _ _ H27.Y
            have p1 : w27.cell? ⟨w8.heap.size + 1, 1, none⟩ = some (.int .i64 yG.p.dst) := cell_of_row _ _ _ _ _ _ H27.Y
            have p2 : w27.cell? ⟨w8.heap.size + 1, 2, none⟩ = some (.int .i64 yG.p.kind) := cell_of_row _ _ _ _ _ _ H27.Y
            have p3 : w27.cell? ⟨w8.heap.size + 1, 3, none⟩ = some (.int .i64 yG.p.id) := cell_of_row _ _ _ _ _ _ H27.Y
            have p4 : w27.cell? ⟨w8.heap.size + 1, 4, none⟩ = some (.int .i64 yG.p.hops) := cell_of_row _ _ _ _ _ _ H27.Y
            have p5 : w27.cell? ⟨w8.heap.size + 1, 5, none⟩ = some (.bool yG.p.whole) := cell_of_row _ _ _ _ _ _ H27.Y
            have p6 : w27.cell? ⟨w8.heap.size + 1, 6, none⟩ = some (.int .i64 yG.p.off) := cell_of_row _ _ _ _ _ _ H27.Y
            have p7 : w27.cell? ⟨w8.heap.size + 1, 7, none⟩ = some (.bool yG.p.more) := cell_of_row _ _ _ _ _ _ H27.Y
            have p8 : w27.cell? ⟨w8.heap.size + 1, 8, none⟩ = some (.slice yG.a yG.zs.length yG.c) := cell_of_row _ _ _ _ _ _ H27.Y
            go_wp2_with fail
            refine (KHP.out _ H27).mono ?_
            rintro e w28 ⟨rfl, b28⟩
            have s28 := b28.size
            have H28 := H27.below b28
            have S28 := S27.below b28
            clear p0 p1 p2 p3 p4 p5 p6 p7 p8 H27 S27 b28
            have FIN : Hid (Below w.heap.size w w28) := S28.B
            clear S28 H28
            go_wp2
            go_ret
            exact ⟨rfl, FIN.out⟩
        | true =>
          show wpAnyH _ _ _ _ _ 8 _ _ _
          obtain ⟨hB1, hB2, hB3⟩ := hB rfl
          have hH := hw'
          simp only [c3Act, pf, cond_true, cond_false, Act.put, List.setIfInBounds_toArray, List.set_cons_zero, List.set_cons_succ]
          refine take_held 5 (some 119) (.tuple #[.agg #[.int .i64 nn, .slice oo us.length co], .agg #[.int .i64 yy.p.src, .int .i64 yy.p.dst, .int .i64 yy.p.kind, .int .i64 yy.p.id, .int .i64 yy.p.hops, .bool yy.p.whole, .int .i64 yy.p.off, .bool yy.p.more, .slice yy.a yy.zs.length yy.c], .int .i64 c]) rfl rfl (by kernel_rfl) (by kernel_rfl) (by kernel_rfl) (fun _ _ _ h => h) (by rfl) (fun w hS => by go_simp) hH ?_
          simp only [Act.put, List.setIfInBounds_toArray, List.set_cons_zero, List.set_cons_succ]
          refine take_held 6 (some 125) (.agg #[.int .i64 nn, .slice oo us.length co]) rfl rfl (by kernel_rfl) (by kernel_rfl) (by kernel_rfl) (fun _ _ _ h => h) (by rfl) (fun w hS => by go_simp) hH ?_
          simp only [Act.put, List.setIfInBounds_toArray, List.set_cons_zero, List.set_cons_succ]
          refine take_held 7 (some 126) (.agg #[.int .i64 yy.p.src, .int .i64 yy.p.dst, .int .i64 yy.p.kind, .int .i64 yy.p.id, .int .i64 yy.p.hops, .bool yy.p.whole, .int .i64 yy.p.off, .bool yy.p.more, .slice yy.a yy.zs.length yy.c]) rfl rfl (by kernel_rfl) (by kernel_rfl) (by kernel_rfl) (fun _ _ _ h => h) (by rfl) (fun w hS => by go_simp) hH ?_
          simp only [Act.put, List.setIfInBounds_toArray, List.set_cons_zero, List.set_cons_succ]
          refine take_held 8 (some 127) (.int .i64 c) rfl rfl (by kernel_rfl) (by kernel_rfl) (by kernel_rfl) (fun _ _ _ h => h) (by rfl) (fun w hS => by go_simp) hH ?_
          simp only [Act.put, List.setIfInBounds_toArray, List.set_cons_zero, List.set_cons_succ]
          refine wpAnyH_ready (rs := [9]) (by kernel_rfl) (by simp) ?_
          refine AllReadyH.cons rfl (fun K hK => ?_) AllReadyH.nil
          go_simp
          obtain ⟨v8, hz1⟩ : ∃ v, w'.alloc (.cells #[.int .i64 0, .slice none 0 0] 32) = v := ⟨_, rfl⟩
          have bzv8 : Below w'.heap.size w' v8 := by rw [← hz1]; exact Joins.below_alloc1 _ _
          have szv8 : v8.heap.size = w'.heap.size + 1 := by rw [← hz1]; simp
          have nzv8 : v8.heap[w'.heap.size]? = some (.cells #[.int .i64 0, .slice none 0 0] 32 (0, 0)) := by rw [← hz1]; exact heap_new _ _ _ rfl
          (first | rw [hz1] | skip)
          have hwv8 : Below w23.heap.size w23 v8 := hw'.trans (bzv8.mono (by omega))
          refine hK.out _ _ hwv8 (fun hH => ?_)
          clear hK K hz1
          (first | (simp only [List.setIfInBounds_toArray, List.set_cons_zero, List.set_cons_succ]) | skip)
          have fA : v8.heap[w'.heap.size]? = some (.cells #[.int .i64 0, .slice none 0 0] 32 (0, 0)) := nzv8
          have fB : v8.heap[nB]? = some (.cells #[.int .i64 0, .int .i64 0, .int .i64 0, .int .i64 0, .int .i64 0, .bool false, .int .i64 0, .bool false, .slice none 0 0] 33 (0, 0)) := (bzv8.block _ (by omega)).trans hB1
          have nAB : w'.heap.size ≠ nB := by omega
          have lA : w23.heap.size ≤ w'.heap.size := by omega
          have lB : w23.heap.size ≤ nB := hB2
          have a0 : v8.cell? ⟨w'.heap.size, 0, none⟩ = some (.int .i64 0) := cell_of_row _ _ _ _ _ _ fA
          have a1 : v8.cell? ⟨w'.heap.size, 1, none⟩ = some (.slice none 0 0) := cell_of_row _ _ _ _ _ _ fA
          have az : ∀ o, v8.frozen? ⟨w'.heap.size, o, none⟩ = false := fun o => Joins.unfrozen_of_block fA o
          have tw : TAns v8 w23.heap.size nn kk oo co us yy := hTW.below bzv8
          refine wpAnyH_ready (rs := [11]) (by kernel_rfl) (by simp) ?_
          refine AllReadyH.cons rfl (fun K hK => ?_) AllReadyH.nil
          go_simp
          obtain ⟨v10, hz1⟩ : ∃ v, (v8.setCell ⟨w'.heap.size, 0, none⟩ (.int .i64 nn)).setCell ⟨w'.heap.size, 1, none⟩ (.slice oo us.length co) = v := ⟨_, rfl⟩
          have f10 : ∀ b, b ≠ w'.heap.size → v10.heap[b]? = v8.heap[b]? := fun b hb => by rw [← hz1]; exact (Below.heap_setCell _ _ _ _ hb).trans (Below.heap_setCell _ _ _ _ hb)
          have c10 : v10.heap[w'.heap.size]? = some (.cells #[.int .i64 nn, .slice oo us.length co] 32 (0, 0)) := by rw [← hz1]; exact set_at (o := 1) (set_at (o := 0) fA)
          have e10 : v10.os = v8.os ∧ v10.tape = v8.tape ∧ v10.output = v8.output ∧ v10.heap.size = v8.heap.size := by rw [← hz1]; exact ⟨by simp [World.setCell], by simp [World.setCell], by simp [World.setCell], by simp [World.setCell]⟩
          (first | rw [hz1] | skip)
          have hv10 : Below w23.heap.size w23 v10 := ⟨e10.1.trans hwv8.os, e10.2.1.trans hwv8.tape, e10.2.2.1.trans hwv8.output, by rw [e10.2.2.2]; exact hwv8.size, fun b hb => (f10 b (by omega)).trans (hwv8.block b hb)⟩
          refine hK.out _ _ hv10 (fun hH => ?_)
          clear hK K hz1 a0 a1 az
          (first | (simp only [List.setIfInBounds_toArray, List.set_cons_zero, List.set_cons_succ]) | skip)
          have d3 := (f10 (nB) (by omega)).trans fB
          have bz : ∀ o, v10.frozen? ⟨nB, o, none⟩ = false := fun o => Joins.unfrozen_of_block d3 o
          have p0 : v10.cell? ⟨nB, 0, none⟩ = some (.int .i64 0) := cell_of_row _ _ _ _ _ _ d3
          have p1 : v10.cell? ⟨nB, 1, none⟩ = some (.int .i64 0) := cell_of_row _ _ _ _ _ _ d3
          have p2 : v10.cell? ⟨nB, 2, none⟩ = some (.int .i64 0) := cell_of_row _ _ _ _ _ _ d3
          have p3 : v10.cell? ⟨nB, 3, none⟩ = some (.int .i64 0) := cell_of_row _ _ _ _ _ _ d3
          have p4 : v10.cell? ⟨nB, 4, none⟩ = some (.int .i64 0) := cell_of_row _ _ _ _ _ _ d3
          have p5 : v10.cell? ⟨nB, 5, none⟩ = some (.bool false) := cell_of_row _ _ _ _ _ _ d3
          have p6 : v10.cell? ⟨nB, 6, none⟩ = some (.int .i64 0) := cell_of_row _ _ _ _ _ _ d3
          have p7 : v10.cell? ⟨nB, 7, none⟩ = some (.bool false) := cell_of_row _ _ _ _ _ _ d3
          have p8 : v10.cell? ⟨nB, 8, none⟩ = some (.slice none 0 0) := cell_of_row _ _ _ _ _ _ d3
          refine wpAnyH_ready (rs := [12]) (by kernel_rfl) (by simp) ?_
          refine AllReadyH.cons rfl (fun K hK => ?_) AllReadyH.nil
          go_simp
          obtain ⟨v11, hz1⟩ : ∃ v, (((((((((v10.setCell ⟨nB, 0, none⟩ (.int .i64 yy.p.src)).setCell ⟨nB, 1, none⟩ (.int .i64 yy.p.dst)).setCell ⟨nB, 2, none⟩ (.int .i64 yy.p.kind)).setCell ⟨nB, 3, none⟩ (.int .i64 yy.p.id)).setCell ⟨nB, 4, none⟩ (.int .i64 yy.p.hops)).setCell ⟨nB, 5, none⟩ (.bool yy.p.whole)).setCell ⟨nB, 6, none⟩ (.int .i64 yy.p.off)).setCell ⟨nB, 7, none⟩ (.bool yy.p.more)).setCell ⟨nB, 8, none⟩ (.slice yy.a yy.zs.length yy.c)) = v := ⟨_, rfl⟩
          have f11 : ∀ b, b ≠ nB → v11.heap[b]? = v10.heap[b]? := fun b hb => by rw [← hz1]; exact box_far9 v10 _ b hb _ _ _ _ _ _ _ _ _
          have c11 : v11.heap[nB]? = some (.cells #[.int .i64 yy.p.src, .int .i64 yy.p.dst, .int .i64 yy.p.kind, .int .i64 yy.p.id, .int .i64 yy.p.hops, .bool yy.p.whole, .int .i64 yy.p.off, .bool yy.p.more, .slice yy.a yy.zs.length yy.c] 33 (0, 0)) := by rw [← hz1]; exact box_put9 _ _ _ _ _ _ _ _ _ d3
          have e11 : v11.os = v10.os ∧ v11.tape = v10.tape ∧ v11.output = v10.output ∧ v11.heap.size = v10.heap.size := by rw [← hz1]; exact ⟨by simp [World.setCell], by simp [World.setCell], by simp [World.setCell], box_size9 v10 _ _ _ _ _ _ _ _ _ _⟩
          (first | rw [hz1] | skip)
          have hv11 : Below w23.heap.size w23 v11 := ⟨e11.1.trans hv10.os, e11.2.1.trans hv10.tape, e11.2.2.1.trans hv10.output, by rw [e11.2.2.2]; exact hv10.size, fun b hb => (f11 b (by omega)).trans (hv10.block b hb)⟩
          refine hK.out _ _ hv11 (fun hH => ?_)
          clear hK K hz1 p0 p1 p2 p3 p4 p5 p6 p7 p8 bz
          (first | (simp only [List.setIfInBounds_toArray, List.set_cons_zero, List.set_cons_succ]) | skip)
          refine take_held 13 (some 19) (.int .i64 c) rfl rfl (by kernel_rfl) (by kernel_rfl) (by kernel_rfl) (fun _ _ _ h => h) (by rfl) (fun w hS => by go_simp) hH ?_
          simp only [Act.put, List.setIfInBounds_toArray, List.set_cons_zero, List.set_cons_succ]
          refine wpAnyH_done (by kernel_rfl) ?_ _
          have G : Got w23 v11 (w'.heap.size) (nB) nn oo co us yy kk := ⟨hv11, (f11 _ nAB).trans c10, c11, lA, lB, tw.kept (fun b hb => (f11 b (by have := KAB.out.1 b hb; omega)).trans (f10 b (by have := KAB.out.1 b hb; omega))) (fun b hb => (f11 b (by have := KAB.out.2 b hb; omega)).trans (f10 b (by have := KAB.out.2 b hb; omega)))⟩
          clear hH f10 f11 c10 c11 e10 e11 hv11 hv10 tw d3 fA fB
          obtain ⟨w24, hw24⟩ : ∃ v, v11 = v := ⟨_, rfl⟩
          rw [hw24] at G ⊢
          clear hw24
          obtain ⟨rfl, rfl, hyk2, rfl⟩ := HTW.out.same hTP (ht1.trans HK1.out.symm) rfl
          have S24 := S23.below G.below
          have H24 := H23.below G.below
          have s24 := G.below.size
          have lC := lt_of_block G.boxA
          have lD := lt_of_block G.boxB
          have K25 : Hid (tsW.map SV.key = us.map SV.key) := S24.T.keys.trans G.ans.keys.symm
          have KEH : Hid (∀ U : World, ROk U yy → ROk U yW → Calls Tryz.prog 12 #[.agg #[.int .i64 yy.p.src, .int .i64 yy.p.dst, .int .i64 yy.p.kind, .int .i64 yy.p.id, .int .i64 yy.p.hops, .bool yy.p.whole, .int .i64 yy.p.off, .bool yy.p.more, .slice yy.a yy.zs.length yy.c], .agg #[.int .i64 yW.p.src, .int .i64 yW.p.dst, .int .i64 yW.p.kind, .int .i64 yW.p.id, .int .i64 yW.p.hops, .bool yW.p.whole, .int .i64 yW.p.off, .bool yW.p.more, .slice yW.a yW.zs.length yW.c]] U fun e w' => e = .returned (.bool true) ∧ Below U.heap.size U w') := fun U h1 h2 => by
            have h := eqPacket_rv yy yW U h1 h2 hyk2.symm
            unfold RV.val0 Pk.val at h
            exact h
          clear hTP ht1 KWb HPb HAb Hb S23 H23 hyk2 KAB
          have g0 : w24.cell? ⟨w'.heap.size, 0, none⟩ = some (.int .i64 nw) := cell_of_row _ _ _ _ _ _ G.boxA
          have g1 : w24.cell? ⟨w'.heap.size, 1, none⟩ = some (.slice oo us.length co) := cell_of_row _ _ _ _ _ _ G.boxA
          have z0 : w24.cell? ⟨zA, 0, none⟩ = some (.int .i64 nw) := cell_of_row _ _ _ _ _ _ S24.Q
          have z1 : w24.cell? ⟨zA, 1, none⟩ = some (.slice oW tsW.length cW) := cell_of_row _ _ _ _ _ _ S24.Q
          go_wp2_with fail
          refine (eqBench_q nw oo oW co cW us tsW _ G.ans.ans.slq S24.T.ans.slq K25.out (by have := G.ans.len; omega)).mono ?_
          rintro e w25 ⟨rfl, b25⟩
          have s25 := b25.size
          have S25 := S24.below b25
          have H25 := H24.below b25
          have hD25 := (b25.block _ lD).trans G.boxB
          have rH25 := (G.ans.data.below b25).rok
          clear g0 g1 z0 z1 S24 H24 G b25
          have p0 : w25.cell? ⟨nB, 0, none⟩ = some (.int .i64 yy.p.src) := cell_of_row _ _ _ _ _ _ hD25
          have p1 : w25.cell? ⟨nB, 1, none⟩ = some (.int .i64 yy.p.dst) := cell_of_row _ _ _ _ _ _ hD25
          have p2 : w25.cell? ⟨nB, 2, none⟩ = some (.int .i64 yy.p.kind) := cell_of_row _ _ _ _ _ _ hD25
          have p3 : w25.cell? ⟨nB, 3, none⟩ = some (.int .i64 yy.p.id) := cell_of_row _ _ _ _ _ _ hD25
          have p4 : w25.cell? ⟨nB, 4, none⟩ = some (.int .i64 yy.p.hops) := cell_of_row _ _ _ _ _ _ hD25
          have p5 : w25.cell? ⟨nB, 5, none⟩ = some (.bool yy.p.whole) := cell_of_row _ _ _ _ _ _ hD25
          have p6 : w25.cell? ⟨nB, 6, none⟩ = some (.int .i64 yy.p.off) := cell_of_row _ _ _ _ _ _ hD25
          have p7 : w25.cell? ⟨nB, 7, none⟩ = some (.bool yy.p.more) := cell_of_row _ _ _ _ _ _ hD25
          have p8 : w25.cell? ⟨nB, 8, none⟩ = some (.slice yy.a yy.zs.length yy.c) := cell_of_row _ _ _ _ _ _ hD25
          have r0 : w25.cell? ⟨zB, 0, none⟩ = some (.int .i64 yW.p.src) := cell_of_row _ _ _ _ _ _ S25.Y
          have r1 : w25.cell? ⟨zB, 1, none⟩ = some (.int .i64 yW.p.dst) := cell_of_row _ _ _ _ _ _ S25.Y
          have r2 : w25.cell? ⟨zB, 2, none⟩ = some (.int .i64 yW.p.kind) := cell_of_row _ _ _ _ _ _ S25.Y
          have r3 : w25.cell? ⟨zB, 3, none⟩ = some (.int .i64 yW.p.id) := cell_of_row _ _ _ _ _ _ S25.Y
          have r4 : w25.cell? ⟨zB, 4, none⟩ = some (.int .i64 yW.p.hops) := cell_of_row _ _ _ _ _ _ S25.Y
          have r5 : w25.cell? ⟨zB, 5, none⟩ = some (.bool yW.p.whole) := cell_of_row _ _ _ _ _ _ S25.Y
          have r6 : w25.cell? ⟨zB, 6, none⟩ = some (.int .i64 yW.p.off) := cell_of_row _ _ _ _ _ _ S25.Y
          have r7 : w25.cell? ⟨zB, 7, none⟩ = some (.bool yW.p.more) := cell_of_row _ _ _ _ _ _ S25.Y
          have r8 : w25.cell? ⟨zB, 8, none⟩ = some (.slice yW.a yW.zs.length yW.c) := cell_of_row _ _ _ _ _ _ S25.Y
          go_wp2_with fail
          refine (KEH.out _ rH25 S25.T.data.rok).mono ?_
          rintro e w26 ⟨rfl, b26⟩
          have s26 := b26.size
          have S26 := S25.below b26
          have H26 := H25.below b26
          clear p0 p1 p2 p3 p4 p5 p6 p7 p8 r0 r1 r2 r3 r4 r5 r6 r7 r8 S25 H25 hD25 rH25 b26
          have g0 : w26.cell? ⟨w8.heap.size, 0, none⟩ = some (.int .i64 nw) := cell_of_row _ _ _ _ _ _ H26.G
          have g1 : w26.cell? ⟨w8.heap.size, 1, none⟩ = some (.slice oG tsG.length cG) := cell_of_row _ _ _ _ _ _ H26.G
          go_wp2_with fail
          refine (KHB.out _ H26).mono ?_
          rintro e w27 ⟨rfl, b27⟩
          have s27 := b27.size
          have H27 := H26.below b27
          have S27 := S26.below b27
          clear g0 g1 H26 S26 b27
          have p0 : w27.cell? ⟨w8.heap.size + 1, 0, none⟩ = some (.int .i64 yG.p.src) := cell_of_row _ _ _ _ _ _ H27.Y
          have p1 : w27.cell? ⟨w8.heap.size + 1, 1, none⟩ = some (.int .i64 yG.p.dst) := cell_of_row _ _ _ _ _ _ H27.Y
          have p2 : w27.cell? ⟨w8.heap.size + 1, 2, none⟩ = some (.int .i64 yG.p.kind) := cell_of_row _ _ _ _ _ _ H27.Y
          have p3 : w27.cell? ⟨w8.heap.size + 1, 3, none⟩ = some (.int .i64 yG.p.id) := cell_of_row _ _ _ _ _ _ H27.Y
          have p4 : w27.cell? ⟨w8.heap.size + 1, 4, none⟩ = some (.int .i64 yG.p.hops) := cell_of_row _ _ _ _ _ _ H27.Y
          have p5 : w27.cell? ⟨w8.heap.size + 1, 5, none⟩ = some (.bool yG.p.whole) := cell_of_row _ _ _ _ _ _ H27.Y
          have p6 : w27.cell? ⟨w8.heap.size + 1, 6, none⟩ = some (.int .i64 yG.p.off) := cell_of_row _ _ _ _ _ _ H27.Y
          have p7 : w27.cell? ⟨w8.heap.size + 1, 7, none⟩ = some (.bool yG.p.more) := cell_of_row _ _ _ _ _ _ H27.Y
          have p8 : w27.cell? ⟨w8.heap.size + 1, 8, none⟩ = some (.slice yG.a yG.zs.length yG.c) := cell_of_row _ _ _ _ _ _ H27.Y
          go_wp2_with fail
          refine (KHP.out _ H27).mono ?_
          rintro e w28 ⟨rfl, b28⟩
          have s28 := b28.size
          have H28 := H27.below b28
          have S28 := S27.below b28
          clear p0 p1 p2 p3 p4 p5 p6 p7 p8 H27 S27 b28
          have FIN : Hid (Below w.heap.size w w28) := S28.B
          clear S28 H28
          go_wp2
          go_ret
          exact ⟨rfl, FIN.out⟩
      | true =>
        cases bB with
        | false =>
          show wpAnyH _ _ _ _ _ 8 _ _ _
          obtain ⟨hA1, hA2, hA3⟩ := hA rfl
          have hH := hw'
          simp only [c3Act, pf, cond_true, cond_false, Act.put, List.setIfInBounds_toArray, List.set_cons_zero, List.set_cons_succ]
          refine take_held 5 (some 119) (.tuple #[.agg #[.int .i64 nn, .slice oo us.length co], .agg #[.int .i64 yy.p.src, .int .i64 yy.p.dst, .int .i64 yy.p.kind, .int .i64 yy.p.id, .int .i64 yy.p.hops, .bool yy.p.whole, .int .i64 yy.p.off, .bool yy.p.more, .slice yy.a yy.zs.length yy.c], .int .i64 c]) rfl rfl (by kernel_rfl) (by kernel_rfl) (by kernel_rfl) (fun _ _ _ h => h) (by rfl) (fun w hS => by go_simp) hH ?_
          simp only [Act.put, List.setIfInBounds_toArray, List.set_cons_zero, List.set_cons_succ]
          refine take_held 6 (some 125) (.agg #[.int .i64 nn, .slice oo us.length co]) rfl rfl (by kernel_rfl) (by kernel_rfl) (by kernel_rfl) (fun _ _ _ h => h) (by rfl) (fun w hS => by go_simp) hH ?_
          simp only [Act.put, List.setIfInBounds_toArray, List.set_cons_zero, List.set_cons_succ]
          refine take_held 7 (some 126) (.agg #[.int .i64 yy.p.src, .int .i64 yy.p.dst, .int .i64 yy.p.kind, .int .i64 yy.p.id, .int .i64 yy.p.hops, .bool yy.p.whole, .int .i64 yy.p.off, .bool yy.p.more, .slice yy.a yy.zs.length yy.c]) rfl rfl (by kernel_rfl) (by kernel_rfl) (by kernel_rfl) (fun _ _ _ h => h) (by rfl) (fun w hS => by go_simp) hH ?_
          simp only [Act.put, List.setIfInBounds_toArray, List.set_cons_zero, List.set_cons_succ]
          refine take_held 8 (some 127) (.int .i64 c) rfl rfl (by kernel_rfl) (by kernel_rfl) (by kernel_rfl) (fun _ _ _ h => h) (by rfl) (fun w hS => by go_simp) hH ?_
          simp only [Act.put, List.setIfInBounds_toArray, List.set_cons_zero, List.set_cons_succ]
          refine wpAnyH_ready (rs := [10]) (by kernel_rfl) (by simp) ?_
          refine AllReadyH.cons rfl (fun K hK => ?_) AllReadyH.nil
          go_simp
          obtain ⟨v8, hz1⟩ : ∃ v, w'.alloc (.cells #[.int .i64 0, .int .i64 0, .int .i64 0, .int .i64 0, .int .i64 0, .bool false, .int .i64 0, .bool false, .slice none 0 0] 33) = v := ⟨_, rfl⟩
          have bzv8 : Below w'.heap.size w' v8 := by rw [← hz1]; exact Joins.below_alloc1 _ _
          have szv8 : v8.heap.size = w'.heap.size + 1 := by rw [← hz1]; simp
          have nzv8 : v8.heap[w'.heap.size]? = some (.cells #[.int .i64 0, .int .i64 0, .int .i64 0, .int .i64 0, .int .i64 0, .bool false, .int .i64 0, .bool false, .slice none 0 0] 33 (0, 0)) := by rw [← hz1]; exact heap_new _ _ _ rfl
          (first | rw [hz1] | skip)
          have hwv8 : Below w23.heap.size w23 v8 := hw'.trans (bzv8.mono (by omega))
          refine hK.out _ _ hwv8 (fun hH => ?_)
          clear hK K hz1
          (first | (simp only [List.setIfInBounds_toArray, List.set_cons_zero, List.set_cons_succ]) | skip)
          have fA : v8.heap[nA]? = some (.cells #[.int .i64 0, .slice none 0 0] 32 (0, 0)) := (bzv8.block _ (by omega)).trans hA1
          have fB : v8.heap[w'.heap.size]? = some (.cells #[.int .i64 0, .int .i64 0, .int .i64 0, .int .i64 0, .int .i64 0, .bool false, .int .i64 0, .bool false, .slice none 0 0] 33 (0, 0)) := nzv8
          have nAB : nA ≠ w'.heap.size := by omega
          have lA : w23.heap.size ≤ nA := hA2
          have lB : w23.heap.size ≤ w'.heap.size := by omega
          have a0 : v8.cell? ⟨nA, 0, none⟩ = some (.int .i64 0) := cell_of_row _ _ _ _ _ _ fA
          have a1 : v8.cell? ⟨nA, 1, none⟩ = some (.slice none 0 0) := cell_of_row _ _ _ _ _ _ fA
          have az : ∀ o, v8.frozen? ⟨nA, o, none⟩ = false := fun o => Joins.unfrozen_of_block fA o
          have tw : TAns v8 w23.heap.size nn kk oo co us yy := hTW.below bzv8
          refine wpAnyH_ready (rs := [11]) (by kernel_rfl) (by simp) ?_
          refine AllReadyH.cons rfl (fun K hK => ?_) AllReadyH.nil
          go_simp
          obtain ⟨v10, hz1⟩ : ∃ v, (v8.setCell ⟨nA, 0, none⟩ (.int .i64 nn)).setCell ⟨nA, 1, none⟩ (.slice oo us.length co) = v := ⟨_, rfl⟩
          have f10 : ∀ b, b ≠ nA → v10.heap[b]? = v8.heap[b]? := fun b hb => by rw [← hz1]; exact (Below.heap_setCell _ _ _ _ hb).trans (Below.heap_setCell _ _ _ _ hb)
          have c10 : v10.heap[nA]? = some (.cells #[.int .i64 nn, .slice oo us.length co] 32 (0, 0)) := by rw [← hz1]; exact set_at (o := 1) (set_at (o := 0) fA)
          have e10 : v10.os = v8.os ∧ v10.tape = v8.tape ∧ v10.output = v8.output ∧ v10.heap.size = v8.heap.size := by rw [← hz1]; exact ⟨by simp [World.setCell], by simp [World.setCell], by simp [World.setCell], by simp [World.setCell]⟩
          (first | rw [hz1] | skip)
          have hv10 : Below w23.heap.size w23 v10 := ⟨e10.1.trans hwv8.os, e10.2.1.trans hwv8.tape, e10.2.2.1.trans hwv8.output, by rw [e10.2.2.2]; exact hwv8.size, fun b hb => (f10 b (by omega)).trans (hwv8.block b hb)⟩
          refine hK.out _ _ hv10 (fun hH => ?_)
          clear hK K hz1 a0 a1 az
          (first | (simp only [List.setIfInBounds_toArray, List.set_cons_zero, List.set_cons_succ]) | skip)
          have d3 := (f10 (w'.heap.size) (by omega)).trans fB
          have bz : ∀ o, v10.frozen? ⟨w'.heap.size, o, none⟩ = false := fun o => Joins.unfrozen_of_block d3 o
          have p0 : v10.cell? ⟨w'.heap.size, 0, none⟩ = some (.int .i64 0) := cell_of_row _ _ _ _ _ _ d3
          have p1 : v10.cell? ⟨w'.heap.size, 1, none⟩ = some (.int .i64 0) := cell_of_row _ _ _ _ _ _ d3
          have p2 : v10.cell? ⟨w'.heap.size, 2, none⟩ = some (.int .i64 0) := cell_of_row _ _ _ _ _ _ d3
          have p3 : v10.cell? ⟨w'.heap.size, 3, none⟩ = some (.int .i64 0) := cell_of_row _ _ _ _ _ _ d3
          have p4 : v10.cell? ⟨w'.heap.size, 4, none⟩ = some (.int .i64 0) := cell_of_row _ _ _ _ _ _ d3
          have p5 : v10.cell? ⟨w'.heap.size, 5, none⟩ = some (.bool false) := cell_of_row _ _ _ _ _ _ d3
          have p6 : v10.cell? ⟨w'.heap.size, 6, none⟩ = some (.int .i64 0) := cell_of_row _ _ _ _ _ _ d3
          have p7 : v10.cell? ⟨w'.heap.size, 7, none⟩ = some (.bool false) := cell_of_row _ _ _ _ _ _ d3
          have p8 : v10.cell? ⟨w'.heap.size, 8, none⟩ = some (.slice none 0 0) := cell_of_row _ _ _ _ _ _ d3
          refine wpAnyH_ready (rs := [12]) (by kernel_rfl) (by simp) ?_
          refine AllReadyH.cons rfl (fun K hK => ?_) AllReadyH.nil
          go_simp
          obtain ⟨v11, hz1⟩ : ∃ v, (((((((((v10.setCell ⟨w'.heap.size, 0, none⟩ (.int .i64 yy.p.src)).setCell ⟨w'.heap.size, 1, none⟩ (.int .i64 yy.p.dst)).setCell ⟨w'.heap.size, 2, none⟩ (.int .i64 yy.p.kind)).setCell ⟨w'.heap.size, 3, none⟩ (.int .i64 yy.p.id)).setCell ⟨w'.heap.size, 4, none⟩ (.int .i64 yy.p.hops)).setCell ⟨w'.heap.size, 5, none⟩ (.bool yy.p.whole)).setCell ⟨w'.heap.size, 6, none⟩ (.int .i64 yy.p.off)).setCell ⟨w'.heap.size, 7, none⟩ (.bool yy.p.more)).setCell ⟨w'.heap.size, 8, none⟩ (.slice yy.a yy.zs.length yy.c)) = v := ⟨_, rfl⟩
          have f11 : ∀ b, b ≠ w'.heap.size → v11.heap[b]? = v10.heap[b]? := fun b hb => by rw [← hz1]; exact box_far9 v10 _ b hb _ _ _ _ _ _ _ _ _
          have c11 : v11.heap[w'.heap.size]? = some (.cells #[.int .i64 yy.p.src, .int .i64 yy.p.dst, .int .i64 yy.p.kind, .int .i64 yy.p.id, .int .i64 yy.p.hops, .bool yy.p.whole, .int .i64 yy.p.off, .bool yy.p.more, .slice yy.a yy.zs.length yy.c] 33 (0, 0)) := by rw [← hz1]; exact box_put9 _ _ _ _ _ _ _ _ _ d3
          have e11 : v11.os = v10.os ∧ v11.tape = v10.tape ∧ v11.output = v10.output ∧ v11.heap.size = v10.heap.size := by rw [← hz1]; exact ⟨by simp [World.setCell], by simp [World.setCell], by simp [World.setCell], box_size9 v10 _ _ _ _ _ _ _ _ _ _⟩
          (first | rw [hz1] | skip)
          have hv11 : Below w23.heap.size w23 v11 := ⟨e11.1.trans hv10.os, e11.2.1.trans hv10.tape, e11.2.2.1.trans hv10.output, by rw [e11.2.2.2]; exact hv10.size, fun b hb => (f11 b (by omega)).trans (hv10.block b hb)⟩
          refine hK.out _ _ hv11 (fun hH => ?_)
          clear hK K hz1 p0 p1 p2 p3 p4 p5 p6 p7 p8 bz
          (first | (simp only [List.setIfInBounds_toArray, List.set_cons_zero, List.set_cons_succ]) | skip)
          refine take_held 13 (some 19) (.int .i64 c) rfl rfl (by kernel_rfl) (by kernel_rfl) (by kernel_rfl) (fun _ _ _ h => h) (by rfl) (fun w hS => by go_simp) hH ?_
          simp only [Act.put, List.setIfInBounds_toArray, List.set_cons_zero, List.set_cons_succ]
          refine wpAnyH_done (by kernel_rfl) ?_ _
          have G : Got w23 v11 (nA) (w'.heap.size) nn oo co us yy kk := ⟨hv11, (f11 _ nAB).trans c10, c11, lA, lB, tw.kept (fun b hb => (f11 b (by have := KAB.out.1 b hb; omega)).trans (f10 b (by have := KAB.out.1 b hb; omega))) (fun b hb => (f11 b (by have := KAB.out.2 b hb; omega)).trans (f10 b (by have := KAB.out.2 b hb; omega)))⟩
          clear hH f10 f11 c10 c11 e10 e11 hv11 hv10 tw d3 fA fB
          obtain ⟨w24, hw24⟩ : ∃ v, v11 = v := ⟨_, rfl⟩
          rw [hw24] at G ⊢
          clear hw24
          obtain ⟨rfl, rfl, hyk2, rfl⟩ := HTW.out.same hTP (ht1.trans HK1.out.symm) rfl
          have S24 := S23.below G.below
          have H24 := H23.below G.below
          have s24 := G.below.size
          have lC := lt_of_block G.boxA
          have lD := lt_of_block G.boxB
          have K25 : Hid (tsW.map SV.key = us.map SV.key) := S24.T.keys.trans G.ans.keys.symm
          have KEH : Hid (∀ U : World, ROk U yy → ROk U yW → Calls Tryz.prog 12 #[.agg #[.int .i64 yy.p.src, .int .i64 yy.p.dst, .int .i64 yy.p.kind, .int .i64 yy.p.id, .int .i64 yy.p.hops, .bool yy.p.whole, .int .i64 yy.p.off, .bool yy.p.more, .slice yy.a yy.zs.length yy.c], .agg #[.int .i64 yW.p.src, .int .i64 yW.p.dst, .int .i64 yW.p.kind, .int .i64 yW.p.id, .int .i64 yW.p.hops, .bool yW.p.whole, .int .i64 yW.p.off, .bool yW.p.more, .slice yW.a yW.zs.length yW.c]] U fun e w' => e = .returned (.bool true) ∧ Below U.heap.size U w') := fun U h1 h2 => by
            have h := eqPacket_rv yy yW U h1 h2 hyk2.symm
            unfold RV.val0 Pk.val at h
            exact h
          clear hTP ht1 KWb HPb HAb Hb S23 H23 hyk2 KAB
          have g0 : w24.cell? ⟨nA, 0, none⟩ = some (.int .i64 nw) := cell_of_row _ _ _ _ _ _ G.boxA
          have g1 : w24.cell? ⟨nA, 1, none⟩ = some (.slice oo us.length co) := cell_of_row _ _ _ _ _ _ G.boxA
          have z0 : w24.cell? ⟨zA, 0, none⟩ = some (.int .i64 nw) := cell_of_row _ _ _ _ _ _ S24.Q
          have z1 : w24.cell? ⟨zA, 1, none⟩ = some (.slice oW tsW.length cW) := cell_of_row _ _ _ _ _ _ S24.Q
          go_wp2_with fail
          refine (eqBench_q nw oo oW co cW us tsW _ G.ans.ans.slq S24.T.ans.slq K25.out (by have := G.ans.len; omega)).mono ?_
          rintro e w25 ⟨rfl, b25⟩
          have s25 := b25.size
          have S25 := S24.below b25
          have H25 := H24.below b25
          have hD25 := (b25.block _ lD).trans G.boxB
          have rH25 := (G.ans.data.below b25).rok
          clear g0 g1 z0 z1 S24 H24 G b25
          have p0 : w25.cell? ⟨w'.heap.size, 0, none⟩ = some (.int .i64 yy.p.src) := cell_of_row _ _ _ _ _ _ hD25
          have p1 : w25.cell? ⟨w'.heap.size, 1, none⟩ = some (.int .i64 yy.p.dst) := cell_of_row _ _ _ _ _ _ hD25
          have p2 : w25.cell? ⟨w'.heap.size, 2, none⟩ = some (.int .i64 yy.p.kind) := cell_of_row _ _ _ _ _ _ hD25
          have p3 : w25.cell? ⟨w'.heap.size, 3, none⟩ = some (.int .i64 yy.p.id) := cell_of_row _ _ _ _ _ _ hD25
          have p4 : w25.cell? ⟨w'.heap.size, 4, none⟩ = some (.int .i64 yy.p.hops) := cell_of_row _ _ _ _ _ _ hD25
          have p5 : w25.cell? ⟨w'.heap.size, 5, none⟩ = some (.bool yy.p.whole) := cell_of_row _ _ _ _ _ _ hD25
          have p6 : w25.cell? ⟨w'.heap.size, 6, none⟩ = some (.int .i64 yy.p.off) := cell_of_row _ _ _ _ _ _ hD25
          have p7 : w25.cell? ⟨w'.heap.size, 7, none⟩ = some (.bool yy.p.more) := cell_of_row _ _ _ _ _ _ hD25
          have p8 : w25.cell? ⟨w'.heap.size, 8, none⟩ = some (.slice yy.a yy.zs.length yy.c) := cell_of_row _ _ _ _ _ _ hD25
          have r0 : w25.cell? ⟨zB, 0, none⟩ = some (.int .i64 yW.p.src) := cell_of_row _ _ _ _ _ _ S25.Y
          have r1 : w25.cell? ⟨zB, 1, none⟩ = some (.int .i64 yW.p.dst) := cell_of_row _ _ _ _ _ _ S25.Y
          have r2 : w25.cell? ⟨zB, 2, none⟩ = some (.int .i64 yW.p.kind) := cell_of_row _ _ _ _ _ _ S25.Y
          have r3 : w25.cell? ⟨zB, 3, none⟩ = some (.int .i64 yW.p.id) := cell_of_row _ _ _ _ _ _ S25.Y
          have r4 : w25.cell? ⟨zB, 4, none⟩ = some (.int .i64 yW.p.hops) := cell_of_row _ _ _ _ _ _ S25.Y
          have r5 : w25.cell? ⟨zB, 5, none⟩ = some (.bool yW.p.whole) := cell_of_row _ _ _ _ _ _ S25.Y
          have r6 : w25.cell? ⟨zB, 6, none⟩ = some (.int .i64 yW.p.off) := cell_of_row _ _ _ _ _ _ S25.Y
          have r7 : w25.cell? ⟨zB, 7, none⟩ = some (.bool yW.p.more) := cell_of_row _ _ _ _ _ _ S25.Y
          have r8 : w25.cell? ⟨zB, 8, none⟩ = some (.slice yW.a yW.zs.length yW.c) := cell_of_row _ _ _ _ _ _ S25.Y
          go_wp2_with fail
          refine (KEH.out _ rH25 S25.T.data.rok).mono ?_
          rintro e w26 ⟨rfl, b26⟩
          have s26 := b26.size
          have S26 := S25.below b26
          have H26 := H25.below b26
          clear p0 p1 p2 p3 p4 p5 p6 p7 p8 r0 r1 r2 r3 r4 r5 r6 r7 r8 S25 H25 hD25 rH25 b26
          have g0 : w26.cell? ⟨w8.heap.size, 0, none⟩ = some (.int .i64 nw) := cell_of_row _ _ _ _ _ _ H26.G
          have g1 : w26.cell? ⟨w8.heap.size, 1, none⟩ = some (.slice oG tsG.length cG) := cell_of_row _ _ _ _ _ _ H26.G
          go_wp2_with fail
          refine (KHB.out _ H26).mono ?_
          rintro e w27 ⟨rfl, b27⟩
          have s27 := b27.size
          have H27 := H26.below b27
          have S27 := S26.below b27
          clear g0 g1 H26 S26 b27
          have p0 : w27.cell? ⟨w8.heap.size + 1, 0, none⟩ = some (.int .i64 yG.p.src) := cell_of_row _ _ _ _ _ _ H27.Y
          have p1 : w27.cell? ⟨w8.heap.size + 1, 1, none⟩ = some (.int .i64 yG.p.dst) := cell_of_row _ _ _ _ _ _ H27.Y
          have p2 : w27.cell? ⟨w8.heap.size + 1, 2, none⟩ = some (.int .i64 yG.p.kind) := cell_of_row _ _ _ _ _ _ H27.Y
          have p3 : w27.cell? ⟨w8.heap.size + 1, 3, none⟩ = some (.int .i64 yG.p.id) := cell_of_row _ _ _ _ _ _ H27.Y
          have p4 : w27.cell? ⟨w8.heap.size + 1, 4, none⟩ = some (.int .i64 yG.p.hops) := cell_of_row _ _ _ _ _ _ H27.Y
          have p5 : w27.cell? ⟨w8.heap.size + 1, 5, none⟩ = some (.bool yG.p.whole) := cell_of_row _ _ _ _ _ _ H27.Y
          have p6 : w27.cell? ⟨w8.heap.size + 1, 6, none⟩ = some (.int .i64 yG.p.off) := cell_of_row _ _ _ _ _ _ H27.Y
          have p7 : w27.cell? ⟨w8.heap.size + 1, 7, none⟩ = some (.bool yG.p.more) := cell_of_row _ _ _ _ _ _ H27.Y
          have p8 : w27.cell? ⟨w8.heap.size + 1, 8, none⟩ = some (.slice yG.a yG.zs.length yG.c) := cell_of_row _ _ _ _ _ _ H27.Y
          go_wp2_with fail
          refine (KHP.out _ H27).mono ?_
          rintro e w28 ⟨rfl, b28⟩
          have s28 := b28.size
          have H28 := H27.below b28
          have S28 := S27.below b28
          clear p0 p1 p2 p3 p4 p5 p6 p7 p8 H27 S27 b28
          have FIN : Hid (Below w.heap.size w w28) := S28.B
          clear S28 H28
          go_wp2
          go_ret
          exact ⟨rfl, FIN.out⟩
        | true =>
          show wpAnyH _ _ _ _ _ 7 _ _ _
          obtain ⟨hA1, hA2, hA3⟩ := hA rfl
          obtain ⟨hB1, hB2, hB3⟩ := hB rfl
          have hneq := hne' rfl rfl
          have hH := hw'
          simp only [c3Act, pf, cond_true, Act.put, List.setIfInBounds_toArray, List.set_cons_zero, List.set_cons_succ]
          refine take_held 5 (some 119) (.tuple #[.agg #[.int .i64 nn, .slice oo us.length co], .agg #[.int .i64 yy.p.src, .int .i64 yy.p.dst, .int .i64 yy.p.kind, .int .i64 yy.p.id, .int .i64 yy.p.hops, .bool yy.p.whole, .int .i64 yy.p.off, .bool yy.p.more, .slice yy.a yy.zs.length yy.c], .int .i64 c]) rfl rfl (by kernel_rfl) (by kernel_rfl) (by kernel_rfl) (fun _ _ _ h => h) (by rfl) (fun w hS => by go_simp) hH ?_
          simp only [Act.put, List.setIfInBounds_toArray, List.set_cons_zero, List.set_cons_succ]
          refine take_held 6 (some 125) (.agg #[.int .i64 nn, .slice oo us.length co]) rfl rfl (by kernel_rfl) (by kernel_rfl) (by kernel_rfl) (fun _ _ _ h => h) (by rfl) (fun w hS => by go_simp) hH ?_
          simp only [Act.put, List.setIfInBounds_toArray, List.set_cons_zero, List.set_cons_succ]
          refine take_held 7 (some 126) (.agg #[.int .i64 yy.p.src, .int .i64 yy.p.dst, .int .i64 yy.p.kind, .int .i64 yy.p.id, .int .i64 yy.p.hops, .bool yy.p.whole, .int .i64 yy.p.off, .bool yy.p.more, .slice yy.a yy.zs.length yy.c]) rfl rfl (by kernel_rfl) (by kernel_rfl) (by kernel_rfl) (fun _ _ _ h => h) (by rfl) (fun w hS => by go_simp) hH ?_
          simp only [Act.put, List.setIfInBounds_toArray, List.set_cons_zero, List.set_cons_succ]
          refine take_held 8 (some 127) (.int .i64 c) rfl rfl (by kernel_rfl) (by kernel_rfl) (by kernel_rfl) (fun _ _ _ h => h) (by rfl) (fun w hS => by go_simp) hH ?_
          simp only [Act.put, List.setIfInBounds_toArray, List.set_cons_zero, List.set_cons_succ]
          have fA : w'.heap[nA]? = some (.cells #[.int .i64 0, .slice none 0 0] 32 (0, 0)) := hA1
          have fB : w'.heap[nB]? = some (.cells #[.int .i64 0, .int .i64 0, .int .i64 0, .int .i64 0, .int .i64 0, .bool false, .int .i64 0, .bool false, .slice none 0 0] 33 (0, 0)) := hB1
          have nAB : nA ≠ nB := hneq
          have lA : w23.heap.size ≤ nA := hA2
          have lB : w23.heap.size ≤ nB := hB2
          have a0 : w'.cell? ⟨nA, 0, none⟩ = some (.int .i64 0) := cell_of_row _ _ _ _ _ _ fA
          have a1 : w'.cell? ⟨nA, 1, none⟩ = some (.slice none 0 0) := cell_of_row _ _ _ _ _ _ fA
          have az : ∀ o, w'.frozen? ⟨nA, o, none⟩ = false := fun o => Joins.unfrozen_of_block fA o
          have tw : TAns w' w23.heap.size nn kk oo co us yy := hTW
          refine wpAnyH_ready (rs := [11]) (by kernel_rfl) (by simp) ?_
          refine AllReadyH.cons rfl (fun K hK => ?_) AllReadyH.nil
          go_simp
          obtain ⟨v10, hz1⟩ : ∃ v, (w'.setCell ⟨nA, 0, none⟩ (.int .i64 nn)).setCell ⟨nA, 1, none⟩ (.slice oo us.length co) = v := ⟨_, rfl⟩
          have f10 : ∀ b, b ≠ nA → v10.heap[b]? = w'.heap[b]? := fun b hb => by rw [← hz1]; exact (Below.heap_setCell _ _ _ _ hb).trans (Below.heap_setCell _ _ _ _ hb)
          have c10 : v10.heap[nA]? = some (.cells #[.int .i64 nn, .slice oo us.length co] 32 (0, 0)) := by rw [← hz1]; exact set_at (o := 1) (set_at (o := 0) fA)
          have e10 : v10.os = w'.os ∧ v10.tape = w'.tape ∧ v10.output = w'.output ∧ v10.heap.size = w'.heap.size := by rw [← hz1]; exact ⟨by simp [World.setCell], by simp [World.setCell], by simp [World.setCell], by simp [World.setCell]⟩
          (first | rw [hz1] | skip)
          have hv10 : Below w23.heap.size w23 v10 := ⟨e10.1.trans hw'.os, e10.2.1.trans hw'.tape, e10.2.2.1.trans hw'.output, by rw [e10.2.2.2]; exact hw'.size, fun b hb => (f10 b (by omega)).trans (hw'.block b hb)⟩
          refine hK.out _ _ hv10 (fun hH => ?_)
          clear hK K hz1 a0 a1 az
          (first | (simp only [List.setIfInBounds_toArray, List.set_cons_zero, List.set_cons_succ]) | skip)
          have d3 := (f10 (nB) (by omega)).trans fB
          have bz : ∀ o, v10.frozen? ⟨nB, o, none⟩ = false := fun o => Joins.unfrozen_of_block d3 o
          have p0 : v10.cell? ⟨nB, 0, none⟩ = some (.int .i64 0) := cell_of_row _ _ _ _ _ _ d3
          have p1 : v10.cell? ⟨nB, 1, none⟩ = some (.int .i64 0) := cell_of_row _ _ _ _ _ _ d3
          have p2 : v10.cell? ⟨nB, 2, none⟩ = some (.int .i64 0) := cell_of_row _ _ _ _ _ _ d3
          have p3 : v10.cell? ⟨nB, 3, none⟩ = some (.int .i64 0) := cell_of_row _ _ _ _ _ _ d3
          have p4 : v10.cell? ⟨nB, 4, none⟩ = some (.int .i64 0) := cell_of_row _ _ _ _ _ _ d3
          have p5 : v10.cell? ⟨nB, 5, none⟩ = some (.bool false) := cell_of_row _ _ _ _ _ _ d3
          have p6 : v10.cell? ⟨nB, 6, none⟩ = some (.int .i64 0) := cell_of_row _ _ _ _ _ _ d3
          have p7 : v10.cell? ⟨nB, 7, none⟩ = some (.bool false) := cell_of_row _ _ _ _ _ _ d3
          have p8 : v10.cell? ⟨nB, 8, none⟩ = some (.slice none 0 0) := cell_of_row _ _ _ _ _ _ d3
          refine wpAnyH_ready (rs := [12]) (by kernel_rfl) (by simp) ?_
          refine AllReadyH.cons rfl (fun K hK => ?_) AllReadyH.nil
          go_simp
          obtain ⟨v11, hz1⟩ : ∃ v, (((((((((v10.setCell ⟨nB, 0, none⟩ (.int .i64 yy.p.src)).setCell ⟨nB, 1, none⟩ (.int .i64 yy.p.dst)).setCell ⟨nB, 2, none⟩ (.int .i64 yy.p.kind)).setCell ⟨nB, 3, none⟩ (.int .i64 yy.p.id)).setCell ⟨nB, 4, none⟩ (.int .i64 yy.p.hops)).setCell ⟨nB, 5, none⟩ (.bool yy.p.whole)).setCell ⟨nB, 6, none⟩ (.int .i64 yy.p.off)).setCell ⟨nB, 7, none⟩ (.bool yy.p.more)).setCell ⟨nB, 8, none⟩ (.slice yy.a yy.zs.length yy.c)) = v := ⟨_, rfl⟩
          have f11 : ∀ b, b ≠ nB → v11.heap[b]? = v10.heap[b]? := fun b hb => by rw [← hz1]; exact box_far9 v10 _ b hb _ _ _ _ _ _ _ _ _
          have c11 : v11.heap[nB]? = some (.cells #[.int .i64 yy.p.src, .int .i64 yy.p.dst, .int .i64 yy.p.kind, .int .i64 yy.p.id, .int .i64 yy.p.hops, .bool yy.p.whole, .int .i64 yy.p.off, .bool yy.p.more, .slice yy.a yy.zs.length yy.c] 33 (0, 0)) := by rw [← hz1]; exact box_put9 _ _ _ _ _ _ _ _ _ d3
          have e11 : v11.os = v10.os ∧ v11.tape = v10.tape ∧ v11.output = v10.output ∧ v11.heap.size = v10.heap.size := by rw [← hz1]; exact ⟨by simp [World.setCell], by simp [World.setCell], by simp [World.setCell], box_size9 v10 _ _ _ _ _ _ _ _ _ _⟩
          (first | rw [hz1] | skip)
          have hv11 : Below w23.heap.size w23 v11 := ⟨e11.1.trans hv10.os, e11.2.1.trans hv10.tape, e11.2.2.1.trans hv10.output, by rw [e11.2.2.2]; exact hv10.size, fun b hb => (f11 b (by omega)).trans (hv10.block b hb)⟩
          refine hK.out _ _ hv11 (fun hH => ?_)
          clear hK K hz1 p0 p1 p2 p3 p4 p5 p6 p7 p8 bz
          (first | (simp only [List.setIfInBounds_toArray, List.set_cons_zero, List.set_cons_succ]) | skip)
          refine take_held 13 (some 19) (.int .i64 c) rfl rfl (by kernel_rfl) (by kernel_rfl) (by kernel_rfl) (fun _ _ _ h => h) (by rfl) (fun w hS => by go_simp) hH ?_
          simp only [Act.put, List.setIfInBounds_toArray, List.set_cons_zero, List.set_cons_succ]
          refine wpAnyH_done (by kernel_rfl) ?_ _
          have G : Got w23 v11 (nA) (nB) nn oo co us yy kk := ⟨hv11, (f11 _ nAB).trans c10, c11, lA, lB, tw.kept (fun b hb => (f11 b (by have := KAB.out.1 b hb; omega)).trans (f10 b (by have := KAB.out.1 b hb; omega))) (fun b hb => (f11 b (by have := KAB.out.2 b hb; omega)).trans (f10 b (by have := KAB.out.2 b hb; omega)))⟩
          clear hH f10 f11 c10 c11 e10 e11 hv11 hv10 tw d3 fA fB
          obtain ⟨w24, hw24⟩ : ∃ v, v11 = v := ⟨_, rfl⟩
          rw [hw24] at G ⊢
          clear hw24
          obtain ⟨rfl, rfl, hyk2, rfl⟩ := HTW.out.same hTP (ht1.trans HK1.out.symm) rfl
          have S24 := S23.below G.below
          have H24 := H23.below G.below
          have s24 := G.below.size
          have lC := lt_of_block G.boxA
          have lD := lt_of_block G.boxB
          have K25 : Hid (tsW.map SV.key = us.map SV.key) := S24.T.keys.trans G.ans.keys.symm
          have KEH : Hid (∀ U : World, ROk U yy → ROk U yW → Calls Tryz.prog 12 #[.agg #[.int .i64 yy.p.src, .int .i64 yy.p.dst, .int .i64 yy.p.kind, .int .i64 yy.p.id, .int .i64 yy.p.hops, .bool yy.p.whole, .int .i64 yy.p.off, .bool yy.p.more, .slice yy.a yy.zs.length yy.c], .agg #[.int .i64 yW.p.src, .int .i64 yW.p.dst, .int .i64 yW.p.kind, .int .i64 yW.p.id, .int .i64 yW.p.hops, .bool yW.p.whole, .int .i64 yW.p.off, .bool yW.p.more, .slice yW.a yW.zs.length yW.c]] U fun e w' => e = .returned (.bool true) ∧ Below U.heap.size U w') := fun U h1 h2 => by
            have h := eqPacket_rv yy yW U h1 h2 hyk2.symm
            unfold RV.val0 Pk.val at h
            exact h
          clear hTP ht1 KWb HPb HAb Hb S23 H23 hyk2 KAB
          have g0 : w24.cell? ⟨nA, 0, none⟩ = some (.int .i64 nw) := cell_of_row _ _ _ _ _ _ G.boxA
          have g1 : w24.cell? ⟨nA, 1, none⟩ = some (.slice oo us.length co) := cell_of_row _ _ _ _ _ _ G.boxA
          have z0 : w24.cell? ⟨zA, 0, none⟩ = some (.int .i64 nw) := cell_of_row _ _ _ _ _ _ S24.Q
          have z1 : w24.cell? ⟨zA, 1, none⟩ = some (.slice oW tsW.length cW) := cell_of_row _ _ _ _ _ _ S24.Q
          go_wp2_with fail
          refine (eqBench_q nw oo oW co cW us tsW _ G.ans.ans.slq S24.T.ans.slq K25.out (by have := G.ans.len; omega)).mono ?_
          rintro e w25 ⟨rfl, b25⟩
          have s25 := b25.size
          have S25 := S24.below b25
          have H25 := H24.below b25
          have hD25 := (b25.block _ lD).trans G.boxB
          have rH25 := (G.ans.data.below b25).rok
          clear g0 g1 z0 z1 S24 H24 G b25
          have p0 : w25.cell? ⟨nB, 0, none⟩ = some (.int .i64 yy.p.src) := cell_of_row _ _ _ _ _ _ hD25
          have p1 : w25.cell? ⟨nB, 1, none⟩ = some (.int .i64 yy.p.dst) := cell_of_row _ _ _ _ _ _ hD25
          have p2 : w25.cell? ⟨nB, 2, none⟩ = some (.int .i64 yy.p.kind) := cell_of_row _ _ _ _ _ _ hD25
          have p3 : w25.cell? ⟨nB, 3, none⟩ = some (.int .i64 yy.p.id) := cell_of_row _ _ _ _ _ _ hD25
          have p4 : w25.cell? ⟨nB, 4, none⟩ = some (.int .i64 yy.p.hops) := cell_of_row _ _ _ _ _ _ hD25
          have p5 : w25.cell? ⟨nB, 5, none⟩ = some (.bool yy.p.whole) := cell_of_row _ _ _ _ _ _ hD25
          have p6 : w25.cell? ⟨nB, 6, none⟩ = some (.int .i64 yy.p.off) := cell_of_row _ _ _ _ _ _ hD25
          have p7 : w25.cell? ⟨nB, 7, none⟩ = some (.bool yy.p.more) := cell_of_row _ _ _ _ _ _ hD25
          have p8 : w25.cell? ⟨nB, 8, none⟩ = some (.slice yy.a yy.zs.length yy.c) := cell_of_row _ _ _ _ _ _ hD25
          have r0 : w25.cell? ⟨zB, 0, none⟩ = some (.int .i64 yW.p.src) := cell_of_row _ _ _ _ _ _ S25.Y
          have r1 : w25.cell? ⟨zB, 1, none⟩ = some (.int .i64 yW.p.dst) := cell_of_row _ _ _ _ _ _ S25.Y
          have r2 : w25.cell? ⟨zB, 2, none⟩ = some (.int .i64 yW.p.kind) := cell_of_row _ _ _ _ _ _ S25.Y
          have r3 : w25.cell? ⟨zB, 3, none⟩ = some (.int .i64 yW.p.id) := cell_of_row _ _ _ _ _ _ S25.Y
          have r4 : w25.cell? ⟨zB, 4, none⟩ = some (.int .i64 yW.p.hops) := cell_of_row _ _ _ _ _ _ S25.Y
          have r5 : w25.cell? ⟨zB, 5, none⟩ = some (.bool yW.p.whole) := cell_of_row _ _ _ _ _ _ S25.Y
          have r6 : w25.cell? ⟨zB, 6, none⟩ = some (.int .i64 yW.p.off) := cell_of_row _ _ _ _ _ _ S25.Y
          have r7 : w25.cell? ⟨zB, 7, none⟩ = some (.bool yW.p.more) := cell_of_row _ _ _ _ _ _ S25.Y
          have r8 : w25.cell? ⟨zB, 8, none⟩ = some (.slice yW.a yW.zs.length yW.c) := cell_of_row _ _ _ _ _ _ S25.Y
          go_wp2_with fail
          refine (KEH.out _ rH25 S25.T.data.rok).mono ?_
          rintro e w26 ⟨rfl, b26⟩
          have s26 := b26.size
          have S26 := S25.below b26
          have H26 := H25.below b26
          clear p0 p1 p2 p3 p4 p5 p6 p7 p8 r0 r1 r2 r3 r4 r5 r6 r7 r8 S25 H25 hD25 rH25 b26
          have g0 : w26.cell? ⟨w8.heap.size, 0, none⟩ = some (.int .i64 nw) := cell_of_row _ _ _ _ _ _ H26.G
          have g1 : w26.cell? ⟨w8.heap.size, 1, none⟩ = some (.slice oG tsG.length cG) := cell_of_row _ _ _ _ _ _ H26.G
          go_wp2_with fail
          refine (KHB.out _ H26).mono ?_
          rintro e w27 ⟨rfl, b27⟩
          have s27 := b27.size
          have H27 := H26.below b27
          have S27 := S26.below b27
          clear g0 g1 H26 S26 b27
          have p0 : w27.cell? ⟨w8.heap.size + 1, 0, none⟩ = some (.int .i64 yG.p.src) := cell_of_row _ _ _ _ _ _ H27.Y
          have p1 : w27.cell? ⟨w8.heap.size + 1, 1, none⟩ = some (.int .i64 yG.p.dst) := cell_of_row _ _ _ _ _ _ H27.Y
          have p2 : w27.cell? ⟨w8.heap.size + 1, 2, none⟩ = some (.int .i64 yG.p.kind) := cell_of_row _ _ _ _ _ _ H27.Y
          have p3 : w27.cell? ⟨w8.heap.size + 1, 3, none⟩ = some (.int .i64 yG.p.id) := cell_of_row _ _ _ _ _ _ H27.Y
          have p4 : w27.cell? ⟨w8.heap.size + 1, 4, none⟩ = some (.int .i64 yG.p.hops) := cell_of_row _ _ _ _ _ _ H27.Y
          have p5 : w27.cell? ⟨w8.heap.size + 1, 5, none⟩ = some (.bool yG.p.whole) := cell_of_row _ _ _ _ _ _ H27.Y
          have p6 : w27.cell? ⟨w8.heap.size + 1, 6, none⟩ = some (.int .i64 yG.p.off) := cell_of_row _ _ _ _ _ _ H27.Y
          have p7 : w27.cell? ⟨w8.heap.size + 1, 7, none⟩ = some (.bool yG.p.more) := cell_of_row _ _ _ _ _ _ H27.Y
          have p8 : w27.cell? ⟨w8.heap.size + 1, 8, none⟩ = some (.slice yG.a yG.zs.length yG.c) := cell_of_row _ _ _ _ _ _ H27.Y
          go_wp2_with fail
          refine (KHP.out _ H27).mono ?_
          rintro e w28 ⟨rfl, b28⟩
          have s28 := b28.size
          have H28 := H27.below b28
          have S28 := S27.below b28
          clear p0 p1 p2 p3 p4 p5 p6 p7 p8 H27 S27 b28
          have FIN : Hid (Below w.heap.size w w28) := S28.B
          clear S28 H28
          go_wp2
          go_ret
          exact ⟨rfl, FIN.out⟩
end Go.Proofs.YtjbkgmbakjnlhabGreatDoor
