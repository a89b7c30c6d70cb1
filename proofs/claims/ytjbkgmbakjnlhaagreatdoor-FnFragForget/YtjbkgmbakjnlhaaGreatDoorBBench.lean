import Derived.Test.YtjbkgmbakjnlhaaGreatDoorPartBg
namespace Go.Proofs.YtjbkgmbakjnlhaaGreatDoor
set_option maxRecDepth 100000
open Go.RowKit
set_option maxHeartbeats 12800000 in
theorem l5Bench_any (rb N : Nat) (w : World) (hR : Rdr w rb N) (hN : N ≤ 100) : Calls Tryz.prog 85 #[.pointer (some ⟨rb, 0, none⟩)] w (BenchPost rb (N + 400000) w) := by
 have hrl := hR.lt
 have HR : Hid (Rdr w rb N) := hR
 clear hR
 go_enter Tryz.func85, Tryz.ntmps85
 go_wp2_with fail
 have R0 : Hid (Rdr ((w.alloc (.cells #[.int .i64 0, .slice none 0 0] 27)).alloc (.cells #[.int .i64 0, .int .i64 0, .int .i64 7, .int .i64 999997] 3)) rb N) := HR.out.below (Joins.below_alloc2 _ _ _)
 refine (pick_any rb N 4 _ R0.out (by omega) (by omega) (by omega)).mono ?_
 rintro e w1 ⟨x, rfl, x0, x1, -, R1, G1⟩
 have x2 := x1 (by omega)
 obtain ⟨k, rfl⟩ := Int.eq_ofNat_of_zero_le x0
 have hk4 : (k : Int) < 4 := x2
 have c2 : w1.heap[w.heap.size]? = some (.cells #[.int .i64 0, .slice none 0 0] 27 (0, 0)) := (G1.block _ (by simp; omega) (fun e => by have := Option.some.inj e; omega)).trans ((zHa (by simp)).trans (heap_new _ _ _ rfl))
 have ci : w1.heap[w.heap.size + 1]? = some (.cells #[.int .i64 0, .int .i64 0, .int .i64 7, .int .i64 999997] 3 (0, 0)) := (G1.block _ (by simp) (fun e => by have := Option.some.inj e; omega)).trans (heap_new _ _ _ (by simp))
 obtain ⟨now0, hnow, hnb⟩ : ∃ now0 : Int, w1.cell? ⟨w.heap.size + 1, k, none⟩ = some (.int .i64 now0) ∧ (0 ≤ now0 ∧ now0 ≤ 1000000) := by
  rw [zCr ci]
  have hk : k = 0 ∨ k = 1 ∨ k = 2 ∨ k = 3 := by omega
  rcases hk with rfl | rfl | rfl | rfl
  ·exact ⟨0, rfl, by omega⟩
  ·exact ⟨0, rfl, by omega⟩
  ·exact ⟨7, rfl, by omega⟩
  ·exact ⟨999997, rfl, by omega⟩
 have gw : w.grownBy w1 (some rb) := grown_trans (grown_of_below (Joins.below_alloc2 _ _ _)) G1
 have s1 := lt_of_block ci
 have S0 : Hid (BS w rb (N + 1) w.heap.size w1.heap.size now0 none 0 [] (w1.alloc (.cells #[.int .i64 now0, .slice none 0 0] 27))) := (show BS _ _ _ _ _ _ _ _ _ _ from ⟨grown_trans gw (grown_of_below (zBa _ _)), R1.below (zBa _ _), (zHa (by omega)).trans c2, heap_new _ _ _ rfl, Or.inl ⟨rfl, rfl⟩, by simp, by simp, by omega, Nat.le_refl _, by omega, by omega, ⟨hnb, by simp, fun j s h => by simp at h⟩⟩)
 clear x0 x1 x2 c2 ci R0 G1 R1 gw
 go_wp2_with fail
 refine (pick_any rb (N + 1) 9 _ S0.out.rd (by omega) (by omega) (by omega)).mono ?_
 rintro e w2 ⟨y, rfl, y0, y1, -, R2, G2⟩
 have y2 := y1 (by omega)
 obtain ⟨n0, rfl⟩ := Int.eq_ofNat_of_zero_le y0
 have hn8 : n0 ≤ 8 := by omega
 have S1 : Hid (BS w rb (N + 2) w.heap.size w1.heap.size now0 none 0 [] w2) := S0.out.grown G2 R2 hrl
 clear y0 y1 y2 R2 G2 S0 hnow
 go_wp2_with fail
 go_loopw [4] (fun i wr => ∃ (j M : Nat) (now : Int) (oa : Option Addr) (cl : Nat) (ss : List SV), j ≤ 8 ∧ i = .int .i64 j ∧ M + 41000 * j ≤ N + 330000 ∧ Hid (BS w rb M w.heap.size w1.heap.size now oa cl ss wr)) (fun i _ => (intOf i).toNat)
 case atStart => exact ⟨n0, N + 2, now0, none, 0, [], hn8, rfl, by omega, S1.out⟩
 case round =>
  obtain ⟨j, M, now, oa, cl, ss, hj, rfl, hM, HS⟩ := hrel
  by_cases hj0 : 0 < j
  ·have hj1 : (0 : Int) < (j : Int) := by omega
   go_wp2_with fail
   refine (pick_any rb M 4 _ HS.out.rd (by omega) (by omega) (by omega)).mono ?_
   rintro e w3 ⟨z, rfl, z0, z1, -, R3, G3⟩
   have S3 : Hid (BS w rb (M + 1) w.heap.size w1.heap.size now oa cl ss w3) := HS.out.grown G3 R3 hrl
   clear R3 G3 HS z1
   by_cases hz0 : z = 0
   ·subst hz0
    have r0 : w3.cell? ⟨w1.heap.size, 0, none⟩ = some (.int .i64 now) := zCr S3.out.r3
    have r1 : w3.cell? ⟨w1.heap.size, 1, none⟩ = some (.slice oa ss.length cl) := zCr S3.out.r3
    go_wp2_with fail
    refine (play_tick S3.out hrl).mono ?_
    rintro e w4 ⟨now', oa', cl', ss', c, rfl, S4, hbt, hl4, hlc, hlm, hnb'⟩
    have S5 : Hid (BS w rb (M + 1) w.heap.size w1.heap.size now' oa' cl' ss' ((w4.setCell ⟨w1.heap.size, 0, none⟩ (.int .i64 now')).setCell ⟨w1.heap.size, 1, none⟩ (.slice oa' ss'.length cl'))) := S4.put hbt hl4 hlc hlm hnb' hrl
    have fz : ∀ o, w4.frozen? ⟨w1.heap.size, o, none⟩ = false := fun o => zUf S4.r3 o
    have q0 : w4.cell? ⟨w1.heap.size, 0, none⟩ = some (.int .i64 now) := zCr S4.r3
    have q1 : w4.cell? ⟨w1.heap.size, 1, none⟩ = some (.slice oa ss.length cl) := zCr S4.r3
    have l4 := lt_of_block S4.r3
    clear S4 hbt r0 r1
    go_wp2
    go_roundw
    case rel => exact ⟨j - 1, M + 1, now', oa', cl', ss', by omega, by go_num, by omega, S5.out⟩
    case measure => simp [intOf]; omega
   ·by_cases hz1 : z = 1
    ·subst hz1
     go_wp2_with fail
     refine (l5List_any rb _ (M + 1) (by omega) S3.out.rd).mono ?_
     rintro e w4 ⟨g, n, c, qs, rfl, L4, hn3⟩
     have S4 : Hid (BS w rb (M + 1 + 40000) w.heap.size w1.heap.size now oa cl ss w4) := S3.out.grown L4.gr L4.rd hrl
     have P4 : Hid (PL w4 w3.heap.size (.slice (some ⟨g, 0, none⟩) n c) qs) := L4.pl
     have HQ : Hid (qs.length = n) := L4.len
     have HF : Hid (Fine qs) := fun y hy => ⟨Nat.le_trans (L4.small y hy) (by omega), L4.byte y hy⟩
     have l13 : w1.heap.size < w3.heap.size := lt_of_block S3.out.r3
     clear L4 S3 hz0
     go_wp2_with fail
     go_loopw [6] (fun i wr => ∃ (t : Nat) (now : Int) (oa : Option Addr) (cl : Nat) (ss : List SV), t ≤ n ∧ t ≤ 14 ∧ i = .int .i64 t ∧ Hid (BS w rb (M + 1 + 40000) w.heap.size w1.heap.size now oa cl ss wr) ∧ Hid (PL wr w3.heap.size (.slice (some ⟨g, 0, none⟩) n c) qs)) (fun i _ => 14 - (intOf i).toNat)
     case atStart => exact ⟨0, now, oa, cl, ss, by omega, by omega, rfl, S4.out, P4.out⟩
     case round =>
      obtain ⟨t, nw, ob, cb, sb, ht, ht14, rfl, HS, HP⟩ := hrel
      by_cases hgo : t < n ∧ t < 14
      ·have hi : (t : Int) < (n : Int) := by omega
       have hi14 : (t : Int) < 14 := by omega
       obtain ⟨y, hy⟩ := get_of_lt (show t < (qs.map PV.rv).length by rw [List.length_map, HQ.out]; exact hgo.1)
       have HL := HP.out.rl HQ.out HF.out
       obtain ⟨c0, c1, c2, c3, c4, c5, c6, c7, c8⟩ := HL.elem t y hy
       have hyr : ROk wr y := HL.each y (List.mem_of_getElem? hy)
       have lgr := HL.lt
       have lgo := (own_lt HP.out.row g rfl).1
       clear hy HL
       go_upto_region 14 with fail
       have SK : Hid (∀ u : World, u.heap[g]? = wr.heap[g]? → u.cell? ⟨g, t * 9, none⟩ = some (.int .i64 y.p.src) ∧ u.cell? ⟨g, t * 9 + 1, none⟩ = some (.int .i64 y.p.dst) ∧ u.cell? ⟨g, t * 9 + 2, none⟩ = some (.int .i64 y.p.kind) ∧ u.cell? ⟨g, t * 9 + 3, none⟩ = some (.int .i64 y.p.id) ∧ u.cell? ⟨g, t * 9 + 4, none⟩ = some (.int .i64 y.p.hops) ∧ u.cell? ⟨g, t * 9 + 5, none⟩ = some (.bool y.p.whole) ∧ u.cell? ⟨g, t * 9 + 6, none⟩ = some (.int .i64 y.p.off) ∧ u.cell? ⟨g, t * 9 + 7, none⟩ = some (.bool y.p.more) ∧ u.cell? ⟨g, t * 9 + 8, none⟩ = some (.slice y.a y.zs.length y.c)) := fun u hu => by
        have e : ∀ o, u.cell? ⟨g, o, none⟩ = wr.cell? ⟨g, o, none⟩ := fun o => World.cell?_of_block (w := wr) (a := ⟨g, o, none⟩) hu
        exact ⟨(e _).trans c0, (e _).trans c1, (e _).trans c2, (e _).trans c3, (e _).trans c4, (e _).trans c5, (e _).trans c6, (e _).trans c7, (e _).trans c8⟩
       have r0 : wr.drew.cell? ⟨w1.heap.size, 0, none⟩ = some (.int .i64 nw) := zCr HS.out.r3
       have r1 : wr.drew.cell? ⟨w1.heap.size, 1, none⟩ = some (.slice ob sb.length cb) := zCr HS.out.r3
       refine wp_region_held_drew (S := fun u => u.cell? ⟨g, t * 9, none⟩ = some (.int .i64 y.p.src) ∧ u.cell? ⟨g, t * 9 + 1, none⟩ = some (.int .i64 y.p.dst) ∧ u.cell? ⟨g, t * 9 + 2, none⟩ = some (.int .i64 y.p.kind) ∧ u.cell? ⟨g, t * 9 + 3, none⟩ = some (.int .i64 y.p.id) ∧ u.cell? ⟨g, t * 9 + 4, none⟩ = some (.int .i64 y.p.hops) ∧ u.cell? ⟨g, t * 9 + 5, none⟩ = some (.bool y.p.whole) ∧ u.cell? ⟨g, t * 9 + 6, none⟩ = some (.int .i64 y.p.off) ∧ u.cell? ⟨g, t * 9 + 7, none⟩ = some (.bool y.p.more) ∧ u.cell? ⟨g, t * 9 + 8, none⟩ = some (.slice y.a y.zs.length y.c)) (by kernel_rfl) (SK.out _ rfl) (fun hH => ?_)
       refine zTk 1 52 (.slice (some ⟨g, 0, none⟩) n c) rfl (fun w hS => by go_simp) hH ?_; simp only [Act.put, zA, zB, zC]
       refine zTk 2 53 (.int .i64 t) rfl (fun w hS => by go_simp) hH ?_; simp only [Act.put, zA, zB, zC]
       refine zTk 3 54 (.pointer (some ⟨g, t * 9, none⟩)) rfl (fun w hS => by go_simp) hH ?_; simp only [Act.put, zA, zB, zC]
       refine zTk 4 55 (.agg #[.int .i64 y.p.src, .int .i64 y.p.dst, .int .i64 y.p.kind, .int .i64 y.p.id, .int .i64 y.p.hops, .bool y.p.whole, .int .i64 y.p.off, .bool y.p.more, .slice y.a y.zs.length y.c]) rfl (fun w hS => by obtain ⟨s0, s1, s2, s3, s4, s5, s6, s7, s8⟩ := hS; go_simp) hH ?_; simp only [Act.put, zA, zB, zC]
       refine zRd 0 (by kernel_rfl) rfl (fun K hK => ?_)
       go_simp
       refine hK.out _ _ (SK.out _ rfl) (fun hH => ?_)
       clear hK K
       (first | (simp only [zA, zB, zC]) | skip)
       have Sd : BS w rb (M + 1 + 40000) w.heap.size w1.heap.size nw ob cb sb wr.drew := HS.out.below (draw1 wr) hrl
       have KT : Hid (Calls Tryz.prog 11 #[.agg #[.int .i64 nw, .slice ob sb.length cb], .agg #[.int .i64 y.p.src, .int .i64 y.p.dst, .int .i64 y.p.kind, .int .i64 y.p.id, .int .i64 y.p.hops, .bool y.p.whole, .int .i64 y.p.off, .bool y.p.more, .slice y.a y.zs.length y.c]] wr.drew fun e u' => ∃ now' oa' cl' ss' c, ∃ y : RV, e = .returned (.tuple #[.agg #[.int .i64 now', .slice oa' ss'.length cl'], .agg #[.int .i64 y.p.src, .int .i64 y.p.dst, .int .i64 y.p.kind, .int .i64 y.p.id, .int .i64 y.p.hops, .bool y.p.whole, .int .i64 y.p.off, .bool y.p.more, .slice y.a y.zs.length y.c], .int .i64 c]) ∧ BS w rb (M + 1 + 40000) w.heap.size w1.heap.size nw ob cb sb u' ∧ BT u' w.heap.size oa' ss' ∧ ss'.length ≤ 4 ∧ ss'.length ≤ cl' ∧ cl' ≤ 9223372036854775807 ∧ benchOk now' ss' ∧ Below wr.drew.heap.size wr.drew u') := play_take y Sd (hyr.below (draw1 wr)) hrl
       refine zRd 5 (by kernel_rfl) rfl (fun K hK => ?_)
       go_simp
       (with_reducible refine KT.out.mono ?_)
       rintro e w5 ⟨now', oa', cl', ss', cc, y2, rfl, S5, hbt, hl5, hlc, hlm, hnb', b5'⟩
       have b5 : Below wr.heap.size wr w5 := (draw1 wr).trans b5'
       go_simp
       refine hK.out _ _ (SK.out _ (b5.block _ lgr)) (fun hH => ?_)
       clear hK K KT Sd b5'
       (first | (simp only [zA, zB, zC]) | skip)
       refine zTk 6 50 (.tuple #[.agg #[.int .i64 now', .slice oa' ss'.length cl'], .agg #[.int .i64 y2.p.src, .int .i64 y2.p.dst, .int .i64 y2.p.kind, .int .i64 y2.p.id, .int .i64 y2.p.hops, .bool y2.p.whole, .int .i64 y2.p.off, .bool y2.p.more, .slice y2.a y2.zs.length y2.c], .int .i64 cc]) rfl (fun w hS => by go_simp) hH ?_; simp only [Act.put, zA, zB, zC]
       refine zTk 7 57 (.agg #[.int .i64 now', .slice oa' ss'.length cl']) rfl (fun w hS => by go_simp) hH ?_; simp only [Act.put, zA, zB, zC]
       refine zTk 8 58 (.agg #[.int .i64 y2.p.src, .int .i64 y2.p.dst, .int .i64 y2.p.kind, .int .i64 y2.p.id, .int .i64 y2.p.hops, .bool y2.p.whole, .int .i64 y2.p.off, .bool y2.p.more, .slice y2.a y2.zs.length y2.c]) rfl (fun w hS => by go_simp) hH ?_; simp only [Act.put, zA, zB, zC]
       refine zTk 9 59 (.int .i64 cc) rfl (fun w hS => by go_simp) hH ?_; simp only [Act.put, zA, zB, zC]
       have S6 : Hid (BS w rb (M + 1 + 40000) w.heap.size w1.heap.size now' oa' cl' ss' ((w5.setCell ⟨w1.heap.size, 0, none⟩ (.int .i64 now')).setCell ⟨w1.heap.size, 1, none⟩ (.slice oa' ss'.length cl'))) := S5.put hbt hl5 hlc hlm hnb' hrl
       have P6 : Hid (PL ((w5.setCell ⟨w1.heap.size, 0, none⟩ (.int .i64 now')).setCell ⟨w1.heap.size, 1, none⟩ (.slice oa' ss'.length cl')) w3.heap.size (.slice (some ⟨g, 0, none⟩) n c) qs) := (show PL _ _ _ _ from by
        have P5 := HP.out.below b5
        have hk : ∀ b, w3.heap.size ≤ b → ((w5.setCell ⟨w1.heap.size, 0, none⟩ (.int .i64 now')).setCell ⟨w1.heap.size, 1, none⟩ (.slice oa' ss'.length cl')).heap[b]? = w5.heap[b]? := fun b hb => (zHs (by simp only; omega)).trans (zHs (by simp only; omega))
        exact ⟨own_kept P5.row fun b hb => hk b (own_lt P5.row b hb).1, fun v hv => own_kept (P5.each v hv) fun b hb => hk b (own_lt (P5.each v hv) b hb).1⟩)
       have fz : ∀ o, w5.frozen? ⟨w1.heap.size, o, none⟩ = false := fun o => zUf S5.r3 o
       have t0 : w5.cell? ⟨w1.heap.size, 0, none⟩ = some (.int .i64 nw) := zCr S5.r3
       have t1 : w5.cell? ⟨w1.heap.size, 1, none⟩ = some (.slice ob sb.length cb) := zCr S5.r3
       have l5 := lt_of_block S5.r3
       refine zRd 10 (by kernel_rfl) rfl (fun K hK => ?_)
       go_simp
       refine hK.out _ _ (SK.out _ ((zHs (by simp only; omega)).trans ((zHs (by simp only; omega)).trans (b5.block _ lgr)))) (fun hH => ?_)
       clear hK K hH SK S5 hbt b5 HS HP c0 c1 c2 c3 c4 c5 c6 c7 c8
       refine wpAnyH_done (by kernel_rfl) ?_ _
       go_wp2
       go_roundw
       case rel => exact ⟨t + 1, now', oa', cl', ss', by omega, by omega, by go_num, S6.out, P6.out⟩
       case measure => simp [intOf]; omega
      ·by_cases hlt : t < n
       ·have hi : (t : Int) < (n : Int) := by omega
        have hi14 : ¬ ((t : Int) < 14) := by omega
        go_wp2
        go_roundw
        case rel => exact ⟨j - 1, M + 1 + 40000, nw, ob, cb, sb, by omega, by go_num, by omega, HS.out⟩
        case measure => simp [intOf]; omega
       ·have hi : ¬ ((t : Int) < (n : Int)) := by omega
        go_wp2
        go_roundw
        case rel => exact ⟨j - 1, M + 1 + 40000, nw, ob, cb, sb, by omega, by go_num, by omega, HS.out⟩
        case measure => simp [intOf]; omega
    ·have hzb0 : (z == 0) = false := by simp [hz0]
     have hzb1 : (z == 1) = false := by simp [hz1]
     go_upto_region 6 with fail
     clear hzb0 hzb1 hz0 hz1
     have SK : Hid (∀ (m : Nat) (u : World), BS w rb m w.heap.size w1.heap.size now oa cl ss u → u.cell? ⟨w1.heap.size, 0, none⟩ = some (.int .i64 now) ∧ u.cell? ⟨w1.heap.size, 1, none⟩ = some (.slice oa ss.length cl)) := fun m u h => ⟨zCr h.r3, zCr h.r3⟩
     have r0 : w3.drew.cell? ⟨w1.heap.size, 0, none⟩ = some (.int .i64 now) := (SK.out _ _ S3.out).1
     have r1 : w3.drew.cell? ⟨w1.heap.size, 1, none⟩ = some (.slice oa ss.length cl) := (SK.out _ _ S3.out).2
     have S3d : Hid (BS w rb (M + 1) w.heap.size w1.heap.size now oa cl ss w3.drew) := S3.out.below (draw1 w3) hrl
     have KP : Hid (Calls Tryz.prog 52 #[.pointer (some ⟨rb, 0, none⟩)] w3.drew fun e w4 => ∃ x : RV, e = .returned (.agg #[.int .i64 x.p.src, .int .i64 x.p.dst, .int .i64 x.p.kind, .int .i64 x.p.id, .int .i64 x.p.hops, .bool x.p.whole, .int .i64 x.p.off, .bool x.p.more, .slice x.a x.zs.length x.c]) ∧ ROk w4 x ∧ BS w rb (M + 1 + 720) w.heap.size w1.heap.size now oa cl ss w4) := ((l5Piece_any rb (M + 1) _ S3d.out.rd (by omega)).mono (by
      rintro e w4 ⟨pp, gp, cp, len, zs, rfl, o4, hz4, hl4, -, R4, G4, hby⟩
      subst hz4
      have hcp := own_caps o4
      exact ⟨⟨pp, some ⟨gp, 0, none⟩, cp, zs⟩, rfl, ⟨RdB.of_own rfl o4, (show zs.length ≤ 1048576 by omega), hcp.1, hcp.2, hby⟩, S3d.out.grown G4 R4 hrl⟩))
     refine wp_region_held_drew (S := fun _ => True) (by kernel_rfl) trivial (fun hH => ?_)
     refine zTk 1 23 (.pointer (some ⟨rb, 0, none⟩)) rfl (fun w hS => by go_simp) hH ?_; simp only [Act.put, zA, zB, zC]
     refine wpAnyH_ready (rs := [0, 2]) (by kernel_rfl) (by simp) ?_
     refine AllReadyH.cons rfl (fun K hK => ?_) (AllReadyH.cons rfl (fun K hK => ?_) AllReadyH.nil)
     ·go_simp
      refine hK.out _ _ trivial (fun hH => ?_)
      clear hK K
      (first | (simp only [zA, zB, zC]) | skip)
      refine zRd 2 (by kernel_rfl) rfl (fun K hK => ?_)
      go_simp
      (with_reducible refine KP.out.mono ?_)
      rintro e w4 ⟨x, rfl, hxr, S4⟩
      go_simp
      refine hK.out _ _ trivial (fun hH => ?_)
      clear hK K
      (first | (simp only [zA, zB, zC]) | skip)
      have KT : Hid (Calls Tryz.prog 11 #[.agg #[.int .i64 now, .slice oa ss.length cl], .agg #[.int .i64 x.p.src, .int .i64 x.p.dst, .int .i64 x.p.kind, .int .i64 x.p.id, .int .i64 x.p.hops, .bool x.p.whole, .int .i64 x.p.off, .bool x.p.more, .slice x.a x.zs.length x.c]] w4 fun e u' => ∃ now' oa' cl' ss' c, ∃ y : RV, e = .returned (.tuple #[.agg #[.int .i64 now', .slice oa' ss'.length cl'], .agg #[.int .i64 y.p.src, .int .i64 y.p.dst, .int .i64 y.p.kind, .int .i64 y.p.id, .int .i64 y.p.hops, .bool y.p.whole, .int .i64 y.p.off, .bool y.p.more, .slice y.a y.zs.length y.c], .int .i64 c]) ∧ BS w rb (M + 1 + 720) w.heap.size w1.heap.size now oa cl ss u' ∧ BT u' w.heap.size oa' ss' ∧ ss'.length ≤ 4 ∧ ss'.length ≤ cl' ∧ cl' ≤ 9223372036854775807 ∧ benchOk now' ss' ∧ Below w4.heap.size w4 u') := play_take x S4 hxr hrl
      refine zRd 3 (by kernel_rfl) rfl (fun K hK => ?_)
      go_simp
      (with_reducible refine KT.out.mono ?_)
      rintro e w5 ⟨now', oa', cl', ss', c, y, rfl, S5, hbt, hl5, hlc, hlm, hnb', -⟩
      go_simp
      refine hK.out _ _ trivial (fun hH => ?_)
      clear hK K KT S4 hxr
      (first | (simp only [zA, zB, zC]) | skip)
      refine zTk 4 21 (.tuple #[.agg #[.int .i64 now', .slice oa' ss'.length cl'], .agg #[.int .i64 y.p.src, .int .i64 y.p.dst, .int .i64 y.p.kind, .int .i64 y.p.id, .int .i64 y.p.hops, .bool y.p.whole, .int .i64 y.p.off, .bool y.p.more, .slice y.a y.zs.length y.c], .int .i64 c]) rfl (fun w hS => by go_simp) hH ?_; simp only [Act.put, zA, zB, zC]
      refine zTk 5 26 (.agg #[.int .i64 now', .slice oa' ss'.length cl']) rfl (fun w hS => by go_simp) hH ?_; simp only [Act.put, zA, zB, zC]
      refine zTk 6 27 (.agg #[.int .i64 y.p.src, .int .i64 y.p.dst, .int .i64 y.p.kind, .int .i64 y.p.id, .int .i64 y.p.hops, .bool y.p.whole, .int .i64 y.p.off, .bool y.p.more, .slice y.a y.zs.length y.c]) rfl (fun w hS => by go_simp) hH ?_; simp only [Act.put, zA, zB, zC]
      refine zTk 7 28 (.int .i64 c) rfl (fun w hS => by go_simp) hH ?_; simp only [Act.put, zA, zB, zC]
      have S6 : Hid (BS w rb (M + 1 + 720) w.heap.size w1.heap.size now' oa' cl' ss' ((w5.setCell ⟨w1.heap.size, 0, none⟩ (.int .i64 now')).setCell ⟨w1.heap.size, 1, none⟩ (.slice oa' ss'.length cl'))) := S5.put hbt hl5 hlc hlm hnb' hrl
      have fz : ∀ o, w5.frozen? ⟨w1.heap.size, o, none⟩ = false := fun o => zUf S5.r3 o
      have t0 : w5.cell? ⟨w1.heap.size, 0, none⟩ = some (.int .i64 now) := zCr S5.r3
      have t1 : w5.cell? ⟨w1.heap.size, 1, none⟩ = some (.slice oa ss.length cl) := zCr S5.r3
      have l5 := lt_of_block S5.r3
      refine zRd 8 (by kernel_rfl) rfl (fun K hK => ?_)
      go_simp
      refine hK.out _ _ trivial (fun hH => ?_)
      clear hK K hH SK S5 hbt KP
      refine wpAnyH_done (by kernel_rfl) ?_ _
      go_wp2
      go_roundw
      case rel => exact ⟨j - 1, M + 1 + 720, now', oa', cl', ss', by omega, by go_num, by omega, S6.out⟩
      case measure => simp [intOf]; omega
     ·go_simp
      (with_reducible refine KP.out.mono ?_)
      rintro e w4 ⟨x, rfl, hxr, S4⟩
      have q0 : w4.cell? ⟨w1.heap.size, 0, none⟩ = some (.int .i64 now) := (SK.out _ _ S4).1
      have q1 : w4.cell? ⟨w1.heap.size, 1, none⟩ = some (.slice oa ss.length cl) := (SK.out _ _ S4).2
      go_simp
      refine hK.out _ _ trivial (fun hH => ?_)
      clear hK K
      (first | (simp only [zA, zB, zC]) | skip)
      refine zRd 0 (by kernel_rfl) rfl (fun K hK => ?_)
      go_simp
      refine hK.out _ _ trivial (fun hH => ?_)
      clear hK K
      (first | (simp only [zA, zB, zC]) | skip)
      have KT : Hid (Calls Tryz.prog 11 #[.agg #[.int .i64 now, .slice oa ss.length cl], .agg #[.int .i64 x.p.src, .int .i64 x.p.dst, .int .i64 x.p.kind, .int .i64 x.p.id, .int .i64 x.p.hops, .bool x.p.whole, .int .i64 x.p.off, .bool x.p.more, .slice x.a x.zs.length x.c]] w4 fun e u' => ∃ now' oa' cl' ss' c, ∃ y : RV, e = .returned (.tuple #[.agg #[.int .i64 now', .slice oa' ss'.length cl'], .agg #[.int .i64 y.p.src, .int .i64 y.p.dst, .int .i64 y.p.kind, .int .i64 y.p.id, .int .i64 y.p.hops, .bool y.p.whole, .int .i64 y.p.off, .bool y.p.more, .slice y.a y.zs.length y.c], .int .i64 c]) ∧ BS w rb (M + 1 + 720) w.heap.size w1.heap.size now oa cl ss u' ∧ BT u' w.heap.size oa' ss' ∧ ss'.length ≤ 4 ∧ ss'.length ≤ cl' ∧ cl' ≤ 9223372036854775807 ∧ benchOk now' ss' ∧ Below w4.heap.size w4 u') := play_take x S4 hxr hrl
      refine zRd 3 (by kernel_rfl) rfl (fun K hK => ?_)
      go_simp
      (with_reducible refine KT.out.mono ?_)
      rintro e w5 ⟨now', oa', cl', ss', c, y, rfl, S5, hbt, hl5, hlc, hlm, hnb', -⟩
      go_simp
      refine hK.out _ _ trivial (fun hH => ?_)
      clear hK K KT S4 hxr
      (first | (simp only [zA, zB, zC]) | skip)
      refine zTk 4 21 (.tuple #[.agg #[.int .i64 now', .slice oa' ss'.length cl'], .agg #[.int .i64 y.p.src, .int .i64 y.p.dst, .int .i64 y.p.kind, .int .i64 y.p.id, .int .i64 y.p.hops, .bool y.p.whole, .int .i64 y.p.off, .bool y.p.more, .slice y.a y.zs.length y.c], .int .i64 c]) rfl (fun w hS => by go_simp) hH ?_; simp only [Act.put, zA, zB, zC]
      refine zTk 5 26 (.agg #[.int .i64 now', .slice oa' ss'.length cl']) rfl (fun w hS => by go_simp) hH ?_; simp only [Act.put, zA, zB, zC]
      refine zTk 6 27 (.agg #[.int .i64 y.p.src, .int .i64 y.p.dst, .int .i64 y.p.kind, .int .i64 y.p.id, .int .i64 y.p.hops, .bool y.p.whole, .int .i64 y.p.off, .bool y.p.more, .slice y.a y.zs.length y.c]) rfl (fun w hS => by go_simp) hH ?_; simp only [Act.put, zA, zB, zC]
      refine zTk 7 28 (.int .i64 c) rfl (fun w hS => by go_simp) hH ?_; simp only [Act.put, zA, zB, zC]
      have S6 : Hid (BS w rb (M + 1 + 720) w.heap.size w1.heap.size now' oa' cl' ss' ((w5.setCell ⟨w1.heap.size, 0, none⟩ (.int .i64 now')).setCell ⟨w1.heap.size, 1, none⟩ (.slice oa' ss'.length cl'))) := S5.put hbt hl5 hlc hlm hnb' hrl
      have fz : ∀ o, w5.frozen? ⟨w1.heap.size, o, none⟩ = false := fun o => zUf S5.r3 o
      have t0 : w5.cell? ⟨w1.heap.size, 0, none⟩ = some (.int .i64 now) := zCr S5.r3
      have t1 : w5.cell? ⟨w1.heap.size, 1, none⟩ = some (.slice oa ss.length cl) := zCr S5.r3
      have l5 := lt_of_block S5.r3
      refine zRd 8 (by kernel_rfl) rfl (fun K hK => ?_)
      go_simp
      refine hK.out _ _ trivial (fun hH => ?_)
      clear hK K hH SK S5 hbt KP
      refine wpAnyH_done (by kernel_rfl) ?_ _
      go_wp2
      go_roundw
      case rel => exact ⟨j - 1, M + 1 + 720, now', oa', cl', ss', by omega, by go_num, by omega, S6.out⟩
      case measure => simp [intOf]; omega
  ·have hj1 : ¬ ((0 : Int) < (j : Int)) := by omega
   have q0 : wr.cell? ⟨w1.heap.size, 0, none⟩ = some (.int .i64 now) := zCr HS.out.r3
   have q1 : wr.cell? ⟨w1.heap.size, 1, none⟩ = some (.slice oa ss.length cl) := zCr HS.out.r3
   have p0 : wr.cell? ⟨w.heap.size, 0, none⟩ = some (.int .i64 0) := zCr HS.out.r2
   have p1 : wr.cell? ⟨w.heap.size, 1, none⟩ = some (.slice none 0 0) := zCr HS.out.r2
   have fz : ∀ o, wr.frozen? ⟨w.heap.size, o, none⟩ = false := fun o => zUf HS.out.r2 o
   have l2 := lt_of_block HS.out.r2
   have FIN : Hid (∀ u, (∀ b, b ≠ w.heap.size → u.heap[b]? = wr.heap[b]?) → u.os = wr.os → u.tape = wr.tape → u.output = wr.output → u.heap.size = wr.heap.size → BenchPost rb (N + 400000) w (.returned (.agg #[.int .i64 now, .slice oa ss.length cl])) u) := fun u hk h1 h2 h3 h5 => by
    have nb : ∀ (b : Nat) (cu : Array Value) (t : TypeId), wr.heap[b]? = some (.cells cu t (0, 0)) → t ≠ 27 → b ≠ w.heap.size := fun b cu t h1 ht e => by
     rw [e, HS.out.r2] at h1
     cases h1
     exact ht rfl
    refine ⟨now, oa, cl, ss, rfl, ?_, HS.out.len, HS.out.cap, HS.out.capM, HS.out.nb, (HS.out.rd.keep (by omega) fun b hb => hk b (by omega)).mono (by omega), ⟨h1.trans HS.out.gr.os, h2.trans HS.out.gr.tape, h3.trans HS.out.gr.output, by rw [h5]; exact HS.out.gr.size, fun b hb hne => (hk b (by omega)).trans (HS.out.gr.block b hb hne)⟩⟩
    rcases HS.out.bt with hb | ⟨g, k1, k2, k3, k4⟩
    ·exact Or.inl hb
    ·obtain ⟨cu, hcu, _⟩ := id k3
     refine Or.inr ⟨g, k1, k2, k3.kept (hk g (nb _ _ _ hcu (by decide))), fun s hs => (k4 s hs).kept fun b hb => hk b ?_⟩
     obtain ⟨_, _, cu', t', h5, h6⟩ := (k4 s hs).blk b hb
     exact nb _ _ _ h5 (by rcases h6 with rfl | rfl <;> decide)
   go_wp2
   refine bodyPost_ret (v := .agg #[.int .i64 now, .slice oa ss.length cl]) (by simp [results, Tryz.results85, go_sem, p0, p1]) rfl (FIN.out _ (fun b hb => (zHs hb).trans (zHs hb)) ?_ ?_ ?_ ?_)
   all_goals simp [World.setCell]
end Go.Proofs.YtjbkgmbakjnlhaaGreatDoor
