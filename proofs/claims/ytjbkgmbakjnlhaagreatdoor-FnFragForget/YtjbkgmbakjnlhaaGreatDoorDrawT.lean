import Derived.Test.YtjbkgmbakjnlhaaGreatDoorAnyB
import Derived.Test.YtjbkgmbakjnlhaaGreatDoorL5More
import Derived.Test.YtjbkgmbakjnlhaaGreatDoorPartBe
namespace Go.Proofs.YtjbkgmbakjnlhaaGreatDoor
set_option maxRecDepth 100000
open Go.RowKit
set_option maxHeartbeats 3200000 in
theorem drawTake_any (a : Option Addr) (len cap : Nat) (zs : List Int) (w : World) (hr : RdB w a len zs) (hz : ∀ z ∈ zs, 0 ≤ z ∧ z ≤ 255) (hc : len ≤ cap) (hl : len ≤ 1048576) :
  Calls Tryz.prog 19 #[.slice a len cap] w (TakeDrawn w) := by
 have KO : Hid (Calls Tryz.prog 22 #[.slice a len cap] ((w.alloc (.cells #[.int .i64 0, .slice none 0 0] 27)).alloc (.cells #[.int .i64 0, .int .i64 0, .int .i64 0, .int .i64 0, .int .i64 0, .bool false, .int .i64 0, .bool false, .slice none 0 0] 29)) fun e w1 => ∃ rb, e = .returned (.pointer (some ⟨rb, 0, none⟩)) ∧ w.heap.size + 2 ≤ rb ∧ Rdr w1 rb 0 ∧ Below (w.heap.size + 2) ((w.alloc (.cells #[.int .i64 0, .slice none 0 0] 27)).alloc (.cells #[.int .i64 0, .int .i64 0, .int .i64 0, .int .i64 0, .int .i64 0, .bool false, .int .i64 0, .bool false, .slice none 0 0] 29)) w1) := (l1Open_any a len cap zs _ (hr.below (Joins.below_alloc2 _ _ _)) hz hc hl).mono (by
  rintro e w1 ⟨rb, rfl, hrb, R1, b1⟩
  exact ⟨rb, rfl, by simpa using hrb, R1, b1.mono (by simp)⟩)
 clear hr hz
 go_enter Tryz.func19, Tryz.ntmps19
 go_wp2_with fail
 (with_reducible refine KO.out.mono ?_)
 rintro e w1 ⟨rb, rfl, hrb, R1, b1⟩
 have hrl := R1.lt
 have Y1 : w1.heap[w.heap.size]? = some (.cells #[.int .i64 0, .slice none 0 0] 27 (0, 0)) := (b1.block _ (by omega)).trans ((zHa (by simp)).trans (heap_new _ _ _ rfl))
 have Z1 : w1.heap[w.heap.size + 1]? = some (.cells (pcells zeroPk (.slice none 0 0)) 29 (0, 0)) := (b1.block _ (by omega)).trans (heap_new _ _ _ (by simp))
 have B1 : Below w.heap.size w w1 := (Joins.below_alloc2 _ _ _).trans (b1.mono (by omega))
 have KA : Hid (Calls Tryz.prog 54 #[.pointer (some ⟨rb, 0, none⟩)] w1 (AnyBenchPost rb (0 + 410000) w1)) := l5AnyBench_any rb 0 w1 R1 (by omega)
 clear KO b1 R1
 go_wp2_with fail
 (with_reducible refine KA.out.mono ?_)
 rintro e w2 ⟨now, oa, cl, ss, rfl, T2, hl8, hlc, hlm, hsm, R2, G2⟩
 have hs2 := G2.size
 have nr : ∀ b, b ≤ w.heap.size + 1 → w2.heap[b]? = w1.heap[b]? := fun b hb => G2.block b (by omega) (fun e => by have := Option.some.inj e; omega)
 have Y2 := (nr _ (by omega)).trans Y1
 have Z2 := (nr _ (by omega)).trans Z1
 have B2 : Below w.heap.size w w2 := B1.trans ⟨G2.os, G2.tape, G2.output, G2.size, fun k hk => nr k (by omega)⟩
 have X3 : (w2.alloc (.cells #[.int .i64 now, .slice oa ss.length cl] 27)).heap[w2.heap.size]? = some (.cells #[.int .i64 now, .slice oa ss.length cl] 27 (0, 0)) := heap_new _ _ _ rfl
 have T3 : Hid (BT (w2.alloc (.cells #[.int .i64 now, .slice oa ss.length cl] 27)).drew w1.heap.size oa ss) := (T2.below (zBa _ _)).below (draw1 _)
 have KM : Hid (Calls Tryz.prog 55 #[.pointer (some ⟨rb, 0, none⟩), .agg #[.int .i64 now, .slice oa ss.length cl]] (w2.alloc (.cells #[.int .i64 now, .slice oa ss.length cl] 27)).drew (MorePost rb (0 + 410000 + 3000) w1.heap.size (w2.alloc (.cells #[.int .i64 now, .slice oa ss.length cl] 27)).drew)) := l5More_any rb (0 + 410000) w1.heap.size now oa cl ss _ ((R2.below (zBa _ _)).below (draw1 _)) (by omega) T3.out hrl (by simp [World.drew]; omega) hl8 hsm
 have HY : Hid (w2.heap[w.heap.size]? = some (.cells #[.int .i64 0, .slice none 0 0] 27 (0, 0))) := Y2
 have HZ : Hid (w2.heap[w.heap.size + 1]? = some (.cells (pcells zeroPk (.slice none 0 0)) 29 (0, 0))) := Z2
 have HB2 : Hid (Below w.heap.size w w2) := B2
 have HX : Hid ((w2.alloc (.cells #[.int .i64 now, .slice oa ss.length cl] 27)).drew.heap[w2.heap.size]? = some (.cells #[.int .i64 now, .slice oa ss.length cl] 27 (0, 0))) := X3
 clear Y1 Z1 B1 Y2 Z2 B2 T2 R2 G2 nr KA X3
 go_wp2_with fail
 refine wp_region_held_drew (S := fun u => u.cell? ⟨w2.heap.size, 0, none⟩ = some (.int .i64 now) ∧ u.cell? ⟨w2.heap.size, 1, none⟩ = some (.slice oa ss.length cl)) (by kernel_rfl) ⟨zCr HX.out, zCr HX.out⟩ (fun hH => ?_)
 refine zTk 0 10 (.agg #[.int .i64 now, .slice oa ss.length cl]) rfl (fun w hS => by obtain ⟨s0, s1⟩ := hS; go_simp) hH ?_; simp only [Act.put, zA, zB, zC]
 refine zTk 1 11 (.pointer (some ⟨rb, 0, none⟩)) rfl (fun w hS => by go_simp) hH ?_; simp only [Act.put, zA, zB, zC]
 refine zTk 2 12 (.agg #[.int .i64 now, .slice oa ss.length cl]) rfl (fun w hS => by obtain ⟨s0, s1⟩ := hS; go_simp) hH ?_; simp only [Act.put, zA, zB, zC]
 refine zRd 3 (by kernel_rfl) rfl (fun K hK => ?_)
 go_simp
 (with_reducible refine KM.out.mono ?_)
 rintro e w4 ⟨x, rfl, D4, R4, G4⟩
 have hs4 : w2.heap.size + 1 ≤ w4.heap.size := by have := G4.size; simpa [World.drew] using this
 have ko : ∀ b, b ≤ w2.heap.size → b ≠ rb → w4.heap[b]? = (w2.alloc (.cells #[.int .i64 now, .slice oa ss.length cl] 27)).heap[b]? := fun b hb hn => G4.block b (by simp [World.drew]; omega) (fun e => hn (Option.some.inj e))
 have X4 : w4.heap[w2.heap.size]? = some (.cells #[.int .i64 now, .slice oa ss.length cl] 27 (0, 0)) := (ko _ (Nat.le_refl _) (by omega)).trans (heap_new _ _ _ rfl)
 have lw2 := lt_of_block HZ.out
 have Y4 : w4.heap[w.heap.size]? = some (.cells #[.int .i64 0, .slice none 0 0] 27 (0, 0)) := (ko _ (by omega) (by omega)).trans ((zHa (by omega)).trans HY.out)
 have Z4 : w4.heap[w.heap.size + 1]? = some (.cells (pcells zeroPk (.slice none 0 0)) 29 (0, 0)) := (ko _ (by omega) (by omega)).trans ((zHa (by omega)).trans HZ.out)
 have T4 : BT w4 w1.heap.size oa ss := T3.out.grown G4 hrl
 have B4 : Below w.heap.size w w4 := HB2.out.trans ⟨G4.os, G4.tape, G4.output, by omega, fun k hk => (ko k (by have := HB2.out.size; omega) (by omega)).trans (zHa (by have := HB2.out.size; omega))⟩
 have l4 : w.heap.size + 1 < w1.heap.size := by omega
 have TF : Hid (BT w4 w1.heap.size oa ss) := T4
 have DF : Hid (DataB w4 w1.heap.size x) := D4
 have BF : Hid (Below w.heap.size w w4) := B4
 have y0 : w4.cell? ⟨w.heap.size, 0, none⟩ = some (.int .i64 0) := zCr Y4
 have y1 : w4.cell? ⟨w.heap.size, 1, none⟩ = some (.slice none 0 0) := zCr Y4
 have fy : ∀ o, w4.frozen? ⟨w.heap.size, o, none⟩ = false := fun o => zUf Y4 o
 have fz : ∀ o, w4.frozen? ⟨w.heap.size + 1, o, none⟩ = false := fun o => zUf Z4 o
 have x0 : w4.cell? ⟨w2.heap.size, 0, none⟩ = some (.int .i64 now) := zCr X4
 have x1 : w4.cell? ⟨w2.heap.size, 1, none⟩ = some (.slice oa ss.length cl) := zCr X4
 obtain ⟨lz, z0, z1, z2, z3, z4, z5, z6, z7, z8⟩ := Boxed.of_block Z4
 have ly := lt_of_block Y4
 clear T4 D4 B4 R4 G4 ko X4 Y4 Z4 KM T3 HY HZ HB2 HX
 go_simp
 refine hK.out _ _ ⟨x0, x1⟩ (fun hH => ?_)
 clear hK K
 (first | (simp only [zA, zB, zC]) | skip)
 refine zRd 4 (by kernel_rfl) rfl (fun K hK => ?_)
 go_simp
 have nv : w.heap.size ≠ w2.heap.size := by omega
 have kv : ∀ b, b ≠ w.heap.size → ((w4.setCell ⟨w.heap.size, 0, none⟩ (.int .i64 now)).setCell ⟨w.heap.size, 1, none⟩ (.slice oa ss.length cl)).heap[b]? = w4.heap[b]? := fun b hb => (zHs hb).trans (zHs hb)
 have ku : ∀ b, b ≠ w.heap.size + 1 → (((((((((((w4.setCell ⟨w.heap.size, 0, none⟩ (.int .i64 now)).setCell ⟨w.heap.size, 1, none⟩ (.slice oa ss.length cl)).setCell ⟨w.heap.size + 1, 0, none⟩ (.int .i64 x.p.src)).setCell ⟨w.heap.size + 1, 1, none⟩ (.int .i64 x.p.dst)).setCell ⟨w.heap.size + 1, 2, none⟩ (.int .i64 x.p.kind)).setCell ⟨w.heap.size + 1, 3, none⟩ (.int .i64 x.p.id)).setCell ⟨w.heap.size + 1, 4, none⟩ (.int .i64 x.p.hops)).setCell ⟨w.heap.size + 1, 5, none⟩ (.bool x.p.whole)).setCell ⟨w.heap.size + 1, 6, none⟩ (.int .i64 x.p.off)).setCell ⟨w.heap.size + 1, 7, none⟩ (.bool x.p.more)).setCell ⟨w.heap.size + 1, 8, none⟩ (.slice x.a x.zs.length x.c)).heap[b]? = ((w4.setCell ⟨w.heap.size, 0, none⟩ (.int .i64 now)).setCell ⟨w.heap.size, 1, none⟩ (.slice oa ss.length cl)).heap[b]? := fun b hb => heap9 _ _ _ hb _ _ _ _ _ _ _ _ _
 have S5 : ((w4.setCell ⟨w.heap.size, 0, none⟩ (.int .i64 now)).setCell ⟨w.heap.size, 1, none⟩ (.slice oa ss.length cl)).cell? ⟨w2.heap.size, 0, none⟩ = some (.int .i64 now) ∧ ((w4.setCell ⟨w.heap.size, 0, none⟩ (.int .i64 now)).setCell ⟨w.heap.size, 1, none⟩ (.slice oa ss.length cl)).cell? ⟨w2.heap.size, 1, none⟩ = some (.slice oa ss.length cl) := ⟨(World.cell?_of_block (a := ⟨w2.heap.size, 0, none⟩) (kv w2.heap.size (by omega))).trans x0, (World.cell?_of_block (a := ⟨w2.heap.size, 1, none⟩) (kv w2.heap.size (by omega))).trans x1⟩
 have S6 : (((((((((((w4.setCell ⟨w.heap.size, 0, none⟩ (.int .i64 now)).setCell ⟨w.heap.size, 1, none⟩ (.slice oa ss.length cl)).setCell ⟨w.heap.size + 1, 0, none⟩ (.int .i64 x.p.src)).setCell ⟨w.heap.size + 1, 1, none⟩ (.int .i64 x.p.dst)).setCell ⟨w.heap.size + 1, 2, none⟩ (.int .i64 x.p.kind)).setCell ⟨w.heap.size + 1, 3, none⟩ (.int .i64 x.p.id)).setCell ⟨w.heap.size + 1, 4, none⟩ (.int .i64 x.p.hops)).setCell ⟨w.heap.size + 1, 5, none⟩ (.bool x.p.whole)).setCell ⟨w.heap.size + 1, 6, none⟩ (.int .i64 x.p.off)).setCell ⟨w.heap.size + 1, 7, none⟩ (.bool x.p.more)).setCell ⟨w.heap.size + 1, 8, none⟩ (.slice x.a x.zs.length x.c)).cell? ⟨w2.heap.size, 0, none⟩ = some (.int .i64 now) ∧ (((((((((((w4.setCell ⟨w.heap.size, 0, none⟩ (.int .i64 now)).setCell ⟨w.heap.size, 1, none⟩ (.slice oa ss.length cl)).setCell ⟨w.heap.size + 1, 0, none⟩ (.int .i64 x.p.src)).setCell ⟨w.heap.size + 1, 1, none⟩ (.int .i64 x.p.dst)).setCell ⟨w.heap.size + 1, 2, none⟩ (.int .i64 x.p.kind)).setCell ⟨w.heap.size + 1, 3, none⟩ (.int .i64 x.p.id)).setCell ⟨w.heap.size + 1, 4, none⟩ (.int .i64 x.p.hops)).setCell ⟨w.heap.size + 1, 5, none⟩ (.bool x.p.whole)).setCell ⟨w.heap.size + 1, 6, none⟩ (.int .i64 x.p.off)).setCell ⟨w.heap.size + 1, 7, none⟩ (.bool x.p.more)).setCell ⟨w.heap.size + 1, 8, none⟩ (.slice x.a x.zs.length x.c)).cell? ⟨w2.heap.size, 1, none⟩ = some (.slice oa ss.length cl) := ⟨(World.cell?_of_block (a := ⟨w2.heap.size, 0, none⟩) (ku w2.heap.size (by omega))).trans S5.1, (World.cell?_of_block (a := ⟨w2.heap.size, 1, none⟩) (ku w2.heap.size (by omega))).trans S5.2⟩
 have FIN : Hid (TakeDrawn w (.returned (.tuple #[.agg #[.int .i64 now, .slice oa ss.length cl], .agg #[.int .i64 x.p.src, .int .i64 x.p.dst, .int .i64 x.p.kind, .int .i64 x.p.id, .int .i64 x.p.hops, .bool x.p.whole, .int .i64 x.p.off, .bool x.p.more, .slice x.a x.zs.length x.c]])) (((((((((((w4.setCell ⟨w.heap.size, 0, none⟩ (.int .i64 now)).setCell ⟨w.heap.size, 1, none⟩ (.slice oa ss.length cl)).setCell ⟨w.heap.size + 1, 0, none⟩ (.int .i64 x.p.src)).setCell ⟨w.heap.size + 1, 1, none⟩ (.int .i64 x.p.dst)).setCell ⟨w.heap.size + 1, 2, none⟩ (.int .i64 x.p.kind)).setCell ⟨w.heap.size + 1, 3, none⟩ (.int .i64 x.p.id)).setCell ⟨w.heap.size + 1, 4, none⟩ (.int .i64 x.p.hops)).setCell ⟨w.heap.size + 1, 5, none⟩ (.bool x.p.whole)).setCell ⟨w.heap.size + 1, 6, none⟩ (.int .i64 x.p.off)).setCell ⟨w.heap.size + 1, 7, none⟩ (.bool x.p.more)).setCell ⟨w.heap.size + 1, 8, none⟩ (.slice x.a x.zs.length x.c))) := (show TakeDrawn _ _ _ from ⟨now, oa, cl, ss, x, w1.heap.size, rfl, TF.out.kept fun b hb _ => (ku b (by omega)).trans (kv b (by omega)), (DF.out.kept fun b hb => (ku b (by have := (DF.out.blk b hb).1; omega)).trans (kv b (by have := (DF.out.blk b hb).1; omega))).rok, hl8, hlc, hlm, below9 (Below.setCell (Below.setCell BF.out (by simp only; omega) _) (by simp only; omega) _) (by omega) _ _ _ _ _ _ _ _ _⟩)
 refine hK.out _ _ S5 (fun hH => ?_)
 clear hK K kv ku TF DF BF
 (first | (simp only [zA, zB, zC]) | skip)
 refine zRd 5 (by kernel_rfl) rfl (fun K hK => ?_)
 go_simp
 refine hK.out _ _ S6 (fun hH => ?_)
 clear hK K hH S5 S6 x0 x1
 (first | (simp only [zA, zB, zC]) | skip)
 refine wpAnyH_done (by kernel_rfl) ?_ _
 go_wp2
 refine bodyPost_ret (v := .tuple #[.agg #[.int .i64 now, .slice oa ss.length cl], .agg #[.int .i64 x.p.src, .int .i64 x.p.dst, .int .i64 x.p.kind, .int .i64 x.p.id, .int .i64 x.p.hops, .bool x.p.whole, .int .i64 x.p.off, .bool x.p.more, .slice x.a x.zs.length x.c]]) ?_ rfl ?_
 ·simp [results, Tryz.results19, go_sem, y0, y1, z0, z1, z2, z3, z4, z5, z6, z7, z8]
 ·exact FIN.out
end Go.Proofs.YtjbkgmbakjnlhaaGreatDoor
