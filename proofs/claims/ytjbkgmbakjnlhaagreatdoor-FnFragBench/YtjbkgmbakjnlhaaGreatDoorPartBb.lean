import Derived.Test.YtjbkgmbakjnlhaaGreatDoorPartBa
import Derived.Test.YtjbkgmbakjnlhaaGreatDoorPartAz
import Derived.Laws.Rows
namespace Go.Proofs.YtjbkgmbakjnlhaaGreatDoor
set_option maxRecDepth 100000
open Go.RowKit
theorem tab3 (a b c : Int) (X : Nat) (h : X < 3) : ∃ v : Int, (#[Value.int IntKind.i64 a, .int .i64 b, .int .i64 c] : Array Value)[X]? = some (.int .i64 v) := by
 match X, h with
 | 0, _ => exact ⟨a, rfl⟩
 | 1, _ => exact ⟨b, rfl⟩
 | 2, _ => exact ⟨c, rfl⟩
theorem tab4 (a b c d : Int) (X : Nat) (h : X < 4) : ∃ v : Int, (#[Value.int IntKind.i64 a, .int .i64 b, .int .i64 c, .int .i64 d] : Array Value)[X]? = some (.int .i64 v) := by
 match X, h with
 | 0, _ => exact ⟨a, rfl⟩
 | 1, _ => exact ⟨b, rfl⟩
 | 2, _ => exact ⟨c, rfl⟩
 | 3, _ => exact ⟨d, rfl⟩
theorem tab5 (X : Nat) (h : X < 5) : ∃ v : Nat, v ≤ 200 ∧ (#[Value.int IntKind.i64 0, .int .i64 3, .int .i64 128, .int .i64 129, .int .i64 132] : Array Value)[X]? = some (.int .i64 v) := by
 match X, h with
 | 0, _ => exact ⟨0, by omega, rfl⟩
 | 1, _ => exact ⟨3, by omega, rfl⟩
 | 2, _ => exact ⟨128, by omega, rfl⟩
 | 3, _ => exact ⟨129, by omega, rfl⟩
 | 4, _ => exact ⟨132, by omega, rfl⟩
theorem tab7 (a b c d e f g : Int) (X : Nat) (h : X < 7) : ∃ v : Int, (#[Value.int IntKind.i64 a, .int .i64 b, .int .i64 c, .int .i64 d, .int .i64 e, .int .i64 f, .int .i64 g] : Array Value)[X]? = some (.int .i64 v) ∧ ∀ h' : X < ([Value.int IntKind.i64 a, .int .i64 b, .int .i64 c, .int .i64 d, .int .i64 e, .int .i64 f, .int .i64 g] : List Value).length, ([Value.int IntKind.i64 a, .int .i64 b, .int .i64 c, .int .i64 d, .int .i64 e, .int .i64 f, .int .i64 g] : List Value)[X]'h' = .int .i64 v := by
 match X, h with
 | 0, _ => exact ⟨a, rfl, fun _ => rfl⟩
 | 1, _ => exact ⟨b, rfl, fun _ => rfl⟩
 | 2, _ => exact ⟨c, rfl, fun _ => rfl⟩
 | 3, _ => exact ⟨d, rfl, fun _ => rfl⟩
 | 4, _ => exact ⟨e, rfl, fun _ => rfl⟩
 | 5, _ => exact ⟨f, rfl, fun _ => rfl⟩
 | 6, _ => exact ⟨g, rfl, fun _ => rfl⟩
structure SpoilAt (rb M lo : Nat) (p : Pk) (g c : Nat) (zs : List Int) (w w1 : World) : Prop where
 hlt : rb < lo
 hlo : lo ≤ w.heap.size
 X : w1.heap[w.heap.size]? = some (.cells (pcells p (.slice (some ⟨g, 0, none⟩) zs.length c)) 29 (0, 0))
 Z : w1.heap[w.heap.size + 1]? = some (.cells (pcells zeroPk (.slice none 0 0)) 29 (0, 0))
 o : w1.ownsRow lo 5 1 (.slice (some ⟨g, 0, none⟩) zs.length c) zs.length (zs.map (.int .u8))
 hg : g < w.heap.size
 R : Rdr w1 rb M
 G : w.grownBy w1 (some rb)
 B : Hid (∀ z ∈ zs, 0 ≤ z ∧ z ≤ 255)
theorem SpoilAt.grown {rb M M' lo : Nat} {p : Pk} {g c : Nat} {zs : List Int} {w w1 w2 : World} (h : SpoilAt rb M lo p g c zs w w1) (hG : w1.grownBy w2 (some rb)) (hR : Rdr w2 rb M') : SpoilAt rb M' lo p g c zs w w2 :=
 have a := h.hlt
 have b := h.hlo
 ⟨h.hlt, h.hlo, (hG.block _ (lt_of_block h.X) (fun e => by have := Option.some.inj e; omega)).trans h.X, (hG.block _ (lt_of_block h.Z) (fun e => by have := Option.some.inj e; omega)).trans h.Z, own_grown h.o hG h.hlt, h.hg, hR, grown_trans h.G hG, h.B⟩
theorem SpoilAt.alloc {rb M lo : Nat} {p : Pk} {g c : Nat} {zs : List Int} {w w1 : World} (h : SpoilAt rb M lo p g c zs w w1) (o : Obj) : SpoilAt rb M lo p g c zs w (w1.alloc o) :=
 h.grown (grown_alloc _ _ _) (h.R.below (zBa _ _))
theorem SpoilAt.drew {rb M lo : Nat} {p : Pk} {g c : Nat} {zs : List Int} {w w1 : World} (h : SpoilAt rb M lo p g c zs w w1) : SpoilAt rb M lo p g c zs w w1.drew :=
 h.grown (grown_below (draw1 _)) (h.R.below (draw1 _))
theorem SpoilAt.post {rb M M' lo : Nat} {p q : Pk} {g c j : Nat} {zs : List Int} {w w1 : World} {u x0 x1 x2 x3 x4 x5 x6 x7 x8 : Value} (h : SpoilAt rb M lo p g c zs w w1) (hl : zs.length ≤ 200) (hM : M ≤ M') :
  PktPost rb M' lo AnyPk w (.returned (q.val (.slice (some ⟨g, 0, none⟩) zs.length c))) (((((((((w1.setCell ⟨w.heap.size, j, none⟩ u).setCell ⟨w.heap.size + 1, 0, none⟩ x0).setCell ⟨w.heap.size + 1, 1, none⟩ x1).setCell ⟨w.heap.size + 1, 2, none⟩ x2).setCell ⟨w.heap.size + 1, 3, none⟩ x3).setCell ⟨w.heap.size + 1, 4, none⟩ x4).setCell ⟨w.heap.size + 1, 5, none⟩ x5).setCell ⟨w.heap.size + 1, 6, none⟩ x6).setCell ⟨w.heap.size + 1, 7, none⟩ x7 |>.setCell ⟨w.heap.size + 1, 8, none⟩ x8) := by
 have hlt := h.hlt
 have hlo := h.hlo
 have hg := h.hg
 have hb := below9 (B := w.heap.size) (b := w.heap.size + 1) ((Below.refl _ w1).setCell (p := ⟨w.heap.size, j, none⟩) (Nat.le_refl _) u) (by omega) x0 x1 x2 x3 x4 x5 x6 x7 x8
 exact ⟨q, g, c, zs.length, zs, rfl, own_kept h.o (fun k e => by cases e; exact hb.block g (by omega)), rfl, hl, trivial, (h.R.mono hM).upto hb (by omega), grown_b h.G hb (Nat.le_refl _), h.B.out⟩
theorem PktPost.alloc {rb M lo : Nat} {Q : Pk → Nat → Prop} {w w' : World} {e : Ending} (h : PktPost rb M lo Q w e w') (o : Obj) : PktPost rb M lo Q w e (w'.alloc o) := by
 obtain ⟨p, g, c, len, zs, he, ho, hz, hl, hq, hR, hG, hY⟩ := h
 exact ⟨p, g, c, len, zs, he, own_below ho (zBa _ _), hz, hl, hq, hR.below (zBa _ _), grown_trans hG (grown_alloc _ _ _), hY⟩
set_option maxHeartbeats 12000000 in
theorem l5Spoil_any (rb N lo : Nat) (p : Pk) (g c : Nat) (zs : List Int) (w : World) (hR : Rdr w rb N) (hN : N ≤ 890000) (ho : w.ownsRow lo 5 1 (.slice (some ⟨g, 0, none⟩) zs.length c) zs.length (zs.map (.int .u8))) (hlt : rb < lo) (hlo : lo ≤ w.heap.size) (hl : zs.length ≤ 200) (hy : Hid (∀ z ∈ zs, 0 ≤ z ∧ z ≤ 255)) :
  Calls Tryz.prog 58 #[.pointer (some ⟨rb, 0, none⟩), p.val (.slice (some ⟨g, 0, none⟩) zs.length c)] w (PktPost rb (N + 720) lo AnyPk w) := by
 unfold Pk.val
 go_enter Tryz.func58, Tryz.ntmps58
 go_wp2_with fail
 refine (pick_any rb N 9 _ (hR.below (Joins.below_alloc2 _ _ _)) (by omega) (by omega) (by omega)).mono ?_
 rintro e w1 ⟨x, rfl, x0, x1, -, R1, G⟩
 have x2 := x1 (by omega)
 have S1 : SpoilAt rb (N + 1) lo p g c zs w w1 :=
  ⟨hlt, hlo, (G.block _ (by simp; omega) (fun e => by have := Option.some.inj e; omega)).trans ((zHa (by simp)).trans (heap_new _ _ _ rfl)), (G.block _ (by simp) (fun e => by have := Option.some.inj e; omega)).trans (heap_new _ _ _ (by simp)), own_grown (own_below ho (Joins.below_alloc2 _ _ _)) G hlt, (own_lt ho g rfl).2, R1, grown_trans (grown_below (Joins.below_alloc2 _ _ _)) G, hy⟩
 clear ho R1 G hR x1
 rcases (show x = 0 ∨ x = 1 ∨ x = 2 ∨ x = 3 ∨ x = 4 ∨ x = 5 ∨ x = 6 ∨ x = 7 ∨ x = 8 from by omega) with rfl | rfl | rfl | rfl | rfl | rfl | rfl | rfl | rfl
 ·go_wp2_with fail
  refine (pick_any rb (N + 1) 3 _ (S1.alloc _).R (by omega) (by omega) (by omega)).mono ?_
  rintro e w2 ⟨xi, rfl, xi0, xi1, -, R2, G⟩
  obtain ⟨X, rfl⟩ := Int.eq_ofNat_of_zero_le xi0
  have hX : X < 3 := by have := xi1 (by omega); omega
  have hXi : (X : Int) < 3 := by omega
  obtain ⟨v, htab⟩ := tab3 (-1) 65535 65536 X hX
  have hcX : w2.cell? ⟨w1.heap.size, X, none⟩ = some (.int .i64 v) := by
   rw [Joins.cell_of_block ((G.block _ (by simp) (fun e => by have := Option.some.inj e; have := S1.R.lt; omega)).trans (heap_new _ _ _ rfl)) X]
   exact htab
  have S2 : SpoilAt rb (N + 1 + 1) lo p g c zs w w2 := (S1.alloc _).grown G R2
  have fx : ∀ o, w2.frozen? ⟨w.heap.size, o, none⟩ = false := fun o => zUf S2.X o
  have fz : ∀ o, w2.frozen? ⟨w.heap.size + 1, o, none⟩ = false := fun o => zUf S2.Z o
  obtain ⟨lx, c0, c1, c2', c3, c4, c5, c6, c7, c8⟩ := Boxed.of_block S2.X
  obtain ⟨lz, z0, z1, z2, z3, z4, z5, z6, z7, z8⟩ := Boxed.of_block S2.Z
  have SH : Hid (SpoilAt rb (N + 1 + 1) lo p g c zs w w2) := S2
  clear G R2 S1 S2 htab
  go_wp2
  refine bodyPost_ret (v := .agg #[.int .i64 (v), .int .i64 p.dst, .int .i64 p.kind, .int .i64 p.id, .int .i64 p.hops, .bool p.whole, .int .i64 p.off, .bool p.more, .slice (some ⟨g, 0, none⟩) zs.length c]) (by simp [results, Tryz.results58, go_sem, z0, z1, z2, z3, z4, z5, z6, z7, z8]) rfl ?_
  exact SH.out.post (q := ⟨v, p.dst, p.kind, p.id, p.hops, p.whole, p.off, p.more⟩) hl (by omega)
 ·go_wp2_with fail
  refine (pick_any rb (N + 1) 3 _ (S1.alloc _).R (by omega) (by omega) (by omega)).mono ?_
  rintro e w2 ⟨xi, rfl, xi0, xi1, -, R2, G⟩
  obtain ⟨X, rfl⟩ := Int.eq_ofNat_of_zero_le xi0
  have hX : X < 3 := by have := xi1 (by omega); omega
  have hXi : (X : Int) < 3 := by omega
  obtain ⟨v, htab⟩ := tab3 (-1) 65535 65536 X hX
  have hcX : w2.cell? ⟨w1.heap.size, X, none⟩ = some (.int .i64 v) := by
   rw [Joins.cell_of_block ((G.block _ (by simp) (fun e => by have := Option.some.inj e; have := S1.R.lt; omega)).trans (heap_new _ _ _ rfl)) X]
   exact htab
  have S2 : SpoilAt rb (N + 1 + 1) lo p g c zs w w2 := (S1.alloc _).grown G R2
  have fx : ∀ o, w2.frozen? ⟨w.heap.size, o, none⟩ = false := fun o => zUf S2.X o
  have fz : ∀ o, w2.frozen? ⟨w.heap.size + 1, o, none⟩ = false := fun o => zUf S2.Z o
  obtain ⟨lx, c0, c1, c2', c3, c4, c5, c6, c7, c8⟩ := Boxed.of_block S2.X
  obtain ⟨lz, z0, z1, z2, z3, z4, z5, z6, z7, z8⟩ := Boxed.of_block S2.Z
  have SH : Hid (SpoilAt rb (N + 1 + 1) lo p g c zs w w2) := S2
  clear G R2 S1 S2 htab
  go_wp2
  refine bodyPost_ret (v := .agg #[.int .i64 p.src, .int .i64 (v), .int .i64 p.kind, .int .i64 p.id, .int .i64 p.hops, .bool p.whole, .int .i64 p.off, .bool p.more, .slice (some ⟨g, 0, none⟩) zs.length c]) (by simp [results, Tryz.results58, go_sem, z0, z1, z2, z3, z4, z5, z6, z7, z8]) rfl ?_
  exact SH.out.post (q := ⟨p.src, v, p.kind, p.id, p.hops, p.whole, p.off, p.more⟩) hl (by omega)
 ·go_wp2_with fail
  refine (pick_any rb (N + 1) 4 _ (S1.alloc _).R (by omega) (by omega) (by omega)).mono ?_
  rintro e w2 ⟨xi, rfl, xi0, xi1, -, R2, G⟩
  obtain ⟨X, rfl⟩ := Int.eq_ofNat_of_zero_le xi0
  have hX : X < 4 := by have := xi1 (by omega); omega
  have hXi : (X : Int) < 4 := by omega
  obtain ⟨v, htab⟩ := tab4 0 (-1) 7 8 X hX
  have hcX : w2.cell? ⟨w1.heap.size, X, none⟩ = some (.int .i64 v) := by
   rw [Joins.cell_of_block ((G.block _ (by simp) (fun e => by have := Option.some.inj e; have := S1.R.lt; omega)).trans (heap_new _ _ _ rfl)) X]
   exact htab
  have S2 : SpoilAt rb (N + 1 + 1) lo p g c zs w w2 := (S1.alloc _).grown G R2
  have fx : ∀ o, w2.frozen? ⟨w.heap.size, o, none⟩ = false := fun o => zUf S2.X o
  have fz : ∀ o, w2.frozen? ⟨w.heap.size + 1, o, none⟩ = false := fun o => zUf S2.Z o
  obtain ⟨lx, c0, c1, c2', c3, c4, c5, c6, c7, c8⟩ := Boxed.of_block S2.X
  obtain ⟨lz, z0, z1, z2, z3, z4, z5, z6, z7, z8⟩ := Boxed.of_block S2.Z
  have SH : Hid (SpoilAt rb (N + 1 + 1) lo p g c zs w w2) := S2
  clear G R2 S1 S2 htab
  go_wp2
  refine bodyPost_ret (v := .agg #[.int .i64 p.src, .int .i64 p.dst, .int .i64 (v), .int .i64 p.id, .int .i64 p.hops, .bool p.whole, .int .i64 p.off, .bool p.more, .slice (some ⟨g, 0, none⟩) zs.length c]) (by simp [results, Tryz.results58, go_sem, z0, z1, z2, z3, z4, z5, z6, z7, z8]) rfl ?_
  exact SH.out.post (q := ⟨p.src, p.dst, v, p.id, p.hops, p.whole, p.off, p.more⟩) hl (by omega)
 ·go_wp2_with fail
  refine (pick_any rb (N + 1) 3 _ (S1.alloc _).R (by omega) (by omega) (by omega)).mono ?_
  rintro e w2 ⟨xi, rfl, xi0, xi1, -, R2, G⟩
  obtain ⟨X, rfl⟩ := Int.eq_ofNat_of_zero_le xi0
  have hX : X < 3 := by have := xi1 (by omega); omega
  have hXi : (X : Int) < 3 := by omega
  obtain ⟨v, htab⟩ := tab3 (-1) 255 256 X hX
  have hcX : w2.cell? ⟨w1.heap.size, X, none⟩ = some (.int .i64 v) := by
   rw [Joins.cell_of_block ((G.block _ (by simp) (fun e => by have := Option.some.inj e; have := S1.R.lt; omega)).trans (heap_new _ _ _ rfl)) X]
   exact htab
  have S2 : SpoilAt rb (N + 1 + 1) lo p g c zs w w2 := (S1.alloc _).grown G R2
  have fx : ∀ o, w2.frozen? ⟨w.heap.size, o, none⟩ = false := fun o => zUf S2.X o
  have fz : ∀ o, w2.frozen? ⟨w.heap.size + 1, o, none⟩ = false := fun o => zUf S2.Z o
  obtain ⟨lx, c0, c1, c2', c3, c4, c5, c6, c7, c8⟩ := Boxed.of_block S2.X
  obtain ⟨lz, z0, z1, z2, z3, z4, z5, z6, z7, z8⟩ := Boxed.of_block S2.Z
  have SH : Hid (SpoilAt rb (N + 1 + 1) lo p g c zs w w2) := S2
  clear G R2 S1 S2 htab
  go_wp2
  refine bodyPost_ret (v := .agg #[.int .i64 p.src, .int .i64 p.dst, .int .i64 p.kind, .int .i64 (v), .int .i64 p.hops, .bool p.whole, .int .i64 p.off, .bool p.more, .slice (some ⟨g, 0, none⟩) zs.length c]) (by simp [results, Tryz.results58, go_sem, z0, z1, z2, z3, z4, z5, z6, z7, z8]) rfl ?_
  exact SH.out.post (q := ⟨p.src, p.dst, p.kind, v, p.hops, p.whole, p.off, p.more⟩) hl (by omega)
 ·go_wp2_with fail
  refine (pick_any rb (N + 1) 4 _ (S1.alloc _).R (by omega) (by omega) (by omega)).mono ?_
  rintro e w2 ⟨xi, rfl, xi0, xi1, -, R2, G⟩
  obtain ⟨X, rfl⟩ := Int.eq_ofNat_of_zero_le xi0
  have hX : X < 4 := by have := xi1 (by omega); omega
  have hXi : (X : Int) < 4 := by omega
  obtain ⟨v, htab⟩ := tab4 0 (-1) 64 65 X hX
  have hcX : w2.cell? ⟨w1.heap.size, X, none⟩ = some (.int .i64 v) := by
   rw [Joins.cell_of_block ((G.block _ (by simp) (fun e => by have := Option.some.inj e; have := S1.R.lt; omega)).trans (heap_new _ _ _ rfl)) X]
   exact htab
  have S2 : SpoilAt rb (N + 1 + 1) lo p g c zs w w2 := (S1.alloc _).grown G R2
  have fx : ∀ o, w2.frozen? ⟨w.heap.size, o, none⟩ = false := fun o => zUf S2.X o
  have fz : ∀ o, w2.frozen? ⟨w.heap.size + 1, o, none⟩ = false := fun o => zUf S2.Z o
  obtain ⟨lx, c0, c1, c2', c3, c4, c5, c6, c7, c8⟩ := Boxed.of_block S2.X
  obtain ⟨lz, z0, z1, z2, z3, z4, z5, z6, z7, z8⟩ := Boxed.of_block S2.Z
  have SH : Hid (SpoilAt rb (N + 1 + 1) lo p g c zs w w2) := S2
  clear G R2 S1 S2 htab
  go_wp2
  refine bodyPost_ret (v := .agg #[.int .i64 p.src, .int .i64 p.dst, .int .i64 p.kind, .int .i64 p.id, .int .i64 (v), .bool p.whole, .int .i64 p.off, .bool p.more, .slice (some ⟨g, 0, none⟩) zs.length c]) (by simp [results, Tryz.results58, go_sem, z0, z1, z2, z3, z4, z5, z6, z7, z8]) rfl ?_
  exact SH.out.post (q := ⟨p.src, p.dst, p.kind, p.id, v, p.whole, p.off, p.more⟩) hl (by omega)
 ·have fx1 : ∀ o, w1.frozen? ⟨w.heap.size, o, none⟩ = false := fun o => zUf S1.X o
  have a6 := (Boxed.of_block S1.X).c6
  have ltB : w.heap.size < w1.heap.size := lt_of_block S1.X
  have hrlt := S1.R.lt
  go_wp2
  go_region_with
   ((go_at_call 23; refine (pick_any rb (N + 1) 7 _ ?_ (by omega) (by omega) (by omega)).mono ?_; (first | exact (S1.drew.alloc _).R | exact S1.drew.R); rintro e w2 ⟨xi, rfl, xi0, xi1, -, R2, G⟩; obtain ⟨X, rfl⟩ := Int.eq_ofNat_of_zero_le xi0; have hX : X < 7 := (by have := xi1 (by omega); omega); have hXi : (X : Int) < 7 := (by omega); obtain ⟨v, htab, htl⟩ := tab7 (-4) 1 2 4 128 132 4611686018427387904 X hX; (first | (have hcX : w2.cell? ⟨w1.heap.size, X, none⟩ = some (.int .i64 v) := (by rw [Joins.cell_of_block ((G.block _ (by simp) (fun e => by have := Option.some.inj e; omega)).trans (heap_new _ _ _ rfl)) X]; exact htab); have S2 : SpoilAt rb (N + 1 + 1) lo p g c zs w w2 := (S1.drew.alloc _).grown G R2) | (have S2 : SpoilAt rb (N + 1 + 1) lo p g c zs w w2 := S1.drew.grown G R2)); have fx : ∀ o, w2.frozen? ⟨w.heap.size, o, none⟩ = false := (fun o => zUf S2.X o); have b6 := (Boxed.of_block S2.X).c6; have lt2 : w.heap.size < w2.heap.size := lt_of_block S2.X))
  all_goals
   have fz : ∀ o, w2.frozen? ⟨w.heap.size + 1, o, none⟩ = false := fun o => zUf S2.Z o
   obtain ⟨lx, c0, c1, c2', c3, c4, c5, c6, c7, c8⟩ := Boxed.of_block S2.X
   obtain ⟨lz, z0, z1, z2, z3, z4, z5, z6, z7, z8⟩ := Boxed.of_block S2.Z
   have SH : Hid (SpoilAt rb (N + 1 + 1) lo p g c zs w w2) := S2
   clear S1 S2 G R2 fx1 a6 ltB b6
   go_wp2
  all_goals
   refine bodyPost_ret (v := .agg #[.int .i64 p.src, .int .i64 p.dst, .int .i64 p.kind, .int .i64 p.id, .int .i64 p.hops, .bool p.whole, .int .i64 (wrap64 (p.off + v)), .bool p.more, .slice (some ⟨g, 0, none⟩) zs.length c]) (by simp [results, Tryz.results58, go_sem, z0, z1, z2, z3, z4, z5, z6, z7, z8, lz]) rfl ?_
   first | (with_reducible refine PktPost.alloc ?_ _) | skip
   exact SH.out.post (q := ⟨p.src, p.dst, p.kind, p.id, p.hops, p.whole, wrap64 (p.off + v), p.more⟩) hl (by omega)
 ·have S2 := S1
  have fx : ∀ o, w1.frozen? ⟨w.heap.size, o, none⟩ = false := fun o => zUf S2.X o
  have fz : ∀ o, w1.frozen? ⟨w.heap.size + 1, o, none⟩ = false := fun o => zUf S2.Z o
  obtain ⟨lx, c0, c1, c2', c3, c4, c5, c6, c7, c8⟩ := Boxed.of_block S2.X
  obtain ⟨lz, z0, z1, z2, z3, z4, z5, z6, z7, z8⟩ := Boxed.of_block S2.Z
  have SH : Hid (SpoilAt rb (N + 1) lo p g c zs w w1) := S2
  clear S1 S2
  go_wp2
  refine bodyPost_ret (v := .agg #[.int .i64 p.src, .int .i64 p.dst, .int .i64 p.kind, .int .i64 p.id, .int .i64 p.hops, .bool p.whole, .int .i64 p.off, .bool (!p.more), .slice (some ⟨g, 0, none⟩) zs.length c]) (by simp [results, Tryz.results58, go_sem, z0, z1, z2, z3, z4, z5, z6, z7, z8]) rfl ?_
  exact SH.out.post (q := ⟨p.src, p.dst, p.kind, p.id, p.hops, p.whole, p.off, !p.more⟩) hl (by omega)
 ·have S2 := S1
  have fx : ∀ o, w1.frozen? ⟨w.heap.size, o, none⟩ = false := fun o => zUf S2.X o
  have fz : ∀ o, w1.frozen? ⟨w.heap.size + 1, o, none⟩ = false := fun o => zUf S2.Z o
  obtain ⟨lx, c0, c1, c2', c3, c4, c5, c6, c7, c8⟩ := Boxed.of_block S2.X
  obtain ⟨lz, z0, z1, z2, z3, z4, z5, z6, z7, z8⟩ := Boxed.of_block S2.Z
  have SH : Hid (SpoilAt rb (N + 1) lo p g c zs w w1) := S2
  clear S1 S2
  go_wp2
  refine bodyPost_ret (v := .agg #[.int .i64 p.src, .int .i64 p.dst, .int .i64 p.kind, .int .i64 p.id, .int .i64 p.hops, .bool (!p.whole), .int .i64 p.off, .bool p.more, .slice (some ⟨g, 0, none⟩) zs.length c]) (by simp [results, Tryz.results58, go_sem, z0, z1, z2, z3, z4, z5, z6, z7, z8]) rfl ?_
  exact SH.out.post (q := ⟨p.src, p.dst, p.kind, p.id, p.hops, !p.whole, p.off, p.more⟩) hl (by omega)
 ·go_wp2_with fail
  refine (pick_any rb (N + 1) 5 _ (S1.alloc _).R (by omega) (by omega) (by omega)).mono ?_
  rintro e w2 ⟨xi, rfl, xi0, xi1, -, R2, G⟩
  obtain ⟨X, rfl⟩ := Int.eq_ofNat_of_zero_le xi0
  have hX : X < 5 := by have := xi1 (by omega); omega
  have hXi : (X : Int) < 5 := by omega
  obtain ⟨v, hv, htab⟩ := tab5 X hX
  have hcX : w2.cell? ⟨w1.heap.size, X, none⟩ = some (.int .i64 v) := by
   rw [Joins.cell_of_block ((G.block _ (by simp) (fun e => by have := Option.some.inj e; have := S1.R.lt; omega)).trans (heap_new _ _ _ rfl)) X]
   exact htab
  have S3 : SpoilAt rb (N + 1 + 1) lo p g c zs w w2 := (S1.alloc _).grown G R2
  clear G R2 S1 htab
  go_wp2_with fail
  refine (l5Data_any rb (N + 1 + 1) v _ S3.R (by omega) hv).mono ?_
  rintro e w3 ⟨g3, d3, ys, rfl, o3, R3, G, hby⟩
  have HBY : Hid (∀ z ∈ ys, 0 ≤ z ∧ z ≤ 255) := hby
  clear hby
  have S2 : SpoilAt rb (N + 720) lo p g c zs w w3 := S3.grown G (R3.mono (by omega))
  have hs3 : w.heap.size + 1 < w2.heap.size := lt_of_block S3.Z
  have OH : Hid (w3.ownsRow (w.heap.size + 2) 5 1 (.slice (some ⟨g3, 0, none⟩) v d3) v (ys.map (.int .u8))) := Joins.ownsRow_le o3 (by omega)
  have hyl := own_len o3
  have fx : ∀ o, w3.frozen? ⟨w.heap.size, o, none⟩ = false := fun o => zUf S2.X o
  have fz : ∀ o, w3.frozen? ⟨w.heap.size + 1, o, none⟩ = false := fun o => zUf S2.Z o
  obtain ⟨lx, c0, c1, c2', c3, c4, c5, c6, c7, c8⟩ := Boxed.of_block S2.X
  obtain ⟨lz, z0, z1, z2, z3, z4, z5, z6, z7, z8⟩ := Boxed.of_block S2.Z
  have SH : Hid (SpoilAt rb (N + 720) lo p g c zs w w3) := S2
  clear G R3 S3 S2 o3 hcX
  go_wp2
  refine bodyPost_ret (v := .agg #[.int .i64 p.src, .int .i64 p.dst, .int .i64 p.kind, .int .i64 p.id, .int .i64 p.hops, .bool p.whole, .int .i64 p.off, .bool p.more, .slice (some ⟨g3, 0, none⟩) v d3]) (by simp [results, Tryz.results58, go_sem, z0, z1, z2, z3, z4, z5, z6, z7, z8]) rfl ?_
  have hb := below9 (B := w.heap.size) (b := w.heap.size + 1) ((Below.refl _ w3).setCell (p := ⟨w.heap.size, 8, none⟩) (Nat.le_refl _) (.slice (some ⟨g3, 0, none⟩) v d3)) (by omega) (.int .i64 p.src) (.int .i64 p.dst) (.int .i64 p.kind) (.int .i64 p.id) (.int .i64 p.hops) (.bool p.whole) (.int .i64 p.off) (.bool p.more) (.slice (some ⟨g3, 0, none⟩) v d3)
  exact ⟨p, g3, d3, v, ys, rfl, Joins.ownsRow_le (own9 (ownsRow_setCell_below OH.out (by simp) _) (by omega) _ _ _ _ _ _ _ _ _) (by omega), hyl, hv, trivial, SH.out.R.upto hb (by omega), grown_b SH.out.G hb (Nat.le_refl _), HBY.out⟩
set_option maxHeartbeats 1600000 in
theorem l5Any_any (rb N : Nat) (w : World) (hR : Rdr w rb N) (hN : N ≤ 870000) :
  Calls Tryz.prog 24 #[.pointer (some ⟨rb, 0, none⟩)] w (PktPost rb (N + 2000) w.heap.size AnyPk w) := by
 have hlt := hR.lt
 have hne : some w.heap.size ≠ some rb := fun e => by have := Option.some.inj e; omega
 go_enter Tryz.func24, Tryz.ntmps24
 go_wp2_with fail
 refine (l5Piece_any rb N _ (hR.below (zBa _ _)) (by omega)).mono ?_
 rintro e w1 ⟨p, g, c, len, zs, rfl, o1, hz, hl, -, R1, G, hby⟩
 subst hz
 have HBY : Hid (∀ z ∈ zs, 0 ≤ z ∧ z ≤ 255) := hby
 clear hby
 have o1' : w1.ownsRow (w.heap.size + 1) 5 1 (.slice (some ⟨g, 0, none⟩) zs.length c) zs.length (zs.map (.int .u8)) := Joins.ownsRow_le o1 (by simp)
 have Z1 : w1.heap[w.heap.size]? = some (.cells (pcells zeroPk (.slice none 0 0)) 29 (0, 0)) := (G.block _ (by simp) hne).trans (heap_new _ _ _ rfl)
 have G1 : w.grownBy w1 (some rb) := grown_trans (grown_alloc _ _ _) G
 have hs1 : w.heap.size < w1.heap.size := lt_of_block Z1
 have hgx : g ≠ w1.heap.size := by have := (own_lt o1' g rfl).2; omega
 have hgz : g ≠ w.heap.size := by have := (own_lt o1' g rfl).1; omega
 clear G o1 hR
 unfold Pk.val
 go_wp2_with fail
 refine (pick_any rb (N + 720) 20 _ (R1.below (zBa _ _)) (by omega) (by omega) (by omega)).mono ?_
 rintro e w2 ⟨x, rfl, x0, x1, -, R2, G⟩
 have hnb : some w1.heap.size ≠ some rb := fun e => by have := Option.some.inj e; omega
 have Z2 := (G.block _ (by simp; omega) hne).trans ((zHa hs1).trans Z1)
 have X2 : w2.heap[w1.heap.size]? = some (.cells (pcells p (.slice (some ⟨g, 0, none⟩) zs.length c)) 29 (0, 0)) := (G.block _ (by simp) hnb).trans (heap_new _ _ _ rfl)
 have o2 := own_grown (own_below o1' (zBa _ (.cells (pcells p (.slice (some ⟨g, 0, none⟩) zs.length c)) 29))) G (by omega)
 have G2 : w.grownBy w2 (some rb) := grown_trans (grown_trans G1 (grown_alloc _ _ _)) G
 clear G G1 Z1 o1' R1
 obtain ⟨lx, c0, c1, c2', c3, c4, c5, c6, c7, c8⟩ := Boxed.of_block X2
 by_cases hx : x = 0
 ·subst hx
  go_wp2_with fail
  refine (l5Spoil_any rb (N + 720 + 1) (w.heap.size + 1) p g c zs _ R2 (by omega) o2 (by omega) (by omega) hl HBY.out).mono ?_
  rintro e w3 ⟨q, h, d, len, ys, rfl, o3, hz, hl3, -, R3, G, hby⟩
  subst hz
  have HBY3 : Hid (∀ z ∈ ys, 0 ≤ z ∧ z ≤ 255) := hby
  clear hby
  have Z3 := (G.block _ (lt_of_block Z2) hne).trans Z2
  have G3 := grown_trans G2 G
  have fz : ∀ o, w3.frozen? ⟨w.heap.size, o, none⟩ = false := fun o => zUf Z3 o
  have hhz : h ≠ w.heap.size := by have := (own_lt o3 h rfl).1; omega
  clear c0 c1 c2' c3 c4 c5 c6 c7 c8
  obtain ⟨lz, z0, z1, z2, z3, z4, z5, z6, z7, z8⟩ := Boxed.of_block Z3
  have OH : Hid (w3.ownsRow (w.heap.size + 1) 5 1 (.slice (some ⟨h, 0, none⟩) ys.length d) ys.length (ys.map (.int .u8))) := o3
  have GH : Hid (w.grownBy w3 (some rb)) := G3
  have RH : Hid (Rdr w3 rb (N + 2000)) := R3.mono (by omega)
  clear G G2 G3 Z2 Z3 X2 o2 o3 R2 R3
  unfold Pk.val
  go_wp2
  refine bodyPost_ret (v := .agg #[.int .i64 q.src, .int .i64 q.dst, .int .i64 q.kind, .int .i64 q.id, .int .i64 q.hops, .bool q.whole, .int .i64 q.off, .bool q.more, .slice (some ⟨h, 0, none⟩) ys.length d]) (by simp [results, Tryz.results24, go_sem, z0, z1, z2, z3, z4, z5, z6, z7, z8]) rfl ?_
  exact pkt_post (p := q) (lo := w.heap.size + 1) (by omega) OH.out hl3 RH.out hlt GH.out (below9 (Below.refl _ _) (Nat.le_refl _) _ _ _ _ _ _ _ _ _) (heap9 _ _ _ hhz _ _ _ _ _ _ _ _ _) HBY3.out
 ·have hxb : (x == 0) = false := by simp [hx]
  have fz : ∀ o, w2.frozen? ⟨w.heap.size, o, none⟩ = false := fun o => zUf Z2 o
  obtain ⟨lz, z0, z1, z2, z3, z4, z5, z6, z7, z8⟩ := Boxed.of_block Z2
  have OH : Hid (w2.ownsRow (w.heap.size + 1) 5 1 (.slice (some ⟨g, 0, none⟩) zs.length c) zs.length (zs.map (.int .u8))) := o2
  have GH : Hid (w.grownBy w2 (some rb)) := G2
  have RH : Hid (Rdr w2 rb (N + 2000)) := R2.mono (by omega)
  clear G2 Z2 X2 o2 R2
  go_wp2
  refine bodyPost_ret (v := .agg #[.int .i64 p.src, .int .i64 p.dst, .int .i64 p.kind, .int .i64 p.id, .int .i64 p.hops, .bool p.whole, .int .i64 p.off, .bool p.more, .slice (some ⟨g, 0, none⟩) zs.length c]) (by simp [results, Tryz.results24, go_sem, z0, z1, z2, z3, z4, z5, z6, z7, z8]) rfl ?_
  exact pkt_post (p := p) (lo := w.heap.size + 1) (by omega) OH.out hl RH.out hlt GH.out (below9 (Below.refl _ _) (Nat.le_refl _) _ _ _ _ _ _ _ _ _) (heap9 _ _ _ hgz _ _ _ _ _ _ _ _ _) HBY.out
theorem own_set {w : World} {base : Nat} {e : TypeId} {size n c g o : Nat} {xs : List Value} (h : w.ownsRow base e size (.slice (some ⟨g, 0, none⟩) n c) n xs) (u : Value) : (w.setCell ⟨g, o, none⟩ u).ownsRow base e size (.slice (some ⟨g, 0, none⟩) n c) n (xs.set o u) := by
 have h1 := h.1
 rcases h.2 with ⟨hv, _⟩ | ⟨g', cap, cur, hv, hb, hh, hc, hm, hs, ht⟩
 ·cases hv
 ·cases hv
  refine ⟨by simpa using h1, Or.inr ⟨g, c, cur.setIfInBounds o u, rfl, hb, heap_setCell_same _ _ _ _ _ _ hh, hc, hm, by simpa using hs, ?_⟩⟩
  rw [Array.toList_setIfInBounds, List.take_set, ht]
theorem flat_set (u : PV) : ∀ (ls : List PV) (k : Nat), k < ls.length →
  (((((((((ls.flatMap PV.cells).set (k * 9) (.int .i64 u.p.src)).set (k * 9 + 1) (.int .i64 u.p.dst)).set (k * 9 + 2) (.int .i64 u.p.kind)).set (k * 9 + 3) (.int .i64 u.p.id)).set (k * 9 + 4) (.int .i64 u.p.hops)).set (k * 9 + 5) (.bool u.p.whole)).set (k * 9 + 6) (.int .i64 u.p.off)).set (k * 9 + 7) (.bool u.p.more)).set (k * 9 + 8) (.slice (some ⟨u.g, 0, none⟩) u.zs.length u.c) = (ls.set k u).flatMap PV.cells
 | [], k, h => by simp at h
 | y :: r, 0, _ => by
  simp only [Nat.zero_mul, Nat.zero_add, List.set_cons_zero, List.flatMap_cons]
  rfl
 | y :: r, k + 1, h => by
  have ih := flat_set u r k (by simp at h; omega)
  rw [List.set_cons_succ, List.flatMap_cons, List.flatMap_cons, ← ih]
  have hl : (PV.cells y).length = 9 := rfl
  have e : ∀ (l : List Value) (j : Nat) (x : Value), (PV.cells y ++ l).set ((k + 1) * 9 + j) x = PV.cells y ++ l.set (k * 9 + j) x := fun l j x => by
   rw [List.set_append_right _ _ (by omega), hl, show (k + 1) * 9 + j - 9 = k * 9 + j by omega]
  have e0 : ∀ (l : List Value) (x : Value), (PV.cells y ++ l).set ((k + 1) * 9) x = PV.cells y ++ l.set (k * 9) x := fun l x => e l 0 x
  rw [e0, e, e, e, e, e, e, e, e]
end Go.Proofs.YtjbkgmbakjnlhaaGreatDoor
