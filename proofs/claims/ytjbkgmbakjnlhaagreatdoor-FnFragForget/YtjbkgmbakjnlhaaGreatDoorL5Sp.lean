import Derived.Test.YtjbkgmbakjnlhaaGreatDoorPartBg
namespace Go.Proofs.YtjbkgmbakjnlhaaGreatDoor
set_option maxRecDepth 100000
open Go.RowKit
set_option maxHeartbeats 12800000 in
theorem l5SpoilBench_any (rb N : Nat) (now : Int) (oa : Option Addr) (cl : Nat) (ss : List SV) (w : World) (hR : Rdr w rb N) (hN : N ≤ 860000) (hL : SLq w oa ss) (hl4 : ss.length ≤ 4) (hB : benchOk now ss) :
  Calls Tryz.prog 86 #[.pointer (some ⟨rb, 0, none⟩), .agg #[.int .i64 now, .slice oa ss.length cl]] w (AnyBenchPost rb (N + 3000) w) := by
 obtain ⟨ti, hti, hy0, hy1, hy2⟩ := info_parts Tryz.info9
 obtain ⟨tj, htj, hj0, hj1, hj2⟩ := info_parts Tryz.infoSlot
 have hrl := hR.lt
 have HR : Hid (Rdr w rb N) := hR
 have HB : Hid (benchOk now ss) := hB
 have KC : Hid (∀ W : World, Below w.heap.size w W → Calls Tryz.prog 30 #[.agg #[.int .i64 now, .slice oa ss.length cl]] W fun e w' => ∃ g c ts, e = .returned (.agg #[.int .i64 now, .slice (some ⟨g, 0, none⟩) ss.length c]) ∧ CAns w' W.heap.size g c ts ∧ ts.map SV.key = ss.map SV.key ∧ Below W.heap.size W w' ∧ (∀ t ∈ ts, CapS w' W.heap.size t)) := fun W h => l4Copy_full now oa cl ss W (hL.below h) (by omega)
 have KP : Hid (∀ (n : Int) (M : Nat) (u : World), Rdr u rb M → M ≤ 1000000 → 0 ≤ n → n ≤ 1000000 → Calls Tryz.prog 23 #[.pointer (some ⟨rb, 0, none⟩), .int .i64 n] u (PickPost rb M n u)) := fun n M u h1 h2 h3 h4 => pick_any rb M n u h1 h2 h3 h4
 clear hR hL hB
 go_enter Tryz.func86, Tryz.ntmps86
 go_wp2_with fail
 (with_reducible refine (KC.out _ (Joins.below_alloc2 _ _ _)).mono ?_)
 rintro e w1 ⟨g, c, ts, he, CA, hk, b1, hcp⟩
 have hlt : ts.length = ss.length := map_len hk
 rw [← hlt] at he
 subst he
 have x0 : w1.heap[w.heap.size]? = some (.cells #[.int .i64 now, .slice oa ss.length cl] 27 (0, 0)) := (b1.block _ (by simp; omega)).trans ((zHa (by simp)).trans (heap_new _ _ _ rfl))
 have x1 : w1.heap[w.heap.size + 1]? = some (.cells #[.int .i64 0, .slice none 0 0] 27 (0, 0)) := (b1.block _ (by simp)).trans (heap_new _ _ _ (by simp))
 have hs1 := b1.size
 have hlo : ((w.alloc (.cells #[.int .i64 now, .slice oa ss.length cl] 27)).alloc (.cells #[.int .i64 0, .slice none 0 0] 27)).heap.size = w.heap.size + 2 := by simp
 rw [hlo] at CA hcp hs1
 have bw : Below w.heap.size w w1 := (Joins.below_alloc2 _ _ _).trans (b1.mono (by simp; omega))
 have A1 : SpS w rb N (w.heap.size + 2) g c ts w1 := ⟨grown_of_below bw, HR.out.below bw, CA.own, CA.forest.each, by omega, hrl, ok_len ((benchOk_iff hk).2 HB.out)⟩
 have A2 := (A1.far (o := 0) x0 ⟨by decide, by decide, by decide⟩ (by omega) (.int .i64 now)).far (o := 1) (set_at x0) ⟨by decide, by decide, by decide⟩ (by omega) (.slice (some ⟨g, 0, none⟩) ts.length c)
 have y0 : ((w1.setCell ⟨w.heap.size, 0, none⟩ (.int .i64 now)).setCell ⟨w.heap.size, 1, none⟩ (.slice (some ⟨g, 0, none⟩) ts.length c)).heap[w.heap.size]? = some (.cells #[.int .i64 now, .slice (some ⟨g, 0, none⟩) ts.length c] 27 (0, 0)) := by rw [set_at (set_at x0)]; rfl
 have y1 : ((w1.setCell ⟨w.heap.size, 0, none⟩ (.int .i64 now)).setCell ⟨w.heap.size, 1, none⟩ (.slice (some ⟨g, 0, none⟩) ts.length c)).heap[w.heap.size + 1]? = some (.cells #[.int .i64 0, .slice none 0 0] 27 (0, 0)) := (zHs (by simp only; omega)).trans ((zHs (by simp only; omega)).trans x1)
 have C2 := (CA.set (o := 0) x0 ⟨by decide, by decide, by decide⟩ (.int .i64 now)).set (o := 1) (set_at x0) ⟨by decide, by decide, by decide⟩ (.slice (some ⟨g, 0, none⟩) ts.length c)
 have P2 : ∀ t ∈ ts, CapS ((w1.setCell ⟨w.heap.size, 0, none⟩ (.int .i64 now)).setCell ⟨w.heap.size, 1, none⟩ (.slice (some ⟨g, 0, none⟩) ts.length c)) (w.heap.size + 2) t := fun t ht => ((hcp t ht).set x0 (by decide) _).set (set_at x0) (by decide) _
 have W2 : Hid (SpW w rb N (w.heap.size + 2) g c now ts ((w1.setCell ⟨w.heap.size, 0, none⟩ (.int .i64 now)).setCell ⟨w.heap.size, 1, none⟩ (.slice (some ⟨g, 0, none⟩) ts.length c))) := (⟨A2, y0, y1⟩ : SpW _ _ _ _ _ _ _ _ _)
 have F2 : Hid (SpF w rb N (w.heap.size + 2) g c ts ((w1.setCell ⟨w.heap.size, 0, none⟩ (.int .i64 now)).setCell ⟨w.heap.size, 1, none⟩ (.slice (some ⟨g, 0, none⟩) ts.length c))) := (⟨A2, C2.forest, P2⟩ : SpF _ _ _ _ _ _ _ _)
 have fz0 : ∀ o, w1.frozen? ⟨w.heap.size, o, none⟩ = false := fun o => zUf x0 o
 have q0 : w1.cell? ⟨w.heap.size, 0, none⟩ = some (.int .i64 now) := zCr x0
 have q1 : w1.cell? ⟨w.heap.size, 1, none⟩ = some (.slice oa ss.length cl) := zCr x0
 have lb0 := lt_of_block x0
 have HF : Hid (∀ t ∈ ts, ∃ y, t.xs[0]? = some y) := fun t ht => by
  obtain ⟨j, hj⟩ := List.getElem?_of_mem ht
  exact waits_first (((benchOk_iff hk).2 HB.out).2.2 j t hj).2.1
 have HF1 : Hid (∀ t ∈ ts, t.xs.length ≤ 1000) := fun t ht => by
  obtain ⟨j, hj⟩ := List.getElem?_of_mem ht
  exact wait_len (((benchOk_iff hk).2 HB.out).2.2 j t hj).2.1
 have hl4' : ts.length ≤ 4 := by omega
 clear hlt
 clear CA hk b1 hcp x0 x1 hs1 hlo bw A1 A2 y0 y1 C2 P2 HR HB KC
 have FZ : Hid (∀ (M g' c' : Nat) (nw : Int) (us : List SV) (u : World), SpW w rb M (w.heap.size + 2) g' c' nw us u → (∀ o, u.frozen? ⟨w.heap.size + 1, o, none⟩ = false) ∧ u.cell? ⟨w.heap.size + 1, 0, none⟩ = some (.int .i64 0) ∧ u.cell? ⟨w.heap.size + 1, 1, none⟩ = some (.slice none 0 0) ∧ u.cell? ⟨w.heap.size, 0, none⟩ = some (.int .i64 nw) ∧ u.cell? ⟨w.heap.size, 1, none⟩ = some (.slice (some ⟨g', 0, none⟩) us.length c') ∧ w.heap.size + 1 < u.heap.size ∧ (∀ o, u.frozen? ⟨w.heap.size, o, none⟩ = false)) := fun M g' c' nw us u h => ⟨fun o => zUf h.res o, zCr h.res, zCr h.res, zCr h.box, zCr h.box, lt_of_block h.res, fun o => zUf h.box o⟩
 have KNOW : Hid (∀ (M s : Nat) (u : World), s = u.heap.size → SpW w rb M (w.heap.size + 2) g c now ts u → M + 1 ≤ N + 3000 → M ≤ 1000000 → Calls Tryz.prog 23 #[.pointer (some ⟨rb, 0, none⟩), .int .i64 3] (u.alloc (.cells #[.int .i64 (-1), .int .i64 1000000, .int .i64 1000001] 3)) fun e u2 => ∃ (j : Nat) (nw : Int), j < 3 ∧ e = .returned (.int .i64 j) ∧ u2.cell? ⟨s, j, none⟩ = some (.int .i64 nw) ∧ SpW w rb (M + 1) (w.heap.size + 2) g c now ts u2 ∧ SpW w rb (M + 1) (w.heap.size + 2) g c nw ts (u2.setCell ⟨w.heap.size, 0, none⟩ (.int .i64 nw))) := fun M s u hsu h h1 h2 => (pick_any rb M 3 _ (h.below (zBa _ _)).sp.rd h2 (by omega) (by omega)).mono (by
  rintro e u2 ⟨x, rfl, x0, x1, -, R, G⟩
  subst hsu
  have x2 := x1 (by omega)
  obtain ⟨j, rfl⟩ := Int.eq_ofNat_of_zero_le x0
  have hrl2 := h.sp.gr.size
  have cA : u2.heap[u.heap.size]? = some (.cells #[.int .i64 (-1), .int .i64 1000000, .int .i64 1000001] 3 (0, 0)) := (G.block _ (by simp) (fun e => by have := Option.some.inj e; omega)).trans (heap_new _ _ _ rfl)
  have h3 := (h.below (zBa u (.cells #[.int .i64 (-1), .int .i64 1000000, .int .i64 1000001] 3))).grown G R
  have mk : ∀ nw : Int, SpW w rb (M + 1) (w.heap.size + 2) g c nw ts (u2.setCell ⟨w.heap.size, 0, none⟩ (.int .i64 nw)) := fun nw => ⟨h3.sp.far (o := 0) h3.box ⟨by decide, by decide, by decide⟩ (by omega) _, by rw [set_at h3.box]; rfl, (zHs (by simp only; omega)).trans h3.res⟩
  have hj : j = 0 ∨ j = 1 ∨ j = 2 := by omega
  rcases hj with rfl | rfl | rfl
  ·exact ⟨0, -1, by omega, rfl, zCr cA, h3, mk _⟩
  ·exact ⟨1, 1000000, by omega, rfl, zCr cA, h3, mk _⟩
  ·exact ⟨2, 1000001, by omega, rfl, zCr cA, h3, mk _⟩)
 obtain ⟨n, hn⟩ : ∃ n, ts.length = n := ⟨_, rfl⟩
 have HN : Hid (ts.length = n) := hn
 rw [hn] at W2 F2 hl4' ⊢
 clear hn
 by_cases h0 : n = 0
 ·subst h0
  go_wp2_with fail
  (with_reducible refine (KNOW.out (N) w1.heap.size _ (by simp [World.setCell]) W2.out (by omega) (by omega)).mono ?_)
  rintro e w9 ⟨j, nw, hj3, rfl, cj, W9, W9'⟩
  obtain ⟨fz, p0, p1, b0, b1, l9, fzb⟩ := FZ.out _ _ _ _ _ _ W9
  have hj3' : (j : Int) < 3 := by omega
  have FIN := W9'.fin (M' := N + 3000) (by rw [HN.out]; omega) (by omega)
  rw [HN.out] at FIN b1
  clear W9 W9'
  go_wp2
  refine bodyPost_ret (v := .agg #[.int .i64 nw, .slice (some ⟨g, 0, none⟩) 0 c]) (by simp [results, Tryz.results86, go_sem, p0, p1]) rfl FIN
 ·have hz : ((n : Int) == 0) = false := beq_eq_false_iff_ne.2 (by omega)
  go_wp2_with fail
  (with_reducible refine (KP.out 5 N _ W2.out.sp.rd (by omega) (by omega) (by omega)).mono ?_)
  rintro e w2 ⟨x, rfl, x0, -, -, R2, G2⟩
  have W3 : Hid (SpW w rb (N + 1) (w.heap.size + 2) g c now ts w2) := W2.out.grown G2 R2
  have F3 : Hid (SpF w rb (N + 1) (w.heap.size + 2) g c ts w2) := F2.out.grown G2 R2
  obtain ⟨fz2, -, -, b0, b1, l2, fzb2⟩ := FZ.out _ _ _ _ _ _ W3.out
  rw [HN.out] at b1
  clear W2 F2 R2 G2 q0 q1 fz0 lb0 x0
  by_cases hx : x = 0
  ·subst hx
   go_wp2_with fail
   (with_reducible refine (KNOW.out (N + 1) w2.heap.size _ rfl W3.out (by omega) (by omega)).mono ?_)
   rintro e w9 ⟨j, nw, hj3, rfl, cj, W9, W9'⟩
   obtain ⟨fz, p0, p1, b0, b1, l9, fzb⟩ := FZ.out _ _ _ _ _ _ W9
   have hj3' : (j : Int) < 3 := by omega
   have FIN := W9'.fin (M' := N + 3000) (by rw [HN.out]; omega) (by omega)
   rw [HN.out] at FIN b1
   clear W9 W9'
   go_wp2
   refine bodyPost_ret (v := .agg #[.int .i64 nw, .slice (some ⟨g, 0, none⟩) n c]) (by simp [results, Tryz.results86, go_sem, p0, p1]) rfl FIN
  ·have hxb : (x == 0) = false := by simp [hx]
   go_wp2_with fail
   (with_reducible refine (KP.out (n : Int) (N + 1) _ W3.out.sp.rd (by omega) (by omega) (by omega)).mono ?_)
   rintro e w3 ⟨k', rfl, k0, k1, -, R3, G3⟩
   have k2 := k1 (by omega)
   obtain ⟨k, rfl⟩ := Int.eq_ofNat_of_zero_le k0
   have hkt : k < ts.length := by rw [HN.out]; omega
   obtain ⟨s, hs⟩ := get_of_lt hkt
   have HS : Hid (ts[k]? = some s) := hs
   have W4 : Hid (SpW w rb (N + 2) (w.heap.size + 2) g c now ts w3) := W3.out.grown G3 R3
   have F4 : Hid (SpF w rb (N + 2) (w.heap.size + 2) g c ts w3) := F3.out.grown G3 R3
   clear W3 F3 R3 G3 hs hkt k0 k1 b0 b1 fz2 l2 fzb2
   go_wp2_with fail
   (with_reducible refine (KP.out 7 (N + 2) _ W4.out.sp.rd (by omega) (by omega) (by omega)).mono ?_)
   rintro e w4 ⟨z, rfl, -, -, -, R4, G4⟩
   have W5 : Hid (SpW w rb (N + 3) (w.heap.size + 2) g c now ts w4) := W4.out.grown G4 R4
   have F5 : Hid (SpF w rb (N + 3) (w.heap.size + 2) g c ts w4) := F4.out.grown G4 R4
   clear W4 F4 R4 G4 KNOW
   have hgl : w.heap.size + 2 ≤ g := (own_lt W5.out.sp.own g rfl).1
   have KG : Hid (∀ (M : Nat) (u : World), SpW w rb M (w.heap.size + 2) g c now ts u → u.cell? ⟨g, k * 3, none⟩ = some (.slice s.a s.xs.length s.c) ∧ u.cell? ⟨g, k * 3 + 1, none⟩ = some (.int .i64 s.since) ∧ u.cell? ⟨g, k * 3 + 2, none⟩ = some (.bool s.bad) ∧ (∀ o, u.frozen? ⟨g, o, none⟩ = false) ∧ g < u.heap.size) := fun M u h => by
    have hr := RowB.of_own h.sp.own
    have e : ∀ j v, j < 3 → s.cells[j]? = some v → u.cell? ⟨g, k * 3 + j, none⟩ = some v := fun j v hj hv => hr.cell (by rw [flatS_at ts k j s HS.out hj]; exact hv)
    exact ⟨e 0 _ (by omega) rfl, e 1 _ (by omega) rfl, e 2 _ (by omega) rfl, fun o => hr.unfrozen o, hr.lt⟩
   have SB : Hid (∀ u : World, u.heap[w.heap.size]? = some (.cells #[.int .i64 now, .slice (some ⟨g, 0, none⟩) n c] 27 (0, 0)) → u.cell? ⟨w.heap.size, 0, none⟩ = some (.int .i64 now) ∧ u.cell? ⟨w.heap.size, 1, none⟩ = some (.slice (some ⟨g, 0, none⟩) n c)) := fun u h => ⟨zCr h, zCr h⟩
   have SW : Hid (∀ (M : Nat) (u : World), SpW w rb M (w.heap.size + 2) g c now ts u → u.cell? ⟨w.heap.size, 0, none⟩ = some (.int .i64 now) ∧ u.cell? ⟨w.heap.size, 1, none⟩ = some (.slice (some ⟨g, 0, none⟩) n c)) := fun M u h => SB.out u (by have := h.box; rw [HN.out] at this; exact this)
   have HSB : Hid (∀ (M : Nat) (u : World), SpW w rb M (w.heap.size + 2) g c now ts u → SlotB u (w.heap.size + 2) s) := fun M u h => h.sp.each s (List.mem_of_getElem? HS.out)
   have HSM : Hid (s.xs.length ≤ 1001) := W5.out.sp.sm s (List.mem_of_getElem? HS.out)
   have WL : Hid (s.xs.length ≤ 1000) := HF1.out s (List.mem_of_getElem? HS.out)
   have hkn : (k : Int) < (n : Int) := k2
   obtain ⟨b0, b1⟩ := SW.out _ _ W5.out
   have l4 := lt_of_block W5.out.res
   by_cases hz0 : z = 0
   ·subst hz0
    go_wp2_with fail
    refine wp_region_held_drew (S := fun u => u.cell? ⟨w.heap.size, 0, none⟩ = some (.int .i64 now) ∧ u.cell? ⟨w.heap.size, 1, none⟩ = some (.slice (some ⟨g, 0, none⟩) n c)) (by kernel_rfl) (SW.out _ _ (W5.out.below (draw1 _))) (fun hH => ?_)
    refine zTk 0 55 (.pointer (some ⟨w.heap.size, 1, none⟩)) rfl (fun w hS => by go_simp) hH ?_; simp only [Act.put, zA, zB, zC]
    refine zTk 1 56 (.slice (some ⟨g, 0, none⟩) n c) rfl (fun w hS => by obtain ⟨s0, s1⟩ := hS; go_simp) hH ?_; simp only [Act.put, zA, zB, zC]
    refine zTk 2 57 (.int .i64 k) rfl (fun w hS => by go_simp) hH ?_; simp only [Act.put, zA, zB, zC]
    refine zTk 3 58 (.pointer (some ⟨w.heap.size, 0, none⟩)) rfl (fun w hS => by go_simp) hH ?_; simp only [Act.put, zA, zB, zC]
    refine zTk 4 59 (.int .i64 now) rfl (fun w hS => by obtain ⟨s0, s1⟩ := hS; go_simp) hH ?_; simp only [Act.put, zA, zB, zC]
    refine zTk 6 61 (.pointer (some ⟨rb, 0, none⟩)) rfl (fun w hS => by go_simp) hH ?_; simp only [Act.put, zA, zB, zC]
    refine wpAnyH_ready (rs := [5, 7]) (by kernel_rfl) (by simp) ?_
    refine AllReadyH.cons rfl (fun K hK => ?_) (AllReadyH.cons rfl (fun K hK => ?_) AllReadyH.nil)
    ·go_simp
     have Wd := (W5.out.below (zBa w4 (.cells #[.int .i64 1, .int .i64 0, .int .i64 (-6), .int .i64 (-5)] 3))).below (draw1 _)
     refine hK.out _ _ (SW.out _ _ Wd) (fun hH => ?_)
     clear hK K
     (first | (simp only [zA, zB, zC]) | skip)
     refine zRd 7 (by kernel_rfl) rfl (fun K hK => ?_)
     go_simp
     (with_reducible refine (KP.out 4 (N + 3) _ Wd.sp.rd (by omega) (by omega) (by omega)).mono ?_)
     rintro e w5 ⟨j', rfl, j0, j1, -, R5, G5⟩
     have j2 := j1 (by omega)
     obtain ⟨j, rfl⟩ := Int.eq_ofNat_of_zero_le j0
     have hj4 : (j : Int) < 4 := j2
     have W6 := Wd.grown G5 R5
     go_simp
     refine hK.out _ _ (SW.out _ _ W6) (fun hH => ?_)
     clear hK K
     (first | (simp only [zA, zB, zC]) | skip)
     have A5 : w5.heap[w4.heap.size]? = some (.cells #[.int .i64 1, .int .i64 0, .int .i64 (-6), .int .i64 (-5)] 3 (0, 0)) := (G5.block _ (by simp [World.drew]) (fun e => by have := Option.some.inj e; omega)).trans (heap_new _ _ _ rfl)
     obtain ⟨v, hv⟩ : ∃ v : Int, w5.cell? ⟨w4.heap.size, j, none⟩ = some (.int .i64 v) := by
      rw [zCr A5]
      have hj : j = 0 ∨ j = 1 ∨ j = 2 ∨ j = 3 := by omega
      rcases hj with rfl | rfl | rfl | rfl
      ·exact ⟨1, rfl⟩
      ·exact ⟨0, rfl⟩
      ·exact ⟨-6, rfl⟩
      ·exact ⟨-5, rfl⟩
     have FIN : Hid (∀ X : Int, AnyBenchPost rb (N + 3000) w (.returned (.agg #[.int .i64 now, .slice (some ⟨g, 0, none⟩) n c])) (((w5.setCell ⟨g, k * 3 + 1, none⟩ (.int .i64 X)).setCell ⟨w.heap.size + 1, 0, none⟩ (.int .i64 now)).setCell ⟨w.heap.size + 1, 1, none⟩ (.slice (some ⟨g, 0, none⟩) n c))) := fun X => by
      have h := (W6.store (j := 1) (v := .int .i64 X) (t := ⟨s.a, s.c, s.xs, X, s.bad⟩) HS.out (by omega) rfl (by have h := HSB.out _ _ W6; exact ⟨h.at_, h.each, h.len, h.cap, h.capM⟩) HSM.out).fin (M' := N + 3000) (by rw [List.length_set, HN.out]; omega) (by omega)
      rw [List.length_set, HN.out] at h
      exact h
     have SX : Hid (∀ X : Int, (fun u => u.cell? ⟨w.heap.size, 0, none⟩ = some (.int .i64 now) ∧ u.cell? ⟨w.heap.size, 1, none⟩ = some (.slice (some ⟨g, 0, none⟩) n c)) (w5.setCell ⟨g, k * 3 + 1, none⟩ (.int .i64 X))) := fun X => SB.out _ ((zHs (by simp only; omega)).trans (by have := W6.box; rw [HN.out] at this; exact this))
     obtain ⟨e0, e1, e2, fg, lg⟩ := KG.out _ _ W6
     obtain ⟨fz, p0, p1, b0', b1', l9, fzb⟩ := FZ.out _ _ _ _ _ _ W6
     rw [HN.out] at b1'
     refine zRd 8 (by kernel_rfl) rfl (fun K hK => ?_)
     go_simp
     refine hK.out _ _ (SW.out _ _ W6) (fun hH => ?_)
     clear hK K
     (first | (simp only [zA, zB, zC]) | skip)
     refine zRd 9 (by kernel_rfl) rfl (fun K hK => ?_)
     go_simp
     refine hK.out _ _ (SW.out _ _ W6) (fun hH => ?_)
     clear hK K
     (first | (simp only [zA, zB, zC]) | skip)
     refine zRd 10 (by kernel_rfl) rfl (fun K hK => ?_)
     go_simp
     refine hK.out _ _ (SW.out _ _ W6) (fun hH => ?_)
     clear hK K
     (first | (simp only [zA, zB, zC]) | skip)
     refine zRd 11 (by kernel_rfl) rfl (fun K hK => ?_)
     go_simp
     refine hK.out _ _ (SW.out _ _ W6) (fun hH => ?_)
     clear hK K
     (first | (simp only [zA, zB, zC]) | skip)
     refine zRd 12 (by kernel_rfl) rfl (fun K hK => ?_)
     go_simp
     refine hK.out _ _ (SW.out _ _ W6) (fun hH => ?_)
     clear hK K
     (first | (simp only [zA, zB, zC]) | skip)
     refine zRd 13 (by kernel_rfl) rfl (fun K hK => ?_)
     go_simp
     refine hK.out _ _ (SX.out _) (fun hH => ?_)
     clear hK K
     (first | (simp only [zA, zB, zC]) | skip)
     clear hH SX hv e0 e1 e2 KG SB SW HSB HF KP b0 b1
     refine wpAnyH_done (by kernel_rfl) ?_ _
     go_wp2
     exact bodyPost_ret (v := .agg #[.int .i64 now, .slice (some ⟨g, 0, none⟩) n c]) (by simp [results, Tryz.results86, go_sem, p0, p1]) rfl (FIN.out _)
    ·go_simp
     have Wd := W5.out.below (draw1 w4)
     (with_reducible refine (KP.out 4 (N + 3) _ Wd.sp.rd (by omega) (by omega) (by omega)).mono ?_)
     rintro e w5 ⟨j', rfl, j0, j1, -, R5, G5⟩
     have j2 := j1 (by omega)
     obtain ⟨j, rfl⟩ := Int.eq_ofNat_of_zero_le j0
     have hj4 : (j : Int) < 4 := j2
     have W6 := Wd.grown G5 R5
     go_simp
     refine hK.out _ _ (SW.out _ _ W6) (fun hH => ?_)
     clear hK K
     (first | (simp only [zA, zB, zC]) | skip)
     refine zRd 5 (by kernel_rfl) rfl (fun K hK => ?_)
     go_simp
     have W7 := W6.below (zBa w5 (.cells #[.int .i64 1, .int .i64 0, .int .i64 (-6), .int .i64 (-5)] 3))
     have A5 : (w5.alloc (.cells #[.int .i64 1, .int .i64 0, .int .i64 (-6), .int .i64 (-5)] 3)).heap[w5.heap.size]? = some (.cells #[.int .i64 1, .int .i64 0, .int .i64 (-6), .int .i64 (-5)] 3 (0, 0)) := heap_new _ _ _ rfl
     refine hK.out _ _ (SW.out _ _ W7) (fun hH => ?_)
     clear hK K
     (first | (simp only [zA, zB, zC]) | skip)
     obtain ⟨v, hv⟩ : ∃ v : Int, (w5.alloc (.cells #[.int .i64 1, .int .i64 0, .int .i64 (-6), .int .i64 (-5)] 3)).cell? ⟨w5.heap.size, j, none⟩ = some (.int .i64 v) := by
      rw [zCr A5]
      have hj : j = 0 ∨ j = 1 ∨ j = 2 ∨ j = 3 := by omega
      rcases hj with rfl | rfl | rfl | rfl
      ·exact ⟨1, rfl⟩
      ·exact ⟨0, rfl⟩
      ·exact ⟨-6, rfl⟩
      ·exact ⟨-5, rfl⟩
     have FIN : Hid (∀ X : Int, AnyBenchPost rb (N + 3000) w (.returned (.agg #[.int .i64 now, .slice (some ⟨g, 0, none⟩) n c])) ((((w5.alloc (.cells #[.int .i64 1, .int .i64 0, .int .i64 (-6), .int .i64 (-5)] 3)).setCell ⟨g, k * 3 + 1, none⟩ (.int .i64 X)).setCell ⟨w.heap.size + 1, 0, none⟩ (.int .i64 now)).setCell ⟨w.heap.size + 1, 1, none⟩ (.slice (some ⟨g, 0, none⟩) n c))) := fun X => by
      have h := (W7.store (j := 1) (v := .int .i64 X) (t := ⟨s.a, s.c, s.xs, X, s.bad⟩) HS.out (by omega) rfl (by have h := HSB.out _ _ W7; exact ⟨h.at_, h.each, h.len, h.cap, h.capM⟩) HSM.out).fin (M' := N + 3000) (by rw [List.length_set, HN.out]; omega) (by omega)
      rw [List.length_set, HN.out] at h
      exact h
     have SX : Hid (∀ X : Int, (fun u => u.cell? ⟨w.heap.size, 0, none⟩ = some (.int .i64 now) ∧ u.cell? ⟨w.heap.size, 1, none⟩ = some (.slice (some ⟨g, 0, none⟩) n c)) ((w5.alloc (.cells #[.int .i64 1, .int .i64 0, .int .i64 (-6), .int .i64 (-5)] 3)).setCell ⟨g, k * 3 + 1, none⟩ (.int .i64 X))) := fun X => SB.out _ ((zHs (by simp only; omega)).trans (by have := W7.box; rw [HN.out] at this; exact this))
     obtain ⟨e0, e1, e2, fg, lg⟩ := KG.out _ _ W7
     obtain ⟨fz, p0, p1, b0', b1', l9, fzb⟩ := FZ.out _ _ _ _ _ _ W7
     rw [HN.out] at b1'
     refine zRd 8 (by kernel_rfl) rfl (fun K hK => ?_)
     go_simp
     refine hK.out _ _ (SW.out _ _ W7) (fun hH => ?_)
     clear hK K
     (first | (simp only [zA, zB, zC]) | skip)
     refine zRd 9 (by kernel_rfl) rfl (fun K hK => ?_)
     go_simp
     refine hK.out _ _ (SW.out _ _ W7) (fun hH => ?_)
     clear hK K
     (first | (simp only [zA, zB, zC]) | skip)
     refine zRd 10 (by kernel_rfl) rfl (fun K hK => ?_)
     go_simp
     refine hK.out _ _ (SW.out _ _ W7) (fun hH => ?_)
     clear hK K
     (first | (simp only [zA, zB, zC]) | skip)
     refine zRd 11 (by kernel_rfl) rfl (fun K hK => ?_)
     go_simp
     refine hK.out _ _ (SW.out _ _ W7) (fun hH => ?_)
     clear hK K
     (first | (simp only [zA, zB, zC]) | skip)
     refine zRd 12 (by kernel_rfl) rfl (fun K hK => ?_)
     go_simp
     refine hK.out _ _ (SW.out _ _ W7) (fun hH => ?_)
     clear hK K
     (first | (simp only [zA, zB, zC]) | skip)
     refine zRd 13 (by kernel_rfl) rfl (fun K hK => ?_)
     go_simp
     refine hK.out _ _ (SX.out _) (fun hH => ?_)
     clear hK K
     (first | (simp only [zA, zB, zC]) | skip)
     clear hH SX hv e0 e1 e2 KG SB SW HSB HF KP b0 b1
     refine wpAnyH_done (by kernel_rfl) ?_ _
     go_wp2
     exact bodyPost_ret (v := .agg #[.int .i64 now, .slice (some ⟨g, 0, none⟩) n c]) (by simp [results, Tryz.results86, go_sem, p0, p1]) rfl (FIN.out _)
   ·have hzb0 : (z == 0) = false := beq_eq_false_iff_ne.2 hz0
    by_cases hz1 : z = 1
    ·subst hz1
     have Wd := W5.out.below (draw1 w4)
     have FIN : Hid (∀ X : Bool, AnyBenchPost rb (N + 3000) w (.returned (.agg #[.int .i64 now, .slice (some ⟨g, 0, none⟩) n c])) (((w4.drew.setCell ⟨g, k * 3 + 2, none⟩ (.bool X)).setCell ⟨w.heap.size + 1, 0, none⟩ (.int .i64 now)).setCell ⟨w.heap.size + 1, 1, none⟩ (.slice (some ⟨g, 0, none⟩) n c))) := fun X => by
      have h := (Wd.store (j := 2) (v := .bool X) (t := ⟨s.a, s.c, s.xs, s.since, X⟩) HS.out (by omega) rfl (by have h := HSB.out _ _ Wd; exact ⟨h.at_, h.each, h.len, h.cap, h.capM⟩) HSM.out).fin (M' := N + 3000) (by rw [List.length_set, HN.out]; omega) (by omega)
      rw [List.length_set, HN.out] at h
      exact h
     have SX : Hid (∀ X : Bool, (fun u => u.cell? ⟨w.heap.size, 0, none⟩ = some (.int .i64 now) ∧ u.cell? ⟨w.heap.size, 1, none⟩ = some (.slice (some ⟨g, 0, none⟩) n c)) (w4.drew.setCell ⟨g, k * 3 + 2, none⟩ (.bool X))) := fun X => SB.out _ ((zHs (by simp only; omega)).trans (by have := Wd.box; rw [HN.out] at this; exact this))
     have SD : Hid ((fun u => u.cell? ⟨w.heap.size, 0, none⟩ = some (.int .i64 now) ∧ u.cell? ⟨w.heap.size, 1, none⟩ = some (.slice (some ⟨g, 0, none⟩) n c)) w4.drew) := SW.out _ _ Wd
     obtain ⟨e0, e1, e2, fg, lg⟩ := KG.out _ _ W5.out
     obtain ⟨fz, p0, p1, -, -, l9, fzb⟩ := FZ.out _ _ _ _ _ _ W5.out
     clear Wd
     go_wp2_with fail
     refine wp_region_held_drew (S := fun u => u.cell? ⟨w.heap.size, 0, none⟩ = some (.int .i64 now) ∧ u.cell? ⟨w.heap.size, 1, none⟩ = some (.slice (some ⟨g, 0, none⟩) n c)) (by kernel_rfl) SD.out (fun hH => ?_)
     refine zTk 0 70 (.pointer (some ⟨w.heap.size, 1, none⟩)) rfl (fun w hS => by go_simp) hH ?_; simp only [Act.put, zA, zB, zC]
     refine zTk 1 71 (.slice (some ⟨g, 0, none⟩) n c) rfl (fun w hS => by obtain ⟨s0, s1⟩ := hS; go_simp) hH ?_; simp only [Act.put, zA, zB, zC]
     refine zTk 2 72 (.int .i64 k) rfl (fun w hS => by go_simp) hH ?_; simp only [Act.put, zA, zB, zC]
     refine zTk 3 73 (.pointer (some ⟨w.heap.size, 1, none⟩)) rfl (fun w hS => by go_simp) hH ?_; simp only [Act.put, zA, zB, zC]
     refine zTk 4 74 (.slice (some ⟨g, 0, none⟩) n c) rfl (fun w hS => by obtain ⟨s0, s1⟩ := hS; go_simp) hH ?_; simp only [Act.put, zA, zB, zC]
     refine zTk 5 75 (.int .i64 k) rfl (fun w hS => by go_simp) hH ?_; simp only [Act.put, zA, zB, zC]
     refine zTk 6 76 (.pointer (some ⟨g, k * 3, none⟩)) rfl (fun w hS => by go_simp) hH ?_; simp only [Act.put, zA, zB, zC]
     refine zTk 7 77 (.pointer (some ⟨g, k * 3 + 2, none⟩)) rfl (fun w hS => by go_simp) hH ?_; simp only [Act.put, zA, zB, zC]
     refine zRd 8 (by kernel_rfl) rfl (fun K hK => ?_)
     go_simp
     refine hK.out _ _ SD.out (fun hH => ?_)
     clear hK K
     (first | (simp only [zA, zB, zC]) | skip)
     refine zRd 9 (by kernel_rfl) rfl (fun K hK => ?_)
     go_simp
     refine hK.out _ _ SD.out (fun hH => ?_)
     clear hK K
     (first | (simp only [zA, zB, zC]) | skip)
     refine zRd 10 (by kernel_rfl) rfl (fun K hK => ?_)
     go_simp
     refine hK.out _ _ SD.out (fun hH => ?_)
     clear hK K
     (first | (simp only [zA, zB, zC]) | skip)
     refine zRd 11 (by kernel_rfl) rfl (fun K hK => ?_)
     go_simp
     refine hK.out _ _ SD.out (fun hH => ?_)
     clear hK K
     (first | (simp only [zA, zB, zC]) | skip)
     refine zRd 12 (by kernel_rfl) rfl (fun K hK => ?_)
     go_simp
     refine hK.out _ _ (SX.out _) (fun hH => ?_)
     clear hK K
     (first | (simp only [zA, zB, zC]) | skip)
     clear hH SX e0 e1 e2 KG SB SW HSB HF KP
     refine wpAnyH_done (by kernel_rfl) ?_ _
     go_wp2
     refine bodyPost_ret (v := .agg #[.int .i64 now, .slice (some ⟨g, 0, none⟩) n c]) ?_ rfl ?_
     ·simp [results, Tryz.results86, go_sem, p0, p1]
     ·exact FIN.out _
    ·have hzb1 : (z == 1) = false := beq_eq_false_iff_ne.2 hz1
     by_cases hz2 : z = 2
     ·subst hz2
      have KA : Hid (∀ (M : Nat) (u : World), SpW w rb M (w.heap.size + 2) g c now ts u → SpF w rb M (w.heap.size + 2) g c ts u → M ≤ 870000 → Calls Tryz.prog 24 #[.pointer (some ⟨rb, 0, none⟩)] u fun e u2 => ∃ x : RV, e = .returned (.agg #[.int .i64 x.p.src, .int .i64 x.p.dst, .int .i64 x.p.kind, .int .i64 x.p.id, .int .i64 x.p.hops, .bool x.p.whole, .int .i64 x.p.off, .bool x.p.more, .slice x.a x.zs.length x.c]) ∧ DataB u2 (w.heap.size + 2) x ∧ SpW w rb (M + 2000) (w.heap.size + 2) g c now ts u2 ∧ SpF w rb (M + 2000) (w.heap.size + 2) g c ts u2) := fun M u h hf hM => (l5Any_any rb M u h.sp.rd hM).mono (by
       rintro e u2 ⟨qq, gg, cc, len, zs, rfl, o4, hz4, hl4, -, R4, G4, hby⟩
       subst hz4
       have hu := lt_of_block h.res
       exact ⟨⟨qq, some ⟨gg, 0, none⟩, cc, zs⟩, rfl, ⟨Or.inr ⟨gg, rfl, Nat.le_trans hu (own_lt o4 gg rfl).1, RowB.of_own o4, (own_caps o4).1, (own_caps o4).2⟩, (show zs.length ≤ 1048576 by omega), hby⟩, h.grown G4 R4, hf.grown G4 R4⟩)
      obtain ⟨gL, hsa, hgL, hrL⟩ := (HSB.out _ _ W5.out).at_
      obtain ⟨m, hm⟩ : ∃ m, s.xs.length = m := ⟨_, rfl⟩
      have HM : Hid (s.xs.length = m) := hm
      have HSA : Hid (s.a = some ⟨gL, 0, none⟩) := hsa
      have hm1 : m ≤ 1000 := by have := WL.out; omega
      have hgm : gL ∈ s.blks := by unfold SV.blks; rw [hsa]; simp
      have HGM : Hid (gL ∈ s.blks) := hgm
      clear hrL hm hsa hgm
      have S2 : Hid (∀ (M : Nat) (u : World), SpW w rb M (w.heap.size + 2) g c now ts u → (fun u => (u.cell? ⟨w.heap.size, 0, none⟩ = some (.int .i64 now) ∧ u.cell? ⟨w.heap.size, 1, none⟩ = some (.slice (some ⟨g, 0, none⟩) n c)) ∧ u.cell? ⟨g, k * 3, none⟩ = some (.slice (some ⟨gL, 0, none⟩) m s.c)) u) := fun M u h => ⟨SW.out _ _ h, by have h1 := (KG.out _ _ h).1; rw [HSA.out, HM.out] at h1; exact h1⟩
      have KAd : Hid (Calls Tryz.prog 24 #[.pointer (some ⟨rb, 0, none⟩)] w4.drew fun e u2 => ∃ x : RV, e = .returned (.agg #[.int .i64 x.p.src, .int .i64 x.p.dst, .int .i64 x.p.kind, .int .i64 x.p.id, .int .i64 x.p.hops, .bool x.p.whole, .int .i64 x.p.off, .bool x.p.more, .slice x.a x.zs.length x.c]) ∧ DataB u2 (w.heap.size + 2) x ∧ SpW w rb (N + 3 + 2000) (w.heap.size + 2) g c now ts u2 ∧ SpF w rb (N + 3 + 2000) (w.heap.size + 2) g c ts u2) := KA.out (N + 3) _ (W5.out.below (draw1 _)) (F5.out.below (draw1 _)) (by omega)
      go_wp2_with fail
      have PK : Hid (∀ (x : RV) (w5 w6 : World) (g3 c3 : Nat), DataB w5 (w.heap.size + 2) x → SpW w rb (N + 3 + 2000) (w.heap.size + 2) g c now ts w5 → SpF w rb (N + 3 + 2000) (w.heap.size + 2) g c ts w5 → w6.ownsRow (w.heap.size + 2) 29 9 (.slice (some ⟨g3, 0, none⟩) (m + 1) c3) (m + 1) (s.xs.flatMap RV.cells ++ RV.cells x) → (w5.alloc (.cells (pcells x.p (.slice x.a x.zs.length x.c)) 29)).grownBy w6 (some gL) → Hid (AnyBenchPost rb (N + 3000) w (.returned (.agg #[.int .i64 now, .slice (some ⟨g, 0, none⟩) n c])) (((w6.setCell ⟨g, k * 3, none⟩ (.slice (some ⟨g3, 0, none⟩) (m + 1) c3)).setCell ⟨w.heap.size + 1, 0, none⟩ (.int .i64 now)).setCell ⟨w.heap.size + 1, 1, none⟩ (.slice (some ⟨g, 0, none⟩) n c))) ∧ (fun u => u.cell? ⟨w.heap.size, 0, none⟩ = some (.int .i64 now) ∧ u.cell? ⟨w.heap.size, 1, none⟩ = some (.slice (some ⟨g, 0, none⟩) n c)) w6 ∧ (fun u => u.cell? ⟨w.heap.size, 0, none⟩ = some (.int .i64 now) ∧ u.cell? ⟨w.heap.size, 1, none⟩ = some (.slice (some ⟨g, 0, none⟩) n c)) (w6.setCell ⟨g, k * 3, none⟩ (.slice (some ⟨g3, 0, none⟩) (m + 1) c3)) ∧ w6.cell? ⟨g, k * 3, none⟩ = some (.slice (some ⟨gL, 0, none⟩) m s.c) ∧ (∀ o, w6.frozen? ⟨g, o, none⟩ = false) ∧ (∀ o, w6.frozen? ⟨w.heap.size + 1, o, none⟩ = false) ∧ w6.cell? ⟨w.heap.size + 1, 0, none⟩ = some (.int .i64 0) ∧ w6.cell? ⟨w.heap.size + 1, 1, none⟩ = some (.slice none 0 0) ∧ w.heap.size + 1 < w6.heap.size) := fun x w5 w6 g3 c3 D5 W6 F6 ho3 hg3' => by
       have W7 := W6.below (zBa w5 (.cells (pcells x.p (.slice x.a x.zs.length x.c)) 29))
       have F7 := F6.below (zBa w5 (.cells (pcells x.p (.slice x.a x.zs.length x.c)) 29))
       have D7 := D5.below (zBa w5 (.cells (pcells x.p (.slice x.a x.zs.length x.c)) 29))
       have RO : World.ownsRow _ _ _ _ _ _ _ := F7.caps s (List.mem_of_getElem? HS.out)
       rw [HSA.out, HM.out] at RO
       have nd : ∀ y, DataB (w5.alloc (.cells (pcells x.p (.slice x.a x.zs.length x.c)) 29)) (w.heap.size + 2) y → DataB w6 (w.heap.size + 2) y := fun y hy => hy.kept fun b hb => hg3'.block b (hy.blk b hb).2.1 (fun e => by
        obtain ⟨_, _, cu, hcu⟩ := hy.blk b hb
        obtain ⟨cu', hcu'⟩ := own_at RO gL rfl
        rw [Option.some.inj e, hcu'] at hcu
        cases hcu)
       have TS : SlotB w6 (w.heap.size + 2) ⟨some ⟨g3, 0, none⟩, c3, s.xs ++ [x], s.since, s.bad⟩ := ⟨⟨g3, rfl, (own_lt ho3 g3 rfl).1, (by rw [List.flatMap_append]; simpa using RowB.of_own ho3)⟩, (fun y hy => by
        rcases List.mem_append.1 hy with h1 | h1
        ·exact nd y ((HSB.out _ _ W7).each y h1)
        ·rw [List.mem_singleton.1 h1]; exact nd x D7), (show (s.xs ++ [x]).length ≤ 1048576 by rw [List.length_append, HM.out]; simp; omega), (show (s.xs ++ [x]).length ≤ c3 by rw [List.length_append, HM.out]; exact (own_caps ho3).1), (own_caps ho3).2⟩
       have W8 := W7.swapAt (v := .slice (some ⟨g3, 0, none⟩) (m + 1) c3) (Nat.le_refl _) F7.fo HS.out HGM.out hg3' TS (by show [Value.slice _ (s.xs ++ [x]).length _, _, _] = _; rw [List.length_append, HM.out]; rfl) (show (s.xs ++ [x]).length ≤ 1001 by rw [List.length_append, HM.out]; simp; omega)
       obtain ⟨e0, e1, e2, fg, lg⟩ := KG.out _ _ W7
       obtain ⟨fz, p0, p1, q0, q1, l9, fzb⟩ := FZ.out _ _ _ _ _ _ W7
       rw [HN.out] at q1
       rw [HSA.out, HM.out] at e0
       have gLl := (own_lt RO gL rfl).1
       have kb : ∀ b, b < (w5.alloc (.cells (pcells x.p (.slice x.a x.zs.length x.c)) 29)).heap.size → b ≠ gL → w6.heap[b]? = (w5.alloc (.cells (pcells x.p (.slice x.a x.zs.length x.c)) 29)).heap[b]? := fun b hb hn => hg3'.block b hb (fun e => hn (Option.some.inj e))
       have ngL : g ≠ gL := fun e => by
        obtain ⟨cu', hcu'⟩ := own_at RO gL rfl
        obtain ⟨cg, hcg⟩ := own_at W7.sp.own g rfl
        rw [e, hcu'] at hcg
        cases hcg
       refine ⟨?_, ⟨(World.cell?_of_block (a := ⟨w.heap.size, 0, none⟩) (kb w.heap.size (by omega) (by omega))).trans q0, (World.cell?_of_block (a := ⟨w.heap.size, 1, none⟩) (kb w.heap.size (by omega) (by omega))).trans q1⟩, SB.out _ (by have h := W8.box; rw [List.length_set, HN.out] at h; exact h), (World.cell?_of_block (a := ⟨g, k * 3, none⟩) (kb g lg ngL)).trans e0, fun o => (by unfold World.frozen?; rw [kb g lg ngL]; exact fg o), fun o => (by unfold World.frozen?; rw [kb (w.heap.size + 1) (by omega) (by omega)]; exact fz o), (World.cell?_of_block (a := ⟨w.heap.size + 1, 0, none⟩) (kb (w.heap.size + 1) (by omega) (by omega))).trans p0, (World.cell?_of_block (a := ⟨w.heap.size + 1, 1, none⟩) (kb (w.heap.size + 1) (by omega) (by omega))).trans p1, Nat.lt_of_lt_of_le l9 hg3'.size⟩
       have h := W8.fin (M' := N + 3000) (by rw [List.length_set, HN.out]; omega) (by omega)
       rw [List.length_set, HN.out] at h
       exact h
      have Wd := W5.out.below (draw1 w4)
      obtain ⟨d0, -, -, -, -⟩ := KG.out _ _ Wd
      rw [HSA.out, HM.out] at d0
      refine wp_region_held_drew (S := fun u => u.cell? ⟨w.heap.size, 0, none⟩ = some (.int .i64 now) ∧ u.cell? ⟨w.heap.size, 1, none⟩ = some (.slice (some ⟨g, 0, none⟩) n c)) (by kernel_rfl) (SW.out _ _ Wd) (fun hH => ?_)
      refine zTk 0 84 (.pointer (some ⟨w.heap.size, 1, none⟩)) rfl (fun w hS => by go_simp) hH ?_; simp only [Act.put, zA, zB, zC]
      refine zTk 1 85 (.slice (some ⟨g, 0, none⟩) n c) rfl (fun w hS => by obtain ⟨s0, s1⟩ := hS; go_simp) hH ?_; simp only [Act.put, zA, zB, zC]
      refine zTk 2 86 (.int .i64 k) rfl (fun w hS => by go_simp) hH ?_; simp only [Act.put, zA, zB, zC]
      refine zTk 3 87 (.pointer (some ⟨w.heap.size, 1, none⟩)) rfl (fun w hS => by go_simp) hH ?_; simp only [Act.put, zA, zB, zC]
      refine zTk 4 88 (.slice (some ⟨g, 0, none⟩) n c) rfl (fun w hS => by obtain ⟨s0, s1⟩ := hS; go_simp) hH ?_; simp only [Act.put, zA, zB, zC]
      refine zTk 5 89 (.int .i64 k) rfl (fun w hS => by go_simp) hH ?_; simp only [Act.put, zA, zB, zC]
      refine zTk 6 90 (.pointer (some ⟨g, k * 3, none⟩)) rfl (fun w hS => by go_simp) hH ?_; simp only [Act.put, zA, zB, zC]
      refine zTk 7 91 (.pointer (some ⟨g, k * 3, none⟩)) rfl (fun w hS => by go_simp) hH ?_; simp only [Act.put, zA, zB, zC]
      refine zTk 9 93 (.pointer (some ⟨rb, 0, none⟩)) rfl (fun w hS => by go_simp) hH ?_; simp only [Act.put, zA, zB, zC]
      refine wpAnyH_ready (rs := [8, 10]) (by kernel_rfl) (by simp) ?_
      refine AllReadyH.cons rfl (fun K hK => ?_) (AllReadyH.cons rfl (fun K hK => ?_) AllReadyH.nil)
      ·go_simp
       refine hK.out _ _ (SW.out _ _ Wd) (fun hH => ?_)
       clear hK K
       (first | (simp only [zA, zB, zC]) | skip)
       refine zRd 10 (by kernel_rfl) rfl (fun K hK => ?_)
       go_simp
       (with_reducible refine KAd.out.mono ?_)
       rintro e w5 ⟨x, rfl, D5, W6, F6⟩
       go_simp
       refine hK.out _ _ (SW.out _ _ W6) (fun hH => ?_)
       clear hK K
       (first | (simp only [zA, zB, zC]) | skip)
       refine zRd 11 (by kernel_rfl) rfl (fun K hK => ?_)
       go_simp
       have W7 := W6.below (zBa w5 (.cells (pcells x.p (.slice x.a x.zs.length x.c)) 29))
       have F7 := F6.below (zBa w5 (.cells (pcells x.p (.slice x.a x.zs.length x.c)) 29))
       refine hK.out _ _ (SW.out _ _ W7) (fun hH => ?_)
       clear hK K
       (first | (simp only [zA, zB, zC]) | skip)
       have RO : World.ownsRow _ _ _ _ _ _ _ := F7.caps s (List.mem_of_getElem? HS.out)
       rw [HSA.out, HM.out] at RO
       have l7 := lt_of_block W6.res
       refine zRd 12 (by kernel_rfl) rfl (fun K hK => ?_)
       refine step_append_d rfl (some 96) rfl (.tmp 92) (.tmp 95) 23 rfl (w.heap.size + 2) 29 ti _ 9 88 Tryz.underlying23 hti hy0 hy1 hy2 rfl (by decide) (.slice (some ⟨gL, 0, none⟩) m s.c) m (s.xs.flatMap RV.cells) rfl RO ⟨w5.heap.size, 0, none⟩ 1 1 (RV.cells x) rfl rfl (rcells_new w5 x) (rcells_one x) (by unfold maxLen; omega) (by omega) (by simp; omega) ?_
       intro v3 w6 ho3 hg3 hn3
       obtain ⟨g3, c3, rfl⟩ : ∃ g3 c3, v3 = .slice (some ⟨g3, 0, none⟩) (m + 1) c3 := form_of ho3 (fun e => nomatch (hn3.1 e).1)
       obtain ⟨FIN, S6, S8, f0, f1, f2, f3, f4, l6⟩ := PK.out x w5 w6 g3 c3 D5 W6 F6 ho3 hg3
       have f5 := S6.1
       have f6 := S6.2
       refine hK.out _ _ S6 (fun hH => ?_)
       clear hK K RO W7 F7 W6 F6 D5 ho3 hg3 hn3
       simp only [Act.put, zA, zB, zC]
       refine zRd 13 (by kernel_rfl) rfl (fun K hK => ?_)
       go_simp
       refine hK.out _ _ S6 (fun hH => ?_)
       clear hK K
       (first | (simp only [zA, zB, zC]) | skip)
       refine zRd 14 (by kernel_rfl) rfl (fun K hK => ?_)
       go_simp
       refine hK.out _ _ S6 (fun hH => ?_)
       clear hK K
       (first | (simp only [zA, zB, zC]) | skip)
       refine zRd 15 (by kernel_rfl) rfl (fun K hK => ?_)
       go_simp
       refine hK.out _ _ S8 (fun hH => ?_)
       clear hK K
       (first | (simp only [zA, zB, zC]) | skip)
       clear hH S6 S8 S2 KG SB SW HSB HF KP W5 F5 b0 b1 PK
       refine wpAnyH_done (by kernel_rfl) ?_ _
       go_wp2
       refine bodyPost_ret (v := .agg #[.int .i64 now, .slice (some ⟨g, 0, none⟩) n c]) ?_ rfl ?_
       ·simp [results, Tryz.results86, go_sem, f3, f4]
       ·exact FIN.out
      ·go_simp
       (with_reducible refine KAd.out.mono ?_)
       rintro e w5 ⟨x, rfl, D5, W6, F6⟩
       go_simp
       refine hK.out _ _ (SW.out _ _ W6) (fun hH => ?_)
       clear hK K
       (first | (simp only [zA, zB, zC]) | skip)
       obtain ⟨d5, -, -, -, -⟩ := KG.out _ _ W6
       rw [HSA.out, HM.out] at d5
       have lg5 := (KG.out _ _ W6).2.2.2.2
       refine wpAnyH_ready (rs := [8, 11]) (by kernel_rfl) (by simp) ?_
       refine AllReadyH.cons rfl (fun K hK => ?_) (AllReadyH.cons rfl (fun K hK => ?_) AllReadyH.nil)
       ·go_simp
        refine hK.out _ _ (SW.out _ _ W6) (fun hH => ?_)
        clear hK K
        (first | (simp only [zA, zB, zC]) | skip)
        refine zRd 11 (by kernel_rfl) rfl (fun K hK => ?_)
        go_simp
        have W7 := W6.below (zBa w5 (.cells (pcells x.p (.slice x.a x.zs.length x.c)) 29))
        have F7 := F6.below (zBa w5 (.cells (pcells x.p (.slice x.a x.zs.length x.c)) 29))
        refine hK.out _ _ (SW.out _ _ W7) (fun hH => ?_)
        clear hK K
        (first | (simp only [zA, zB, zC]) | skip)
        have RO : World.ownsRow _ _ _ _ _ _ _ := F7.caps s (List.mem_of_getElem? HS.out)
        rw [HSA.out, HM.out] at RO
        have l7 := lt_of_block W6.res
        refine zRd 12 (by kernel_rfl) rfl (fun K hK => ?_)
        refine step_append_d rfl (some 96) rfl (.tmp 92) (.tmp 95) 23 rfl (w.heap.size + 2) 29 ti _ 9 88 Tryz.underlying23 hti hy0 hy1 hy2 rfl (by decide) (.slice (some ⟨gL, 0, none⟩) m s.c) m (s.xs.flatMap RV.cells) rfl RO ⟨w5.heap.size, 0, none⟩ 1 1 (RV.cells x) rfl rfl (rcells_new w5 x) (rcells_one x) (by unfold maxLen; omega) (by omega) (by simp; omega) ?_
        intro v3 w6 ho3 hg3 hn3
        obtain ⟨g3, c3, rfl⟩ : ∃ g3 c3, v3 = .slice (some ⟨g3, 0, none⟩) (m + 1) c3 := form_of ho3 (fun e => nomatch (hn3.1 e).1)
        obtain ⟨FIN, S6, S8, f0, f1, f2, f3, f4, l6⟩ := PK.out x w5 w6 g3 c3 D5 W6 F6 ho3 hg3
        have f5 := S6.1
        have f6 := S6.2
        refine hK.out _ _ S6 (fun hH => ?_)
        clear hK K RO W7 F7 W6 F6 D5 ho3 hg3 hn3
        simp only [Act.put, zA, zB, zC]
        refine zRd 13 (by kernel_rfl) rfl (fun K hK => ?_)
        go_simp
        refine hK.out _ _ S6 (fun hH => ?_)
        clear hK K
        (first | (simp only [zA, zB, zC]) | skip)
        refine zRd 14 (by kernel_rfl) rfl (fun K hK => ?_)
        go_simp
        refine hK.out _ _ S6 (fun hH => ?_)
        clear hK K
        (first | (simp only [zA, zB, zC]) | skip)
        refine zRd 15 (by kernel_rfl) rfl (fun K hK => ?_)
        go_simp
        refine hK.out _ _ S8 (fun hH => ?_)
        clear hK K
        (first | (simp only [zA, zB, zC]) | skip)
        clear hH S6 S8 S2 KG SB SW HSB HF KP W5 F5 b0 b1 PK
        refine wpAnyH_done (by kernel_rfl) ?_ _
        go_wp2
        refine bodyPost_ret (v := .agg #[.int .i64 now, .slice (some ⟨g, 0, none⟩) n c]) ?_ rfl ?_
        ·simp [results, Tryz.results86, go_sem, f3, f4]
        ·exact FIN.out
       ·go_simp
        have W7 := W6.below (zBa w5 (.cells (pcells x.p (.slice x.a x.zs.length x.c)) 29))
        have F7 := F6.below (zBa w5 (.cells (pcells x.p (.slice x.a x.zs.length x.c)) 29))
        refine hK.out _ _ (SW.out _ _ W7) (fun hH => ?_)
        clear hK K
        (first | (simp only [zA, zB, zC]) | skip)
        refine zRd 8 (by kernel_rfl) rfl (fun K hK => ?_)
        go_simp
        refine hK.out _ _ (SW.out _ _ W7) (fun hH => ?_)
        clear hK K
        (first | (simp only [zA, zB, zC]) | skip)
        have RO : World.ownsRow _ _ _ _ _ _ _ := F7.caps s (List.mem_of_getElem? HS.out)
        rw [HSA.out, HM.out] at RO
        have l7 := lt_of_block W6.res
        refine zRd 12 (by kernel_rfl) rfl (fun K hK => ?_)
        refine step_append_d rfl (some 96) rfl (.tmp 92) (.tmp 95) 23 rfl (w.heap.size + 2) 29 ti _ 9 88 Tryz.underlying23 hti hy0 hy1 hy2 rfl (by decide) (.slice (some ⟨gL, 0, none⟩) m s.c) m (s.xs.flatMap RV.cells) rfl RO ⟨w5.heap.size, 0, none⟩ 1 1 (RV.cells x) rfl rfl (rcells_new w5 x) (rcells_one x) (by unfold maxLen; omega) (by omega) (by simp; omega) ?_
        intro v3 w6 ho3 hg3 hn3
        obtain ⟨g3, c3, rfl⟩ : ∃ g3 c3, v3 = .slice (some ⟨g3, 0, none⟩) (m + 1) c3 := form_of ho3 (fun e => nomatch (hn3.1 e).1)
        obtain ⟨FIN, S6, S8, f0, f1, f2, f3, f4, l6⟩ := PK.out x w5 w6 g3 c3 D5 W6 F6 ho3 hg3
        have f5 := S6.1
        have f6 := S6.2
        refine hK.out _ _ S6 (fun hH => ?_)
        clear hK K RO W7 F7 W6 F6 D5 ho3 hg3 hn3
        simp only [Act.put, zA, zB, zC]
        refine zRd 13 (by kernel_rfl) rfl (fun K hK => ?_)
        go_simp
        refine hK.out _ _ S6 (fun hH => ?_)
        clear hK K
        (first | (simp only [zA, zB, zC]) | skip)
        refine zRd 14 (by kernel_rfl) rfl (fun K hK => ?_)
        go_simp
        refine hK.out _ _ S6 (fun hH => ?_)
        clear hK K
        (first | (simp only [zA, zB, zC]) | skip)
        refine zRd 15 (by kernel_rfl) rfl (fun K hK => ?_)
        go_simp
        refine hK.out _ _ S8 (fun hH => ?_)
        clear hK K
        (first | (simp only [zA, zB, zC]) | skip)
        clear hH S6 S8 S2 KG SB SW HSB HF KP W5 F5 b0 b1 PK
        refine wpAnyH_done (by kernel_rfl) ?_ _
        go_wp2
        refine bodyPost_ret (v := .agg #[.int .i64 now, .slice (some ⟨g, 0, none⟩) n c]) ?_ rfl ?_
        ·simp [results, Tryz.results86, go_sem, f3, f4]
        ·exact FIN.out
     ·have hzb2 : (z == 2) = false := beq_eq_false_iff_ne.2 hz2
      by_cases hz3 : z = 3
      ·subst hz3
       have KA : Hid (∀ (M : Nat) (u : World), SpW w rb M (w.heap.size + 2) g c now ts u → SpF w rb M (w.heap.size + 2) g c ts u → M ≤ 870000 → Calls Tryz.prog 24 #[.pointer (some ⟨rb, 0, none⟩)] u fun e u2 => ∃ x : RV, e = .returned (.agg #[.int .i64 x.p.src, .int .i64 x.p.dst, .int .i64 x.p.kind, .int .i64 x.p.id, .int .i64 x.p.hops, .bool x.p.whole, .int .i64 x.p.off, .bool x.p.more, .slice x.a x.zs.length x.c]) ∧ DataB u2 (w.heap.size + 2) x ∧ SpW w rb (M + 2000) (w.heap.size + 2) g c now ts u2 ∧ SpF w rb (M + 2000) (w.heap.size + 2) g c ts u2) := fun M u h hf hM => (l5Any_any rb M u h.sp.rd hM).mono (by
        rintro e u2 ⟨qq, gg, cc, len, zs, rfl, o4, hz4, hl4, -, R4, G4, hby⟩
        subst hz4
        have hu := lt_of_block h.res
        exact ⟨⟨qq, some ⟨gg, 0, none⟩, cc, zs⟩, rfl, ⟨Or.inr ⟨gg, rfl, Nat.le_trans hu (own_lt o4 gg rfl).1, RowB.of_own o4, (own_caps o4).1, (own_caps o4).2⟩, (show zs.length ≤ 1048576 by omega), hby⟩, h.grown G4 R4, hf.grown G4 R4⟩)
       obtain ⟨gL, hsa, hgL, hrL⟩ := (HSB.out _ _ W5.out).at_
       obtain ⟨m, hm⟩ : ∃ m, s.xs.length = m := ⟨_, rfl⟩
       have HM : Hid (s.xs.length = m) := hm
       have HSA : Hid (s.a = some ⟨gL, 0, none⟩) := hsa
       have hm1 : m ≤ 1000 := by have := WL.out; omega
       have hgm : gL ∈ s.blks := by unfold SV.blks; rw [hsa]; simp
       have HGM : Hid (gL ∈ s.blks) := hgm
       clear hrL hm hsa hgm
       have S2 : Hid (∀ (M : Nat) (u : World), SpW w rb M (w.heap.size + 2) g c now ts u → (fun u => (u.cell? ⟨w.heap.size, 0, none⟩ = some (.int .i64 now) ∧ u.cell? ⟨w.heap.size, 1, none⟩ = some (.slice (some ⟨g, 0, none⟩) n c)) ∧ u.cell? ⟨g, k * 3, none⟩ = some (.slice (some ⟨gL, 0, none⟩) m s.c)) u) := fun M u h => ⟨SW.out _ _ h, by have h1 := (KG.out _ _ h).1; rw [HSA.out, HM.out] at h1; exact h1⟩
       have KAd : Hid (Calls Tryz.prog 24 #[.pointer (some ⟨rb, 0, none⟩)] w4.drew fun e u2 => ∃ x : RV, e = .returned (.agg #[.int .i64 x.p.src, .int .i64 x.p.dst, .int .i64 x.p.kind, .int .i64 x.p.id, .int .i64 x.p.hops, .bool x.p.whole, .int .i64 x.p.off, .bool x.p.more, .slice x.a x.zs.length x.c]) ∧ DataB u2 (w.heap.size + 2) x ∧ SpW w rb (N + 3 + 2000) (w.heap.size + 2) g c now ts u2 ∧ SpF w rb (N + 3 + 2000) (w.heap.size + 2) g c ts u2) := KA.out (N + 3) _ (W5.out.below (draw1 _)) (F5.out.below (draw1 _)) (by omega)
       obtain ⟨y0, r, hyr⟩ : ∃ y0 r, s.xs = y0 :: r := by
        obtain ⟨y, hy⟩ := HF.out s (List.mem_of_getElem? HS.out)
        cases hxs : s.xs with
        | nil => rw [hxs] at hy; simp at hy
        | cons a r => exact ⟨a, r, rfl⟩
       have HYR : Hid (s.xs = y0 :: r) := hyr
       have hm0 : (0 : Int) < (m : Int) := by have h := HM.out; rw [hyr] at h; simp at h; omega
       have hm0' : 0 < m := by omega
       clear hyr
       go_wp2_with fail
       refine wp_region_held_drew (S := fun u => (u.cell? ⟨w.heap.size, 0, none⟩ = some (.int .i64 now) ∧ u.cell? ⟨w.heap.size, 1, none⟩ = some (.slice (some ⟨g, 0, none⟩) n c)) ∧ u.cell? ⟨g, k * 3, none⟩ = some (.slice (some ⟨gL, 0, none⟩) m s.c)) (by kernel_rfl) (S2.out _ _ (W5.out.below (draw1 _))) (fun hH => ?_)
       refine zTk 0 101 (.pointer (some ⟨w.heap.size, 1, none⟩)) rfl (fun w hS => by go_simp) hH ?_; simp only [Act.put, zA, zB, zC]
       refine zTk 1 102 (.slice (some ⟨g, 0, none⟩) n c) rfl (fun w hS => by obtain ⟨⟨s0, s1⟩, s2⟩ := hS; go_simp) hH ?_; simp only [Act.put, zA, zB, zC]
       refine zTk 2 103 (.int .i64 k) rfl (fun w hS => by go_simp) hH ?_; simp only [Act.put, zA, zB, zC]
       refine zTk 3 104 (.pointer (some ⟨g, k * 3, none⟩)) rfl (fun w hS => by go_simp) hH ?_; simp only [Act.put, zA, zB, zC]
       refine zTk 4 105 (.pointer (some ⟨g, k * 3, none⟩)) rfl (fun w hS => by go_simp) hH ?_; simp only [Act.put, zA, zB, zC]
       refine zTk 5 106 (.slice (some ⟨gL, 0, none⟩) m s.c) rfl (fun w hS => by obtain ⟨⟨s0, s1⟩, s2⟩ := hS; go_simp) hH ?_; simp only [Act.put, zA, zB, zC]
       refine zTk 6 107 (.pointer (some ⟨rb, 0, none⟩)) rfl (fun w hS => by go_simp) hH ?_; simp only [Act.put, zA, zB, zC]
       refine zRd 7 (by kernel_rfl) rfl (fun K hK => ?_)
       go_simp
       (with_reducible refine KAd.out.mono ?_)
       rintro e w5 ⟨x, rfl, D5, W6, F6⟩
       go_simp
       refine hK.out _ _ (S2.out _ _ W6) (fun hH => ?_)
       clear hK K
       (first | (simp only [zA, zB, zC]) | skip)
       refine zRd 8 (by kernel_rfl) rfl (fun K hK => ?_)
       go_simp
       refine hK.out _ _ (S2.out _ _ W6) (fun hH => ?_)
       clear hK K
       (first | (simp only [zA, zB, zC]) | skip)
       have RL0 := RowB.of_own (show World.ownsRow _ _ _ _ (.slice (some ⟨gL, 0, none⟩) _ _) _ _ from by have h := F6.caps s (List.mem_of_getElem? HS.out); unfold CapS at h; rw [HSA.out] at h; exact h)
       obtain ⟨cL, hcL, -⟩ := id RL0
       have gLl := ((HSB.out _ _ W6).blk gL HGM.out).1
       have RL9 : RowB (((((((((w5.setCell ⟨gL, 0, none⟩ (.int .i64 x.p.src)).setCell ⟨gL, 1, none⟩ (.int .i64 x.p.dst)).setCell ⟨gL, 2, none⟩ (.int .i64 x.p.kind)).setCell ⟨gL, 3, none⟩ (.int .i64 x.p.id)).setCell ⟨gL, 4, none⟩ (.int .i64 x.p.hops)).setCell ⟨gL, 5, none⟩ (.bool x.p.whole)).setCell ⟨gL, 6, none⟩ (.int .i64 x.p.off)).setCell ⟨gL, 7, none⟩ (.bool x.p.more)).setCell ⟨gL, 8, none⟩ (.slice x.a x.zs.length x.c)) 29 gL ((x :: r).flatMap RV.cells) := by
        have h := (((((((((RL0.set 0 (.int .i64 x.p.src)).set 1 (.int .i64 x.p.dst)).set 2 (.int .i64 x.p.kind)).set 3 (.int .i64 x.p.id)).set 4 (.int .i64 x.p.hops)).set 5 (.bool x.p.whole)).set 6 (.int .i64 x.p.off)).set 7 (.bool x.p.more)).set 8 (.slice x.a x.zs.length x.c))
        rw [HYR.out] at h
        exact h
       have k9 : ∀ b, b ≠ gL → (((((((((w5.setCell ⟨gL, 0, none⟩ (.int .i64 x.p.src)).setCell ⟨gL, 1, none⟩ (.int .i64 x.p.dst)).setCell ⟨gL, 2, none⟩ (.int .i64 x.p.kind)).setCell ⟨gL, 3, none⟩ (.int .i64 x.p.id)).setCell ⟨gL, 4, none⟩ (.int .i64 x.p.hops)).setCell ⟨gL, 5, none⟩ (.bool x.p.whole)).setCell ⟨gL, 6, none⟩ (.int .i64 x.p.off)).setCell ⟨gL, 7, none⟩ (.bool x.p.more)).setCell ⟨gL, 8, none⟩ (.slice x.a x.zs.length x.c)).heap[b]? = w5.heap[b]? := fun b hb => heap9 _ _ _ hb _ _ _ _ _ _ _ _ _
       have B9 : Below gL w5 (((((((((w5.setCell ⟨gL, 0, none⟩ (.int .i64 x.p.src)).setCell ⟨gL, 1, none⟩ (.int .i64 x.p.dst)).setCell ⟨gL, 2, none⟩ (.int .i64 x.p.kind)).setCell ⟨gL, 3, none⟩ (.int .i64 x.p.id)).setCell ⟨gL, 4, none⟩ (.int .i64 x.p.hops)).setCell ⟨gL, 5, none⟩ (.bool x.p.whole)).setCell ⟨gL, 6, none⟩ (.int .i64 x.p.off)).setCell ⟨gL, 7, none⟩ (.bool x.p.more)).setCell ⟨gL, 8, none⟩ (.slice x.a x.zs.length x.c)) := below9 (Below.refl _ _) (Nat.le_refl _) _ _ _ _ _ _ _ _ _
       have G9 : w5.grownBy (((((((((w5.setCell ⟨gL, 0, none⟩ (.int .i64 x.p.src)).setCell ⟨gL, 1, none⟩ (.int .i64 x.p.dst)).setCell ⟨gL, 2, none⟩ (.int .i64 x.p.kind)).setCell ⟨gL, 3, none⟩ (.int .i64 x.p.id)).setCell ⟨gL, 4, none⟩ (.int .i64 x.p.hops)).setCell ⟨gL, 5, none⟩ (.bool x.p.whole)).setCell ⟨gL, 6, none⟩ (.int .i64 x.p.off)).setCell ⟨gL, 7, none⟩ (.bool x.p.more)).setCell ⟨gL, 8, none⟩ (.slice x.a x.zs.length x.c)) (some gL) := ⟨B9.os, B9.tape, B9.output, B9.size, fun b _ hne => k9 b (fun e => hne (by rw [e]))⟩
       have nd : ∀ y, DataB w5 (w.heap.size + 2) y → DataB (((((((((w5.setCell ⟨gL, 0, none⟩ (.int .i64 x.p.src)).setCell ⟨gL, 1, none⟩ (.int .i64 x.p.dst)).setCell ⟨gL, 2, none⟩ (.int .i64 x.p.kind)).setCell ⟨gL, 3, none⟩ (.int .i64 x.p.id)).setCell ⟨gL, 4, none⟩ (.int .i64 x.p.hops)).setCell ⟨gL, 5, none⟩ (.bool x.p.whole)).setCell ⟨gL, 6, none⟩ (.int .i64 x.p.off)).setCell ⟨gL, 7, none⟩ (.bool x.p.more)).setCell ⟨gL, 8, none⟩ (.slice x.a x.zs.length x.c)) (w.heap.size + 2) y := fun y hy => hy.kept fun b hb => k9 b (fun e => by
        obtain ⟨_, _, cu, hcu⟩ := hy.blk b hb
        rw [e, hcL] at hcu
        cases hcu)
       have TS : SlotB (((((((((w5.setCell ⟨gL, 0, none⟩ (.int .i64 x.p.src)).setCell ⟨gL, 1, none⟩ (.int .i64 x.p.dst)).setCell ⟨gL, 2, none⟩ (.int .i64 x.p.kind)).setCell ⟨gL, 3, none⟩ (.int .i64 x.p.id)).setCell ⟨gL, 4, none⟩ (.int .i64 x.p.hops)).setCell ⟨gL, 5, none⟩ (.bool x.p.whole)).setCell ⟨gL, 6, none⟩ (.int .i64 x.p.off)).setCell ⟨gL, 7, none⟩ (.bool x.p.more)).setCell ⟨gL, 8, none⟩ (.slice x.a x.zs.length x.c)) (w.heap.size + 2) ⟨s.a, s.c, x :: r, s.since, s.bad⟩ := ⟨⟨gL, HSA.out, gLl, RL9⟩, (fun y hy => by
        rcases List.mem_cons.1 hy with h1 | h1
        ·rw [h1]; exact nd x D5
        ·exact nd y ((HSB.out _ _ W6).each y (by rw [HYR.out]; exact List.mem_cons_of_mem _ h1))), (by have h := (HSB.out _ _ W6).len; rw [HYR.out] at h; exact h), (by have h := (HSB.out _ _ W6).cap; rw [HYR.out] at h; exact h), (HSB.out _ _ W6).capM⟩
       have W9 := W6.swap (Nat.le_refl _) F6.fo HS.out HGM.out G9 TS (by unfold SV.cells; rw [HYR.out]; rfl) (by have h := HSM.out; rw [HYR.out] at h; exact h)
       have FIN : Hid (AnyBenchPost rb (N + 3000) w (.returned (.agg #[.int .i64 now, .slice (some ⟨g, 0, none⟩) n c])) (((((((((((w5.setCell ⟨gL, 0, none⟩ (.int .i64 x.p.src)).setCell ⟨gL, 1, none⟩ (.int .i64 x.p.dst)).setCell ⟨gL, 2, none⟩ (.int .i64 x.p.kind)).setCell ⟨gL, 3, none⟩ (.int .i64 x.p.id)).setCell ⟨gL, 4, none⟩ (.int .i64 x.p.hops)).setCell ⟨gL, 5, none⟩ (.bool x.p.whole)).setCell ⟨gL, 6, none⟩ (.int .i64 x.p.off)).setCell ⟨gL, 7, none⟩ (.bool x.p.more)).setCell ⟨gL, 8, none⟩ (.slice x.a x.zs.length x.c)).setCell ⟨w.heap.size + 1, 0, none⟩ (.int .i64 now)).setCell ⟨w.heap.size + 1, 1, none⟩ (.slice (some ⟨g, 0, none⟩) n c))) := by
        have h := W9.fin (M' := N + 3000) (by rw [List.length_set, HN.out]; omega) (by omega)
        rw [List.length_set, HN.out] at h
        exact h
       have S9 : (fun u => (u.cell? ⟨w.heap.size, 0, none⟩ = some (.int .i64 now) ∧ u.cell? ⟨w.heap.size, 1, none⟩ = some (.slice (some ⟨g, 0, none⟩) n c)) ∧ u.cell? ⟨g, k * 3, none⟩ = some (.slice (some ⟨gL, 0, none⟩) m s.c)) (((((((((w5.setCell ⟨gL, 0, none⟩ (.int .i64 x.p.src)).setCell ⟨gL, 1, none⟩ (.int .i64 x.p.dst)).setCell ⟨gL, 2, none⟩ (.int .i64 x.p.kind)).setCell ⟨gL, 3, none⟩ (.int .i64 x.p.id)).setCell ⟨gL, 4, none⟩ (.int .i64 x.p.hops)).setCell ⟨gL, 5, none⟩ (.bool x.p.whole)).setCell ⟨gL, 6, none⟩ (.int .i64 x.p.off)).setCell ⟨gL, 7, none⟩ (.bool x.p.more)).setCell ⟨gL, 8, none⟩ (.slice x.a x.zs.length x.c)) := by
        have lgn : g ≠ gL := fun e => by
         obtain ⟨cg, hcg⟩ := own_at W6.sp.own g rfl
         rw [e, hcL] at hcg
         cases hcg
        have hs := S2.out _ _ W6
        exact ⟨⟨(World.cell?_of_block (a := ⟨w.heap.size, 0, none⟩) (k9 w.heap.size (by omega))).trans hs.1.1, (World.cell?_of_block (a := ⟨w.heap.size, 1, none⟩) (k9 w.heap.size (by omega))).trans hs.1.2⟩, (World.cell?_of_block (a := ⟨g, k * 3, none⟩) (k9 g lgn)).trans hs.2⟩
       have r0 : ∀ o v, (RV.cells y0)[o]? = some v → w5.cell? ⟨gL, o, none⟩ = some v := fun o v hv => RL0.cell (by rw [HYR.out, List.flatMap_cons, List.getElem?_append_left (List.getElem?_eq_some_iff.1 hv).1]; exact hv)
       have c0 := r0 0 (.int .i64 y0.p.src) rfl
       have c1 := r0 1 (.int .i64 y0.p.dst) rfl
       have c2 := r0 2 (.int .i64 y0.p.kind) rfl
       have c3 := r0 3 (.int .i64 y0.p.id) rfl
       have c4 := r0 4 (.int .i64 y0.p.hops) rfl
       have c5 := r0 5 (.bool y0.p.whole) rfl
       have c6 := r0 6 (.int .i64 y0.p.off) rfl
       have c7 := r0 7 (.bool y0.p.more) rfl
       have c8 := r0 8 (.slice y0.a y0.zs.length y0.c) rfl
       have fL : ∀ o, w5.frozen? ⟨gL, o, none⟩ = false := fun o => RL0.unfrozen o
       have lL := RL0.lt
       obtain ⟨fz, p0, p1, q0, q1, l9, fzb⟩ := FZ.out _ _ _ _ _ _ W6
       rw [HN.out] at q1
       refine zRd 9 (by kernel_rfl) rfl (fun K hK => ?_)
       go_simp
       refine hK.out _ _ S9 (fun hH => ?_)
       clear hK K
       (first | (simp only [zA, zB, zC]) | skip)
       clear hH S9 W9 TS nd G9 B9 k9 RL9 hcL RL0 r0 c0 c1 c2 c3 c4 c5 c6 c7 c8 S2 KG SB SW HSB HF KP W5 F5 W6 F6 D5 b0 b1 KAd KA
       refine wpAnyH_done (by kernel_rfl) ?_ _
       go_wp2
       refine bodyPost_ret (v := .agg #[.int .i64 now, .slice (some ⟨g, 0, none⟩) n c]) ?_ rfl ?_
       ·simp [results, Tryz.results86, go_sem, p0, p1]
       ·exact FIN.out
      ·have hzb3 : (z == 3) = false := beq_eq_false_iff_ne.2 hz3
       by_cases hz4 : z = 4
       ·subst hz4
        obtain ⟨e0, e1, e2, fg, lg⟩ := KG.out _ _ W5.out
        have FIN : Hid (AnyBenchPost rb (N + 3000) w (.returned (.agg #[.int .i64 now, .slice (some ⟨g, 0, none⟩) n c])) ((((w4.setCell ⟨g, k * 3, none⟩ (.slice (some ⟨w4.heap.size, 0, none⟩) 0 0)).setCell ⟨w.heap.size + 1, 0, none⟩ (.int .i64 now)).setCell ⟨w.heap.size + 1, 1, none⟩ (.slice (some ⟨g, 0, none⟩) n c)).alloc (.cells #[] 29))) := by
         have Wa := W5.out.below (zBa w4 (.cells #[] 29))
         have h := (Wa.store (j := 0) (v := .slice (some ⟨w4.heap.size, 0, none⟩) 0 0) (t := ⟨some ⟨w4.heap.size, 0, none⟩, 0, [], s.since, s.bad⟩) HS.out (by omega) rfl ⟨⟨w4.heap.size, rfl, by omega, ⟨#[], heap_new _ _ _ rfl, rfl⟩⟩, (fun y hy => by cases hy), by simp, by simp, (show (0 : Nat) ≤ 9223372036854775807 by omega)⟩ (by simp)).fin (M' := N + 3000) (by rw [List.length_set, HN.out]; omega) (by omega)
         rw [List.length_set, HN.out, World.setCell_alloc_past _ _ _ _ lg, World.setCell_alloc_past _ _ _ _ (by simp [World.setCell]; omega), World.setCell_alloc_past _ _ _ _ (by simp [World.setCell]; omega)] at h
         exact h
        obtain ⟨fz, p0, p1, -, -, l9, fzb⟩ := FZ.out _ _ _ _ _ _ W5.out
        have l9' : w.heap.size < w4.heap.size := by omega
        go_wp2
        refine bodyPost_ret (v := .agg #[.int .i64 now, .slice (some ⟨g, 0, none⟩) n c]) ?_ rfl ?_
        ·simp [results, Tryz.results86, go_sem, p0, p1, l9]
        ·exact FIN.out
       ·have hzb4 : (z == 4) = false := beq_eq_false_iff_ne.2 hz4
        by_cases hz5 : z = 5
        ·subst hz5
         have Wd := W5.out.below (draw1 w4)
         obtain ⟨e0, e1, e2, fg, lg⟩ := KG.out _ _ W5.out
         obtain ⟨m, hm⟩ : ∃ m, s.xs.length = m := ⟨_, rfl⟩
         have HM : Hid (s.xs.length = m) := hm
         rw [hm] at e0
         clear hm
         go_wp2_with fail
         refine wp_region_late (S := fun u => u.cell? ⟨w.heap.size, 0, none⟩ = some (.int .i64 now) ∧ u.cell? ⟨w.heap.size, 1, none⟩ = some (.slice (some ⟨g, 0, none⟩) n c)) (by kernel_rfl) (SW.out _ _ Wd) (fun hH => ?_)
         refine zLk 0 120 (.pointer (some ⟨w.heap.size, 1, none⟩)) rfl (fun w hS => by go_simp) hH ?_; simp only [Act.put, zA, zB, zC]
         refine zLk 1 121 (.slice (some ⟨g, 0, none⟩) n c) rfl (fun w hS => by obtain ⟨s0, s1⟩ := hS; go_simp) hH ?_; simp only [Act.put, zA, zB, zC]
         refine zLk 2 122 (.pointer (some ⟨w.heap.size, 1, none⟩)) rfl (fun w hS => by go_simp) hH ?_; simp only [Act.put, zA, zB, zC]
         refine zLk 3 123 (.slice (some ⟨g, 0, none⟩) n c) rfl (fun w hS => by obtain ⟨s0, s1⟩ := hS; go_simp) hH ?_; simp only [Act.put, zA, zB, zC]
         refine zLk 4 124 (.int .i64 k) rfl (fun w hS => by go_simp) hH ?_; simp only [Act.put, zA, zB, zC]
         refine zLk 5 125 (.pointer (some ⟨g, k * 3, none⟩)) rfl (fun w hS => by go_simp) hH ?_; simp only [Act.put, zA, zB, zC]
         refine late_one (i := 6) (by kernel_rfl) rfl (fun K hK => ?_)
         go_simp
         refine hK.out _ _ (Or.inr (SW.out _ _ Wd)) (fun hH1 => ?_)
         clear hK K hH1
         (first | (simp only [zA, zB, zC]) | skip)
         refine late_one (i := 7) (by kernel_rfl) rfl (fun K hK => ?_)
         go_simp
         have W7 := Wd.below (zBa w4.drew (.cells #[.slice s.a m s.c, .int .i64 s.since, .bool s.bad] 39))
         refine hK.out _ _ (Or.inr (SW.out _ _ W7)) (fun hH1 => ?_)
         clear hK K hH1 hH
         have hH := SW.out _ _ W7
         (first | (simp only [zA, zB, zC]) | skip)
         have RO := W7.sp.own
         rw [HN.out] at RO
         refine late_one (i := 8) (by kernel_rfl) rfl (fun K hK => ?_)
         refine step_append_d rfl (some 128) rfl (.tmp 121) (.tmp 127) 25 rfl (w.heap.size + 2) 39 tj _ 3 40 Tryz.underlying25 htj hj0 hj1 hj2 rfl (by decide) (.slice (some ⟨g, 0, none⟩) n c) n (ts.flatMap SV.cells) rfl RO ⟨w4.heap.size, 0, none⟩ 1 1 [.slice s.a m s.c, .int .i64 s.since, .bool s.bad] rfl rfl (three_new w4 _ _ _) (three_one _ _ _ _ _) (by unfold maxLen; omega) (by omega) (show w.heap.size + 2 ≤ (w4.drew.alloc (.cells #[.slice s.a m s.c, .int .i64 s.since, .bool s.bad] 39)).heap.size from Nat.le_trans (show w.heap.size + 2 ≤ w4.heap.size by omega) (zBa w4.drew _).size) ?_
         intro v3 w6 ho3 hg3 hn3
         obtain ⟨g3, c3, rfl⟩ : ∃ g3 c3, v3 = .slice (some ⟨g3, 0, none⟩) (n + 1) c3 := form_of ho3 (fun e => nomatch (hn3.1 e).1)
         have hg3' : (w4.drew.alloc (.cells #[.slice s.a m s.c, .int .i64 s.since, .bool s.bad] 39)).grownBy w6 (some g) := hg3
         have FIN : Hid (AnyBenchPost rb (N + 3000) w (.returned (.agg #[.int .i64 now, .slice (some ⟨g3, 0, none⟩) (n + 1) c3])) (((w6.setCell ⟨w.heap.size, 1, none⟩ (.slice (some ⟨g3, 0, none⟩) (n + 1) c3)).setCell ⟨w.heap.size + 1, 0, none⟩ (.int .i64 now)).setCell ⟨w.heap.size + 1, 1, none⟩ (.slice (some ⟨g3, 0, none⟩) (n + 1) c3))) := by
          have h := (W7.snoc (t := s) (g' := g3) (c' := c3) (Nat.le_refl _) (HSB.out _ _ W7) HSM.out (by rw [HN.out]; show World.ownsRow _ _ _ _ _ _ (_ ++ [.slice s.a s.xs.length s.c, .int .i64 s.since, .bool s.bad]); rw [HM.out]; exact ho3) hg3').fin (M' := N + 3000) (by rw [List.length_append, HN.out]; simp; omega) (by omega)
          rw [List.length_append, HN.out] at h
          exact h
         obtain ⟨fz, p0, p1, q0, q1, l9, fzb⟩ := FZ.out _ _ _ _ _ _ W7
         rw [HN.out] at q1
         have kb : ∀ b, b < w4.heap.size → b ≠ g → w6.heap[b]? = (w4.drew.alloc (.cells #[.slice s.a m s.c, .int .i64 s.since, .bool s.bad] 39)).heap[b]? := fun b hb hn => hg3'.block b (show b < (w4.drew.alloc (.cells #[.slice s.a m s.c, .int .i64 s.since, .bool s.bad] 39)).heap.size from Nat.lt_of_lt_of_le hb (zBa w4.drew (.cells #[.slice s.a m s.c, .int .i64 s.since, .bool s.bad] 39)).size) (fun e => hn (Option.some.inj e))
         have f2 : ∀ o, w6.frozen? ⟨w.heap.size + 1, o, none⟩ = false := fun o => (by unfold World.frozen?; rw [kb (w.heap.size + 1) (by omega) (by omega)]; exact fz o)
         have f7 : ∀ o, w6.frozen? ⟨w.heap.size, o, none⟩ = false := fun o => (by unfold World.frozen?; rw [kb w.heap.size (by omega) (by omega)]; exact fzb o)
         have f3 := (World.cell?_of_block (a := ⟨w.heap.size + 1, 0, none⟩) (kb (w.heap.size + 1) (by omega) (by omega))).trans p0
         have f4 := (World.cell?_of_block (a := ⟨w.heap.size + 1, 1, none⟩) (kb (w.heap.size + 1) (by omega) (by omega))).trans p1
         have f5 := (World.cell?_of_block (a := ⟨w.heap.size, 0, none⟩) (kb w.heap.size (by omega) (by omega))).trans q0
         have f6 := (World.cell?_of_block (a := ⟨w.heap.size, 1, none⟩) (kb w.heap.size (by omega) (by omega))).trans q1
         have l6 : w4.heap.size ≤ w6.heap.size := Nat.le_trans (zBa w4.drew (.cells #[.slice s.a m s.c, .int .i64 s.since, .bool s.bad] 39)).size hg3'.size
         refine hK.out _ _ (Or.inr ⟨f5, f6⟩) (fun hH1 => ?_)
         clear hK K hH1 hH kb e0 e1 e2 fg fz p0 p1 q0 q1 fzb RO W7 Wd ho3 hg3 hg3' hn3 lg b0 b1
         have hH : (fun u => u.cell? ⟨w.heap.size, 0, none⟩ = some (.int .i64 now) ∧ u.cell? ⟨w.heap.size, 1, none⟩ = some (.slice (some ⟨g, 0, none⟩) n c)) w6 := ⟨f5, f6⟩
         simp only [Act.put, zA, zB, zC]
         refine zLk 9 129 (.pointer (some ⟨w.heap.size, 1, none⟩)) rfl (fun w hS => by go_simp) hH ?_; simp only [Act.put, zA, zB, zC]
         refine late_one (i := 10) (by kernel_rfl) rfl (fun K hK => ?_)
         go_simp
         refine hK.out _ _ (Or.inl (by kernel_rfl)) (fun hH1 => ?_)
         clear hK K hH1
         refine late_done (by kernel_rfl) ?_ _
         clear hH KG SB SW HSB HF KP W5 F5
         go_wp2
         refine bodyPost_ret (v := .agg #[.int .i64 now, .slice (some ⟨g3, 0, none⟩) (n + 1) c3]) ?_ rfl ?_
         ·simp [results, Tryz.results86, go_sem, f3, f4]
         ·exact FIN.out
        ·have hzb5 : (z == 5) = false := beq_eq_false_iff_ne.2 hz5
         go_wp2_with fail
         go_loopw [6] (fun i wr => ∃ (j l g' c' : Nat) (us : List SV), l ≤ 5 ∧ j ≤ l ∧ i = .int .i64 j ∧ Hid (us.length = l) ∧ n + j = l ∧ Hid (SpW w rb (N + 3 + j) (w.heap.size + 2) g' c' now us wr)) (fun i _ => 5 - (intOf i).toNat)
         case atStart => exact ⟨0, n, g, c, ts, by omega, by omega, rfl, HN.out, by omega, W5.out⟩
         case round =>
          obtain ⟨j, l, g', c', us, hl5, hjl, rfl, HU, hnj, HS'⟩ := hrel
          have SL : Hid (∀ (M : Nat) (u : World), SpW w rb M (w.heap.size + 2) g' c' now us u → (fun u => u.cell? ⟨w.heap.size, 1, none⟩ = some (.slice (some ⟨g', 0, none⟩) l c')) u) := fun M u h => (by have h1 : u.cell? ⟨w.heap.size, 1, none⟩ = some (.slice (some ⟨g', 0, none⟩) us.length c') := zCr h.box; rw [HU.out] at h1; exact h1)
          have Wd := HS'.out.below (draw1 wr)
          have bb := SL.out _ _ HS'.out
          go_wp2_with fail
          refine wp_region_held_drew (S := fun u => u.cell? ⟨w.heap.size, 1, none⟩ = some (.slice (some ⟨g', 0, none⟩) l c')) (by kernel_rfl) (SL.out _ _ Wd) (fun hH => ?_)
          refine zTk 0 32 (.pointer (some ⟨w.heap.size, 1, none⟩)) rfl (fun w hS => by go_simp) hH ?_; simp only [Act.put, zA, zB, zC]
          refine zTk 1 33 (.slice (some ⟨g', 0, none⟩) l c') rfl (fun w hS => by have s1 := hS; go_simp) hH ?_; simp only [Act.put, zA, zB, zC]
          refine zTk 2 34 (.int .i64 l) rfl (fun w hS => by go_simp) hH ?_; simp only [Act.put, zA, zB, zC]
          refine zTk 3 35 (.pointer (some ⟨rb, 0, none⟩)) rfl (fun w hS => by go_simp) hH ?_; simp only [Act.put, zA, zB, zC]
          refine zRd 4 (by kernel_rfl) rfl (fun K hK => ?_)
          go_simp
          (with_reducible refine (KP.out 2 (N + 3 + j) _ Wd.sp.rd (by omega) (by omega) (by omega)).mono ?_)
          rintro e w5 ⟨y, rfl, y0, y1, -, R5, G5⟩
          have y2 := y1 (by omega)
          have W6 : Hid (SpW w rb (N + 3 + j + 1) (w.heap.size + 2) g' c' now us w5) := Wd.grown G5 R5
          clear Wd R5 G5 y1
          go_simp
          refine hK.out _ _ (SL.out _ _ W6.out) (fun hH => ?_)
          clear hK K
          (first | (simp only [zA, zB, zC]) | skip)
          by_cases hlt : (l : Int) < 4 + y
          ·have hw4 : IntKind.i64.wrap (4 + y) = 4 + y := by rw [IntKind.wrap_i64]; omega
           refine zRd 5 (by kernel_rfl) rfl (fun K hK => ?_)
           go_simp
           refine hK.out _ _ (SL.out _ _ W6.out) (fun hH => ?_)
           clear hK K
           (first | (simp only [zA, zB, zC]) | skip)
           refine zRd 6 (by kernel_rfl) rfl (fun K hK => ?_)
           go_simp
           refine hK.out _ _ (SL.out _ _ W6.out) (fun hH => ?_)
           clear hK K
           (first | (simp only [zA, zB, zC]) | skip)
           obtain ⟨fz, p0, p1, q0, q1, l9, fzb⟩ := FZ.out _ _ _ _ _ _ W6.out
           rw [HU.out] at q1
           have l9' : w.heap.size < w5.heap.size := by omega
           refine wpAnyH_done (by kernel_rfl) ?_ _
           clear hH bb
           have hw1 : IntKind.i64.wrap (100 + (j : Int)) = 100 + (j : Int) := by rw [IntKind.wrap_i64]; omega
           have W7 : Hid (SpW w rb (N + 3 + j + 1) (w.heap.size + 2) g' c' now us ((w5.alloc (.cells #[.int .i64 (100 + (j : Int)), .int .i64 0, .int .i64 1, .int .i64 0, .int .i64 1, .bool false, .int .i64 4, .bool false, .slice none 0 0] 29)).alloc (.cells #[.slice (some ⟨w5.heap.size, 0, none⟩) 1 1, .int .i64 now, .bool false] 39))) := (W6.out.below (zBa _ _)).below (zBa _ _)
           have RO : Hid (World.ownsRow ((w5.alloc (.cells #[.int .i64 (100 + (j : Int)), .int .i64 0, .int .i64 1, .int .i64 0, .int .i64 1, .bool false, .int .i64 4, .bool false, .slice none 0 0] 29)).alloc (.cells #[.slice (some ⟨w5.heap.size, 0, none⟩) 1 1, .int .i64 now, .bool false] 39)) (w.heap.size + 2) 39 3 (.slice (some ⟨g', 0, none⟩) l c') l (us.flatMap SV.cells)) := (show _ from by have h := W7.out.sp.own; rw [HU.out] at h; exact h)
           have TS : Hid (SlotB ((w5.alloc (.cells #[.int .i64 (100 + (j : Int)), .int .i64 0, .int .i64 1, .int .i64 0, .int .i64 1, .bool false, .int .i64 4, .bool false, .slice none 0 0] 29)).alloc (.cells #[.slice (some ⟨w5.heap.size, 0, none⟩) 1 1, .int .i64 now, .bool false] 39)) (w.heap.size + 2) ⟨some ⟨w5.heap.size, 0, none⟩, 1, [⟨⟨100 + (j : Int), 0, 1, 0, 1, false, 4, false⟩, none, 0, []⟩], now, false⟩) := (show SlotB _ _ _ from ⟨⟨w5.heap.size, rfl, by omega, ⟨_, (zHa (by simp)).trans (heap_new _ _ _ rfl), rfl⟩⟩, (fun y hy => by rw [List.mem_singleton.1 hy]; exact ⟨Or.inl ⟨rfl, rfl, rfl⟩, by simp, by simp⟩), by simp, by simp, by simp⟩)
           go_wp2_with (at_builtin; refine wpList_append_own _ rfl _ _ 25 rfl (w.heap.size + 2) 39 tj _ 3 40 Tryz.underlying25 htj hj0 hj1 hj2 rfl (by decide) (.slice (some ⟨g', 0, none⟩) l c') l (us.flatMap SV.cells) rfl RO.out ⟨w5.heap.size + 1, 0, none⟩ 1 1 [.slice (some ⟨w5.heap.size, 0, none⟩) 1 1, .int .i64 now, .bool false] rfl rfl ?h1 ?h2 ?h3 ?h4 ?h5 ?_)
           case h1 => have h := three_new (w5.alloc (.cells #[.int .i64 (100 + (j : Int)), .int .i64 0, .int .i64 1, .int .i64 0, .int .i64 1, .bool false, .int .i64 4, .bool false, .slice none 0 0] 29)) (.slice (some ⟨w5.heap.size, 0, none⟩) 1 1) (.int .i64 now) (.bool false); simpa using h
           case h2 => exact three_one _ _ _ _ _
           case h3 => unfold maxLen; omega
           case h4 => omega
           case h5 => simp; omega
           intro v3 w6 ho3 hg3 hn3
           obtain ⟨g3, c3, rfl⟩ : ∃ g3 c3, v3 = .slice (some ⟨g3, 0, none⟩) (l + 1) c3 := form_of ho3 hn3
           have hg3' : ((w5.alloc (.cells #[.int .i64 (100 + (j : Int)), .int .i64 0, .int .i64 1, .int .i64 0, .int .i64 1, .bool false, .int .i64 4, .bool false, .slice none 0 0] 29)).alloc (.cells #[.slice (some ⟨w5.heap.size, 0, none⟩) 1 1, .int .i64 now, .bool false] 39)).grownBy w6 (some g') := hg3
           have W8 : Hid (SpW w rb (N + 3 + (j + 1)) (w.heap.size + 2) g3 c3 now (us ++ [⟨some ⟨w5.heap.size, 0, none⟩, 1, [⟨⟨100 + (j : Int), 0, 1, 0, 1, false, 4, false⟩, none, 0, []⟩], now, false⟩]) (w6.setCell ⟨w.heap.size, 1, none⟩ (.slice (some ⟨g3, 0, none⟩) (l + 1) c3))) := (show SpW _ _ _ _ _ _ _ _ _ from by
            have h := W7.out.snoc (t := ⟨some ⟨w5.heap.size, 0, none⟩, 1, [⟨⟨100 + (j : Int), 0, 1, 0, 1, false, 4, false⟩, none, 0, []⟩], now, false⟩) (g' := g3) (c' := c3) (u' := w6) (Nat.le_refl _) TS.out (by simp) (by rw [HU.out]; exact ho3) hg3'
            rw [HU.out] at h
            exact h)
           obtain ⟨-, -, -, r0, r1, -, -⟩ := FZ.out _ _ _ _ _ _ W7.out
           have hgl' := (own_lt W7.out.sp.own g' rfl).1
           have bx : w6.heap[w.heap.size]? = some (.cells #[.int .i64 now, .slice (some ⟨g', 0, none⟩) us.length c'] 27 (0, 0)) := (hg3'.block _ (lt_of_block W7.out.box) (fun e => by have := Option.some.inj e; omega)).trans W7.out.box
           have t0 : w6.cell? ⟨w.heap.size, 0, none⟩ = some (.int .i64 now) := zCr bx
           have t1 : w6.cell? ⟨w.heap.size, 1, none⟩ = some (.slice (some ⟨g', 0, none⟩) us.length c') := zCr bx
           have ft : ∀ o, w6.frozen? ⟨w.heap.size, o, none⟩ = false := fun o => zUf bx o
           have lt6 := lt_of_block bx
           clear W7 RO TS ho3 hg3 hg3' hn3 W6 bx r0 r1 q0 q1 p0 p1 fz fzb
           go_wp2
           go_roundw
           case rel => exact ⟨j + 1, l + 1, g3, c3, _, by omega, by omega, by go_num, (show _ = _ by rw [List.length_append, HU.out]; rfl), by omega, W8.out⟩
           case measure => simp [intOf]; omega
          ·have hw4 : IntKind.i64.wrap (4 + y) = 4 + y := by rw [IntKind.wrap_i64]; omega
           refine zRd 5 (by kernel_rfl) rfl (fun K hK => ?_)
           go_simp
           refine hK.out _ _ (SL.out _ _ W6.out) (fun hH => ?_)
           clear hK K
           (first | (simp only [zA, zB, zC]) | skip)
           refine zRd 6 (by kernel_rfl) rfl (fun K hK => ?_)
           go_simp
           refine hK.out _ _ (SL.out _ _ W6.out) (fun hH => ?_)
           clear hK K
           (first | (simp only [zA, zB, zC]) | skip)
           obtain ⟨fz, p0, p1, q0, q1, l9, fzb⟩ := FZ.out _ _ _ _ _ _ W6.out
           rw [HU.out] at q1
           have l9' : w.heap.size < w5.heap.size := by omega
           refine wpAnyH_done (by kernel_rfl) ?_ _
           clear hH bb
           have FIN := W6.out.fin (M' := N + 3000) (by rw [HU.out]; omega) (by omega)
           rw [HU.out] at FIN
           clear W6
           go_wp2
           exact bodyPost_ret (v := .agg #[.int .i64 now, .slice (some ⟨g', 0, none⟩) l c']) (by simp [results, Tryz.results86, go_sem, p0, p1]) rfl FIN
end Go.Proofs.YtjbkgmbakjnlhaaGreatDoor
