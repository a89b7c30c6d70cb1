import Derived.Test.YtjbkgmbakjnlhaaGreatDoorPartAt
import Derived.Test.YtjbkgmbakjnlhaaGreatDoorPartAa
import Derived.Deep.RegionLaw
import Derived.Deep.RegionHeld3
namespace Go.Proofs.YtjbkgmbakjnlhaaGreatDoor
set_option maxRecDepth 100000
open Go.RowKit
def CutsOf (p : Pk) (zs : List Int) (L : List (Pk × List Int)) : Prop :=
 ∃ most : Int, 12 ≤ most ∧ most ≤ 41 ∧ (L = cutL p zs most ∨ ∃ (k : Nat) (more : Int) (x : Pk × List Int), (cutL p zs most)[k]? = some x ∧ 12 ≤ more ∧ more ≤ 19 ∧ L = (cutL p zs most).take k ++ cutL x.1 x.2 more ++ (cutL p zs most).drop (k + 1))
theorem cutL_len (p : Pk) (zs : List Int) (most : Int) (h0 : 12 ≤ most) (h1 : most ≤ 41) : (cutL p zs most).length ≤ zs.length + 40 := by
 unfold cutL
 have hn : cutN most ≤ 33 := by unfold cutN; omega
 have hd : (zs.length + cutN most - 1) / cutN most ≤ zs.length + cutN most - 1 := Nat.div_le_self _ _
 repeat' split
 all_goals simp [cutTo]
 all_goals omega
theorem cutL_small (p : Pk) (zs : List Int) (most : Int) (x : Pk × List Int) (hx : x ∈ cutL p zs most) : x.2.length ≤ zs.length := by
 unfold cutL at hx
 repeat' split at hx
 all_goals simp [cutTo] at hx
 ·subst hx; exact Nat.le_refl _
 ·obtain ⟨i, _, rfl⟩ := hx
  simp [pieceD]; omega
theorem cutL_sub (p : Pk) (zs : List Int) (most : Int) (x : Pk × List Int) (hx : x ∈ cutL p zs most) : ∀ z ∈ x.2, z ∈ zs := by
 unfold cutL at hx
 repeat' split at hx
 all_goals simp [cutTo] at hx
 ·subst hx; exact fun z hz => hz
 ·obtain ⟨i, _, rfl⟩ := hx
  intro z hz
  exact List.mem_of_mem_drop (List.mem_of_mem_take hz)
structure Elem (w : World) (g k : Nat) (y : PV) : Prop where
 e0 : w.cell? ⟨g, k * 9, none⟩ = some (.int .i64 y.p.src)
 e1 : w.cell? ⟨g, k * 9 + 1, none⟩ = some (.int .i64 y.p.dst)
 e2 : w.cell? ⟨g, k * 9 + 2, none⟩ = some (.int .i64 y.p.kind)
 e3 : w.cell? ⟨g, k * 9 + 3, none⟩ = some (.int .i64 y.p.id)
 e4 : w.cell? ⟨g, k * 9 + 4, none⟩ = some (.int .i64 y.p.hops)
 e5 : w.cell? ⟨g, k * 9 + 5, none⟩ = some (.bool y.p.whole)
 e6 : w.cell? ⟨g, k * 9 + 6, none⟩ = some (.int .i64 y.p.off)
 e7 : w.cell? ⟨g, k * 9 + 7, none⟩ = some (.bool y.p.more)
 e8 : w.cell? ⟨g, k * 9 + 8, none⟩ = some (.slice (some ⟨y.g, 0, none⟩) y.zs.length y.c)
theorem PL.elem {w : World} {lo g c k : Nat} {ps : List PV} {y : PV} (h : PL w lo (.slice (some ⟨g, 0, none⟩) ps.length c) ps) (hy : ps[k]? = some y) : Elem w g k y := by
 have hk : k < ps.length := by
  rcases Nat.lt_or_ge k ps.length with h' | h'
  ·exact h'
  ·rw [List.getElem?_eq_none h'] at hy; cases hy
 have e : ps[k] = y := by rw [List.getElem?_eq_getElem hk] at hy; exact Option.some.inj hy
 have a : ∀ j, j < 9 → w.cell? ⟨g, k * 9 + j, none⟩ = y.cells[j]? := fun j hj => by
  have := h.at k j hk hj
  rw [e, Nat.mul_comm 9 k] at this
  exact this
 exact ⟨a 0 (by omega), a 1 (by omega), a 2 (by omega), a 3 (by omega), a 4 (by omega), a 5 (by omega), a 6 (by omega), a 7 (by omega), a 8 (by omega)⟩
theorem Elem.kept {w w' : World} {g k : Nat} {y : PV} (h : Elem w g k y) (hk : w'.heap[g]? = w.heap[g]?) : Elem w' g k y :=
 have e : ∀ o, w'.cell? ⟨g, o, none⟩ = w.cell? ⟨g, o, none⟩ := fun _ => World.cell?_of_block (w := w) hk
 ⟨(e _).trans h.e0, (e _).trans h.e1, (e _).trans h.e2, (e _).trans h.e3, (e _).trans h.e4, (e _).trans h.e5, (e _).trans h.e6, (e _).trans h.e7, (e _).trans h.e8⟩
theorem cuts_len {k : Nat} {ps1 ps2 : List PV} (h : k < ps1.length) : (ps1.take k ++ ps2 ++ ps1.drop (k + 1)).length = k + ps2.length + (ps1.length - (k + 1)) := by
 simp; omega
theorem cuts_fin {w w' : World} {lo g1 c1 g2 c2 gc cc k : Nat} {ps1 ps2 : List PV} (hk : k < ps1.length) (h1 : PL w lo (.slice (some ⟨g1, 0, none⟩) ps1.length c1) ps1) (h2 : PL w lo (.slice (some ⟨g2, 0, none⟩) ps2.length c2) ps2) (hb : Below w.heap.size w w') (hs : lo ≤ w.heap.size)
  (ho : w'.ownsRow w.heap.size 29 9 (.slice (some ⟨gc, 0, none⟩) (k + ps2.length + (ps1.length - (k + 1))) cc) (k + ps2.length + (ps1.length - (k + 1))) ((ps1.take k).flatMap PV.cells ++ ps2.flatMap PV.cells ++ (ps1.drop (k + 1)).flatMap PV.cells)) :
  PL w' lo (.slice (some ⟨gc, 0, none⟩) (ps1.take k ++ ps2 ++ ps1.drop (k + 1)).length cc) (ps1.take k ++ ps2 ++ ps1.drop (k + 1)) := by
 refine ⟨?_, fun x hx => ?_⟩
 ·rw [cuts_len hk, List.flatMap_append, List.flatMap_append]
  exact Joins.ownsRow_le ho hs
 ·have hx' : x.own w lo := by
   rcases List.mem_append.1 hx with h | h
   ·rcases List.mem_append.1 h with h | h
    ·exact h1.each x (List.mem_of_mem_take h)
    ·exact h2.each x h
   ·exact h1.each x (List.mem_of_mem_drop h)
  exact own_below hx' hb
theorem cuts_of {p : Pk} {zs : List Int} {most more : Int} {ps1 ps2 : List PV} {y : PV} {k : Nat} (m0 : 12 ≤ most) (m1 : most ≤ 41) (n0 : 12 ≤ more) (n1 : more ≤ 19) (h1 : ps1.map PV.key = cutL p zs most) (hy : ps1[k]? = some y) (h2 : ps2.map PV.key = cutL y.p y.zs more) :
  CutsOf p zs ((ps1.take k ++ ps2 ++ ps1.drop (k + 1)).map PV.key) := by
 refine ⟨most, m0, m1, Or.inr ⟨k, more, y.key, ?_, n0, n1, ?_⟩⟩
 ·rw [← h1, List.getElem?_map, hy]; rfl
 ·rw [List.map_append, List.map_append, List.map_take, List.map_drop, h1, h2]; rfl
theorem app1 {w W w' : World} (hW : Below w.heap.size w W) (hg : W.grownBy w' (Value.slice (some ⟨w.heap.size, 0, none⟩) 0 0).ownBlock) : Below w.heap.size w w' :=
 hW.grown hg hW.size (fun k hk => by cases hk; exact Nat.le_refl _)
theorem flat_take_len (ps : List PV) (k : Nat) (h : k ≤ ps.length) : ((ps.take k).flatMap PV.cells).length = k * 9 := by
 rw [flat_len, List.length_take, Nat.min_eq_left h]
theorem flat_drop_len (ps : List PV) (k : Nat) : ((ps.drop k).flatMap PV.cells).length = (ps.length - k) * 9 := by
 rw [flat_len, List.length_drop]
theorem flat_split (ps : List PV) (k : Nat) : ps.flatMap PV.cells = (ps.take k).flatMap PV.cells ++ (ps.drop k).flatMap PV.cells := by
 rw [← List.flatMap_append, List.take_append_drop]
theorem PL.src_all {w : World} {lo g c : Nat} {ps : List PV} (h : PL w lo (.slice (some ⟨g, 0, none⟩) ps.length c) ps) : ∀ j u, (ps.flatMap PV.cells)[j]? = some u → w.cell? ((Addr.mk g 0 none).add j) = some u := by
 intro j u hu
 have hj : j < ps.length * 9 := by
  rcases Nat.lt_or_ge j (ps.length * 9) with h' | h'
  ·exact h'
  ·rw [List.getElem?_eq_none (by rw [flat_len]; exact h')] at hu; cases hu
 rw [add_none, Nat.zero_add, h.row.cellAt j hj]
 exact hu
theorem PL.src_take {w : World} {lo g c : Nat} {ps : List PV} (h : PL w lo (.slice (some ⟨g, 0, none⟩) ps.length c) ps) (k : Nat) : ∀ j u, ((ps.take k).flatMap PV.cells)[j]? = some u → w.cell? ((Addr.mk g 0 none).add j) = some u := by
 intro j u hu
 refine h.src_all j u ?_
 have hj : j < ((ps.take k).flatMap PV.cells).length := by
  rcases Nat.lt_or_ge j ((ps.take k).flatMap PV.cells).length with h' | h'
  ·exact h'
  ·rw [List.getElem?_eq_none h'] at hu; cases hu
 rw [flat_split ps k, List.getElem?_append_left hj]
 exact hu
theorem PL.src_drop {w : World} {lo g c : Nat} {ps : List PV} (h : PL w lo (.slice (some ⟨g, 0, none⟩) ps.length c) ps) (k : Nat) : ∀ j u, ((ps.drop k).flatMap PV.cells)[j]? = some u → w.cell? ((Addr.mk g (k * 9) none).add j) = some u := by
 intro j u hu
 by_cases hk : k ≤ ps.length
 ·have e := h.src_all (k * 9 + j) u (by rw [flat_split ps k, List.getElem?_append_right (by rw [flat_take_len ps k hk]; omega), flat_take_len ps k hk, show k * 9 + j - k * 9 = j by omega]; exact hu)
  rw [add_none, Nat.zero_add] at e
  rw [add_none]
  exact e
 ·rw [List.drop_eq_nil_of_le (by omega)] at hu
  simp at hu
set_option maxHeartbeats 3200000 in
theorem l5Cuts_any (rb N lo : Nat) (p : Pk) (g c : Nat) (zs : List Int) (w : World) (hR : Rdr w rb N) (hN : N ≤ 890000) (ho : w.ownsRow lo 5 1 (.slice (some ⟨g, 0, none⟩) zs.length c) zs.length (zs.map (.int .u8))) (hlo : rb < lo) (hl : zs.length ≤ 200) :
  Calls Tryz.prog 59 #[.pointer (some ⟨rb, 0, none⟩), p.val (.slice (some ⟨g, 0, none⟩) zs.length c)] w fun e w' => ∃ (g' c' : Nat) (ps : List PV), e = .returned (.slice (some ⟨g', 0, none⟩) ps.length c') ∧ PL w' w.heap.size (.slice (some ⟨g', 0, none⟩) ps.length c') ps ∧ CutsOf p zs (ps.map PV.key) ∧ Rdr w' rb (N + 4) ∧ w.grownBy w' (some rb) := by
 unfold Pk.val
 have hlt := hR.lt
 have hcc := own_caps ho
 have hne : w.heap.size ≠ rb := by omega
 have RH : Hid (Rdr (w.alloc (.cells (pcells p (.slice (some ⟨g, 0, none⟩) zs.length c)) 29)).drew rb N) := (hR.below (zBa _ _)).below (draw1 _)
 have OH : Hid (w.ownsRow lo 5 1 (.slice (some ⟨g, 0, none⟩) zs.length c) zs.length (zs.map (.int .u8))) := ho
 clear hR ho
 go_enter Tryz.func59, Tryz.ntmps59
 go_wp2
 go_region_held3 (fun w' => w'.cell? ⟨w.heap.size, 0, none⟩ = some (.int .i64 p.src) ∧ w'.cell? ⟨w.heap.size, 1, none⟩ = some (.int .i64 p.dst) ∧ w'.cell? ⟨w.heap.size, 2, none⟩ = some (.int .i64 p.kind) ∧ w'.cell? ⟨w.heap.size, 3, none⟩ = some (.int .i64 p.id) ∧ w'.cell? ⟨w.heap.size, 4, none⟩ = some (.int .i64 p.hops) ∧ w'.cell? ⟨w.heap.size, 5, none⟩ = some (.bool p.whole) ∧ w'.cell? ⟨w.heap.size, 6, none⟩ = some (.int .i64 p.off) ∧ w'.cell? ⟨w.heap.size, 7, none⟩ = some (.bool p.more) ∧ w'.cell? ⟨w.heap.size, 8, none⟩ = some (.slice (some ⟨g, 0, none⟩) zs.length c)) (go_keep)
  (first
   | (go_at_call 23; refine (pick_any rb N 30 _ RH.out (by omega) (by omega) (by omega)).mono ?_; rintro e w1 ⟨x, rfl, x0, x1, -, R1, G1⟩; have x2 := x1 (by omega); have hwx : IntKind.i64.wrap (12 + x) = 12 + x := (by rw [IntKind.wrap_i64]; omega); have X1 : Boxed w1 w.heap.size p (.slice (some ⟨g, 0, none⟩) zs.length c) := ((Boxed.new w p (.slice (some ⟨g, 0, none⟩) zs.length c) 29).below (draw1 _)).kept G1.size (G1.block w.heap.size (by simp) (fun e => hne (Option.some.inj e))); have o1 := own_grown (own_below (own_below OH.out (zBa w (.cells (pcells p (.slice (some ⟨g, 0, none⟩) zs.length c)) 29))) (draw1 _)) G1 hlo; obtain ⟨l1, q0, q1, q2, q3, q4, q5, q6, q7, q8⟩ := id X1)
   | (go_at_call 50; refine (specCut_any p ⟨g, 0, none⟩ c zs (12 + x) _ (RdB.of_own rfl o1) (by omega) hcc.1 hcc.2 (by omega) (by omega)).mono ?_; rintro e w2 ⟨g1, c1, ps1, rfl, P2, K2, b2⟩; have X2 := X1.below b2; obtain ⟨l2, y0, y1, y2, y3, y4, y5, y6, y7, y8⟩ := id X2))
 have R2 := R1.below b2
 have G2 : w.grownBy w2 (some rb) := grown_trans (grown_trans (grown_trans (grown_alloc _ _ _) (grown_below (draw1 _))) G1) (grown_below b2)
 have s1 : w.heap.size ≤ w1.heap.size := by omega
 clear q0 q1 q2 q3 q4 q5 q6 q7 q8 y0 y1 y2 y3 y4 y5 y6 y7 y8 X1 X2 R1 G1 RH
 go_wp2_with fail
 refine (pick_any rb (N + 1) 3 _ R2 (by omega) (by omega) (by omega)).mono ?_
 rintro e w3 ⟨t, rfl, t0, t1, -, R3, G⟩
 have t2 := t1 (by omega)
 have P3 : PL w3 w.heap.size (.slice (some ⟨g1, 0, none⟩) ps1.length c1) ps1 := (P2.le s1).grown G hlt
 have G3 := grown_trans G2 G
 have K3 : Hid (ps1.map PV.key = cutL p zs (12 + x)) := K2
 clear R2 G2 G P2 K2 b2
 have PH : Hid (PL w3 w.heap.size (.slice (some ⟨g1, 0, none⟩) ps1.length c1) ps1) := P3
 have RH3 : Hid (Rdr w3 rb (N + 1 + 1)) := R3
 have GH3 : Hid (w.grownBy w3 (some rb)) := G3
 clear P3 R3 G3
 by_cases ht : 0 < t
 ·go_wp2
  go_ret
  exact ⟨g1, c1, ps1, rfl, PH.out, ⟨12 + x, by omega, by omega, Or.inl K3.out⟩, RH3.out.mono (by omega), GH3.out⟩
 by_cases hz : ps1.length = 0
 ·have hzi : ((ps1.length : Int) == 0) = true := by simp [hz]
  clear hz
  go_wp2
  go_ret
  exact ⟨g1, c1, ps1, rfl, PH.out, ⟨12 + x, by omega, by omega, Or.inl K3.out⟩, RH3.out.mono (by omega), GH3.out⟩
 have hzi : ((ps1.length : Int) == 0) = false := by rw [beq_eq_false_iff_ne]; omega
 have hpl : ps1.length ≤ 300 := by
  have h := cutL_len p zs (12 + x) (by omega) (by omega)
  rw [← K3.out] at h
  simp at h
  omega
 go_wp2_with fail
 refine (pick_any rb (N + 1 + 1) (ps1.length : Int) _ RH3.out (by omega) (by omega) (by omega)).mono ?_
 rintro e w4 ⟨ki, rfl, k0, k1, -, R4, G⟩
 obtain ⟨k, rfl⟩ := Int.eq_ofNat_of_zero_le k0
 have k2 : k < ps1.length := by have := k1 (by omega); omega
 have k3 : (k : Int) < (ps1.length : Int) := by omega
 have P4 := PH.out.grown G hlt
 have G4 : Hid (w.grownBy w4 (some rb)) := grown_trans GH3.out G
 have hs4 := G4.out.size
 have RH4 : Hid (Rdr w4.drew rb (N + 1 + 1 + 1)) := R4.below (draw1 _)
 clear R4 G PH RH3 GH3
 obtain ⟨y, hy⟩ : ∃ y, ps1[k]? = some y := ⟨_, List.getElem?_eq_getElem k2⟩
 have Y4 : Elem w4 g1 k y := P4.elem hy
 have YO : Hid (y.own w4 w.heap.size) := P4.each y (List.mem_of_getElem? hy)
 have HY : Hid (ps1[k]? = some y) := hy
 have PH4 : Hid (PL w4 w.heap.size (.slice (some ⟨g1, 0, none⟩) ps1.length c1) ps1) := P4
 have hgr : g1 ≠ rb := by have := (own_lt P4.row g1 rfl).1; omega
 have hg4 : g1 < w4.heap.size := (own_lt P4.row g1 rfl).2
 have hyc := own_caps YO.out
 have hyl : y.zs.length ≤ 200 := by
  have h := cutL_small p zs (12 + x) y.key (by rw [← K3.out]; exact List.mem_map_of_mem (List.mem_of_getElem? hy))
  simp [PV.key] at h
  omega
 clear hy P4
 obtain ⟨y0, y1, y2, y3, y4, y5, y6, y7, y8⟩ := id Y4
 go_wp2
 go_region_held3 (fun w' => w'.cell? ⟨g1, k * 9, none⟩ = some (.int .i64 y.p.src) ∧ w'.cell? ⟨g1, k * 9 + 1, none⟩ = some (.int .i64 y.p.dst) ∧ w'.cell? ⟨g1, k * 9 + 2, none⟩ = some (.int .i64 y.p.kind) ∧ w'.cell? ⟨g1, k * 9 + 3, none⟩ = some (.int .i64 y.p.id) ∧ w'.cell? ⟨g1, k * 9 + 4, none⟩ = some (.int .i64 y.p.hops) ∧ w'.cell? ⟨g1, k * 9 + 5, none⟩ = some (.bool y.p.whole) ∧ w'.cell? ⟨g1, k * 9 + 6, none⟩ = some (.int .i64 y.p.off) ∧ w'.cell? ⟨g1, k * 9 + 7, none⟩ = some (.bool y.p.more) ∧ w'.cell? ⟨g1, k * 9 + 8, none⟩ = some (.slice (some ⟨y.g, 0, none⟩) y.zs.length y.c)) (go_keep)
  (first
   | (go_at_call 23; refine (pick_any rb (N + 1 + 1 + 1) 8 _ RH4.out (by omega) (by omega) (by omega)).mono ?_; rintro e w5 ⟨z, rfl, z0, z1, -, R5, G5⟩; have z2 := z1 (by omega); have hwz : IntKind.i64.wrap (12 + z) = 12 + z := (by rw [IntKind.wrap_i64]; omega); have Y5 : Elem w5 g1 k y := Y4.kept ((G5.block g1 hg4 (fun e => hgr (Option.some.inj e)))); have o5 := own_grown (own_below YO.out (draw1 _)) G5 hlt; obtain ⟨q0, q1, q2, q3, q4, q5, q6, q7, q8⟩ := id Y5)
   | (go_at_call 50; refine (specCut_any y.p ⟨y.g, 0, none⟩ y.c y.zs (12 + z) _ (RdB.of_own rfl o5) (by omega) hyc.1 hyc.2 (by omega) (by omega)).mono ?_; rintro e w6 ⟨g2, c2, ps2, rfl, P6, K6, b6⟩; have Y6 : Elem w6 g1 k y := Y5.kept (b6.block g1 (Nat.lt_of_lt_of_le hg4 G5.size)); obtain ⟨u0, u1, u2, u3, u4, u5, u6, u7, u8⟩ := id Y6))
 have R6 : Hid (Rdr w6 rb (N + 4)) := (R5.below b6).mono (by omega)
 have P6a : PL w6 w.heap.size (.slice (some ⟨g1, 0, none⟩) ps1.length c1) ps1 := (((PH4.out.below (draw1 _)).grown G5 hlt).below b6)
 have s5 : w.heap.size ≤ w5.heap.size := Nat.le_trans hs4 G5.size
 have P6b : PL w6 w.heap.size (.slice (some ⟨g2, 0, none⟩) ps2.length c2) ps2 := P6.le s5
 have G6 : Hid (w.grownBy w6 (some rb)) := grown_trans (grown_trans (grown_trans G4.out (grown_below (draw1 _))) G5) (grown_below b6)
 have K6' : Hid (ps2.map PV.key = cutL y.p y.zs (12 + z)) := K6
 have hs6 := G6.out.size
 have PHa : Hid (PL w6 w.heap.size (.slice (some ⟨g1, 0, none⟩) ps1.length c1) ps1) := P6a
 have PHb : Hid (PL w6 w.heap.size (.slice (some ⟨g2, 0, none⟩) ps2.length c2) ps2) := P6b
 have hpl2 : ps2.length ≤ 300 := by
  have h := cutL_len y.p y.zs (12 + z) (by omega) (by omega)
  rw [← K6] at h
  simp at h
  omega
 have hc1 := own_caps P6a.row
 have hc1a := hc1.1
 have hc1b := hc1.2
 clear P6a P6b P6 K6 R5 G5 b6 q0 q1 q2 q3 q4 q5 q6 q7 q8 u0 u1 u2 u3 u4 u5 u6 u7 u8 y0 y1 y2 y3 y4 y5 y6 y7 y8 Y4 Y5 Y6 YO o5 RH4 PH4 G4 o1
 have i1 : (k : Int) ≤ (ps1.length : Int) := by omega
 have i2 : (ps1.length : Int) ≤ (c1 : Int) := by omega
 have i3 : (k : Int) ≤ (c1 : Int) := by omega
 have i4 : (k : Int) + 1 ≤ (ps1.length : Int) := by omega
 obtain ⟨ti, hti, hy0, hy1, hy2⟩ := info_parts Tryz.info29
 have hwk : IntKind.i64.wrap ((k : Int) + 1) = (k : Int) + 1 := by rw [IntKind.wrap_i64]; omega
 have i5 : (0 : Int) ≤ (k : Int) + 1 := by omega
 have htn : ((k : Int) + 1).toNat = k + 1 := by omega
 by_cases hcs : c1 = k + 1
 ·subst hcs
  have i6 : (k : Int) ≤ (k : Int) + 1 := by omega
  have i7 : (k : Int) ≤ ((k + 1 : Nat) : Int) := by omega
  go_wp2
  go_region_law
   (first
    | (refine step_append_own rfl (.tmp 42) (.tmp 45) 23 rfl w6.heap.size 29 ti _ 9 88 Tryz.underlying23 hti hy0 hy1 hy2 rfl (by decide) (.slice (some ⟨w6.heap.size, 0, none⟩) 0 0) 0 [] rfl ?_ ⟨g1, 0, none⟩ k (k + 1) ((ps1.take k).flatMap PV.cells) rfl ?_ ?_ (flat_one _) ?_ ?_ ?_ ?_; exact (PL.nil w6 _ _ rfl (Nat.le_refl _)).row; exact flat_take_len ps1 k (Nat.le_of_lt k2); exact (PHa.out.below ((zBa w6 (.cells #[] 29)).drew)).src_take k; (unfold maxLen; omega); omega; exact ((zBa w6 (.cells #[] 29)).drew).size; intro v1 w7 ho7 hg7 hn7; rw [Nat.zero_add, List.nil_append] at ho7; obtain ⟨ga, ca, rfl⟩ : ∃ g c, v1 = .slice (some ⟨g, 0, none⟩) (k) c := form_of ho7 (fun e => nomatch (hn7.1 e).1); have b7 := app1 ((zBa w6 (.cells #[] 29)).drew) hg7)
    | (refine step_append_own rfl (.tmp 46) (.tmp 47) 23 rfl w6.heap.size 29 ti _ 9 88 Tryz.underlying23 hti hy0 hy1 hy2 rfl (by decide) (.slice (some ⟨ga, 0, none⟩) k ca) k ((ps1.take k).flatMap PV.cells) rfl ho7 ⟨g2, 0, none⟩ ps2.length c2 (ps2.flatMap PV.cells) rfl (flat_len ps2) (PHb.out.below b7).src_all (flat_one _) ?_ ?_ b7.size ?_; (unfold maxLen; omega); omega; intro v2 w8 ho8 hg8 hn8; obtain ⟨gb, cb, rfl⟩ : ∃ g c, v2 = .slice (some ⟨g, 0, none⟩) (k + ps2.length) c := form_of ho8 (fun e => nomatch (hn8.1 e).1); have b8 : Below w6.heap.size w6 w8 := b7.grown hg8 b7.size (fun j hj => (own_lt ho7 j hj).1))
    | (refine step_append_own rfl (.tmp 48) (.tmp 52) 23 rfl w6.heap.size 29 ti _ 9 88 Tryz.underlying23 hti hy0 hy1 hy2 rfl (by decide) (.slice (some ⟨gb, 0, none⟩) (k + ps2.length) cb) (k + ps2.length) ((ps1.take k).flatMap PV.cells ++ ps2.flatMap PV.cells) rfl ho8 ⟨g1, 0, none⟩ 0 0 [] rfl ?_ (fun j u h => nomatch h) (fun u h => nomatch h) ?_ ?_ b8.size ?_; rfl; (unfold maxLen; omega); omega; intro v3 w9 ho9 hg9 hn9; obtain ⟨gc, cc, rfl⟩ : ∃ g c, v3 = .slice (some ⟨g, 0, none⟩) (k + ps2.length + 0) c := form_of ho9 (fun e => nomatch (hn9.1 e).1); have b9 : Below w6.heap.size w6 w9 := b8.grown hg9 b8.size (fun j hj => (own_lt ho8 j hj).1)))
  go_wp2
  go_ret
  exact ⟨gc, cc, ps1.take k ++ ps2 ++ ps1.drop (k + 1), by rw [cuts_len k2, show ps1.length - (k + 1) = 0 by omega]; rfl, cuts_fin k2 PHa.out PHb.out b9 hs6 (by rw [show ps1.length - (k + 1) = 0 by omega, List.drop_eq_nil_of_le hc1a]; exact ho9), cuts_of (by omega) (by omega) (by omega) (by omega) K3.out HY.out K6'.out, R6.out.upto b9 (by omega), grown_b G6.out b9 hs6⟩
 ·go_wp2
  go_region_law
   (first
    | (refine step_append_own rfl (.tmp 42) (.tmp 45) 23 rfl w6.heap.size 29 ti _ 9 88 Tryz.underlying23 hti hy0 hy1 hy2 rfl (by decide) (.slice (some ⟨w6.heap.size, 0, none⟩) 0 0) 0 [] rfl ?_ ⟨g1, 0, none⟩ k c1 ((ps1.take k).flatMap PV.cells) rfl ?_ ?_ (flat_one _) ?_ ?_ ?_ ?_; exact (PL.nil w6 _ _ rfl (Nat.le_refl _)).row; exact flat_take_len ps1 k (Nat.le_of_lt k2); exact (PHa.out.below ((zBa w6 (.cells #[] 29)).drew)).src_take k; (unfold maxLen; omega); omega; exact ((zBa w6 (.cells #[] 29)).drew).size; intro v1 w7 ho7 hg7 hn7; rw [Nat.zero_add, List.nil_append] at ho7; obtain ⟨ga, ca, rfl⟩ : ∃ g c, v1 = .slice (some ⟨g, 0, none⟩) (k) c := form_of ho7 (fun e => nomatch (hn7.1 e).1); have b7 := app1 ((zBa w6 (.cells #[] 29)).drew) hg7)
    | (refine step_append_own rfl (.tmp 46) (.tmp 47) 23 rfl w6.heap.size 29 ti _ 9 88 Tryz.underlying23 hti hy0 hy1 hy2 rfl (by decide) (.slice (some ⟨ga, 0, none⟩) k ca) k ((ps1.take k).flatMap PV.cells) rfl ho7 ⟨g2, 0, none⟩ ps2.length c2 (ps2.flatMap PV.cells) rfl (flat_len ps2) (PHb.out.below b7).src_all (flat_one _) ?_ ?_ b7.size ?_; (unfold maxLen; omega); omega; intro v2 w8 ho8 hg8 hn8; obtain ⟨gb, cb, rfl⟩ : ∃ g c, v2 = .slice (some ⟨g, 0, none⟩) (k + ps2.length) c := form_of ho8 (fun e => nomatch (hn8.1 e).1); have b8 : Below w6.heap.size w6 w8 := b7.grown hg8 b7.size (fun j hj => (own_lt ho7 j hj).1))
    | (refine step_append_own rfl (.tmp 48) (.tmp 52) 23 rfl w6.heap.size 29 ti _ 9 88 Tryz.underlying23 hti hy0 hy1 hy2 rfl (by decide) (.slice (some ⟨gb, 0, none⟩) (k + ps2.length) cb) (k + ps2.length) ((ps1.take k).flatMap PV.cells ++ ps2.flatMap PV.cells) rfl ho8 ⟨g1, (k + 1) * 9, none⟩ (ps1.length - (k + 1)) (c1 - (k + 1)) ((ps1.drop (k + 1)).flatMap PV.cells) rfl ?_ ((PHa.out.below b8).src_drop (k + 1)) (flat_one _) ?_ ?_ b8.size ?_; exact flat_drop_len ps1 (k + 1); (unfold maxLen; omega); omega; intro v3 w9 ho9 hg9 hn9; obtain ⟨gc, cc, rfl⟩ : ∃ g c, v3 = .slice (some ⟨g, 0, none⟩) (k + ps2.length + (ps1.length - (k + 1))) c := form_of ho9 (fun e => nomatch (hn9.1 e).1); have b9 : Below w6.heap.size w6 w9 := b8.grown hg9 b8.size (fun j hj => (own_lt ho8 j hj).1)))
  go_wp2
  go_ret
  exact ⟨gc, cc, ps1.take k ++ ps2 ++ ps1.drop (k + 1), by rw [cuts_len k2]; rfl, cuts_fin k2 PHa.out PHb.out b9 hs6 ho9, cuts_of (by omega) (by omega) (by omega) (by omega) K3.out HY.out K6'.out, R6.out.upto b9 (by omega), grown_b G6.out b9 hs6⟩
end Go.Proofs.YtjbkgmbakjnlhaaGreatDoor
