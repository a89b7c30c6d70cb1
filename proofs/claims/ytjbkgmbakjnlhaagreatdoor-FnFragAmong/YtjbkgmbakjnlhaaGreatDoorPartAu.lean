import Derived.Test.YtjbkgmbakjnlhaaGreatDoorCutTwo
import Derived.Test.YtjbkgmbakjnlhaaGreatDoorMix
import Derived.Test.YtjbkgmbakjnlhaaGreatDoorPartAa
import Derived.Test.YtjbkgmbakjnlhaaGreatDoorPartAb
import Derived.Test.YtjbkgmbakjnlhaaGreatDoorJoinI
import Derived.Test.YtjbkgmbakjnlhaaGreatDoorSpecJ
import Derived.Test.YtjbkgmbakjnlhaaGreatDoorPartAt
import Derived.Laws.Rows
import Derived.Deep.Cut
import Derived.Deep.CutBlock
namespace Go.Proofs.YtjbkgmbakjnlhaaGreatDoor
set_option maxRecDepth 100000
open Go.RowKit
def AnyPk (_ : Pk) (_ : Nat) : Prop := True
theorem cuts_small {p : Pk} {zs : List Int} {ps : List PV} (h : CutsOf p zs (ps.map PV.key)) : ∀ y ∈ ps, y.zs.length ≤ zs.length := by
 intro y hy
 have hm : y.key ∈ ps.map PV.key := List.mem_map_of_mem hy
 obtain ⟨most, _, _, h | ⟨k, more, x, hx, _, _, h⟩⟩ := h
 ·rw [h] at hm
  exact cutL_small p zs most _ hm
 ·rw [h] at hm
  have hxs := cutL_small p zs most x (List.mem_of_getElem? hx)
  rcases List.mem_append.1 hm with hm | hm
  ·rcases List.mem_append.1 hm with hm | hm
   ·exact cutL_small p zs most _ (List.mem_of_mem_take hm)
   ·exact Nat.le_trans (cutL_small x.1 x.2 more _ hm) hxs
  ·exact cutL_small p zs most _ (List.mem_of_mem_drop hm)
theorem cuts_sub {p : Pk} {zs : List Int} {ps : List PV} (h : CutsOf p zs (ps.map PV.key)) : ∀ y ∈ ps, ∀ z ∈ y.zs, z ∈ zs := by
 intro y hy
 have hm : y.key ∈ ps.map PV.key := List.mem_map_of_mem hy
 obtain ⟨most, _, _, h | ⟨k, more, x, hx, _, _, h⟩⟩ := h
 ·rw [h] at hm
  exact cutL_sub p zs most _ hm
 ·rw [h] at hm
  have hxs := cutL_sub p zs most x (List.mem_of_getElem? hx)
  rcases List.mem_append.1 hm with hm | hm
  ·rcases List.mem_append.1 hm with hm | hm
   ·exact cutL_sub p zs most _ (List.mem_of_mem_take hm)
   ·exact fun z hz => hxs z (cutL_sub x.1 x.2 more _ hm z hz)
  ·exact cutL_sub p zs most _ (List.mem_of_mem_drop hm)
theorem cuts_small_len {p : Pk} {zs : List Int} {ps : List PV} (h : CutsOf p zs (ps.map PV.key)) (hl : zs.length ≤ 200) : ps.length ≤ 1000 := by
 obtain ⟨most, h0, h1, h | ⟨k, more, x, hx, h2, h3, h⟩⟩ := h
 ·have e := congrArg List.length h
  have := cutL_len p zs most h0 h1
  simp at e
  omega
 ·have e := congrArg List.length h
  have a := cutL_len p zs most h0 h1
  have hxs := cutL_small p zs most x (List.mem_of_getElem? hx)
  have b := cutL_len x.1 x.2 more h2 (by omega)
  simp at e
  omega
theorem pkt_post {rb M lo : Nat} {w w1 w' : World} {p : Pk} {g c : Nat} {zs : List Int} (hlo : w.heap.size ≤ lo) (ho : w1.ownsRow lo 5 1 (.slice (some ⟨g, 0, none⟩) zs.length c) zs.length (zs.map (.int .u8))) (hl : zs.length ≤ 200) (hR : Rdr w1 rb M) (hlt : rb < w.heap.size) (hG : w.grownBy w1 (some rb)) (hb : Below w.heap.size w1 w') (hk : w'.heap[g]? = w1.heap[g]?) (hy : ∀ z ∈ zs, 0 ≤ z ∧ z ≤ 255) :
  PktPost rb M w.heap.size AnyPk w (.returned (p.val (.slice (some ⟨g, 0, none⟩) zs.length c))) w' :=
 ⟨p, g, c, zs.length, zs, rfl, Joins.ownsRow_le (own_kept ho fun k e => by cases e; exact hk) hlo, rfl, hl, trivial, hR.upto hb hlt, grown_b hG hb (Nat.le_refl _), hy⟩
set_option maxHeartbeats 3200000 in
theorem l5Piece_any (rb N : Nat) (w : World) (hR : Rdr w rb N) (hN : N ≤ 880000) :
  Calls Tryz.prog 52 #[.pointer (some ⟨rb, 0, none⟩)] w (PktPost rb (N + 720) w.heap.size AnyPk w) := by
 have hlt := hR.lt
 have hne : some w.heap.size ≠ some rb := fun e => by have := Option.some.inj e; omega
 go_enter Tryz.func52, Tryz.ntmps52
 go_wp2_with fail
 refine (l5Whole_any rb N _ (hR.below (zBa _ _)) (by omega)).mono ?_
 rintro e w1 ⟨p, g, c, len, zs, rfl, o1, hz, hl, -, R1, G, hby⟩
 subst hz
 have HBY : Hid (∀ z ∈ zs, 0 ≤ z ∧ z ≤ 255) := hby
 clear hby
 have o1' : w1.ownsRow (w.heap.size + 1) 5 1 (.slice (some ⟨g, 0, none⟩) zs.length c) zs.length (zs.map (.int .u8)) := Joins.ownsRow_le o1 (by simp)
 have Z1 : w1.heap[w.heap.size]? = some (.cells (pcells zeroPk (.slice none 0 0)) 29 (0, 0)) := (G.block _ (by simp) hne).trans (heap_new _ _ _ rfl)
 have G1 : w.grownBy w1 (some rb) := grown_trans (grown_alloc _ _ _) G
 have hs1 : w.heap.size < w1.heap.size := lt_of_block Z1
 have hgx : g ≠ w1.heap.size := by have := (own_lt o1' g rfl).2; omega
 have hgz : g ≠ w.heap.size := by have := (own_lt o1' g rfl).1; omega
 clear G o1 hR
 unfold Pk.val
 go_wp2_with fail
 refine (l5Cuts_any rb (N + 700) (w.heap.size + 1) p g c zs _ (R1.below (zBa _ _)) (by omega) (own_below o1' (zBa _ _)) (by omega) hl).mono ?_
 rintro e w2 ⟨g2, c2, ps, rfl, P2, K2, R2, G⟩
 have hnb : some w1.heap.size ≠ some rb := fun e => by have := Option.some.inj e; omega
 have Z2 := (G.block _ (by simp; omega) hne).trans ((zHa hs1).trans Z1)
 have X2 : w2.heap[w1.heap.size]? = some (.cells (pcells p (.slice (some ⟨g, 0, none⟩) zs.length c)) 29 (0, 0)) := (G.block _ (by simp) hnb).trans (heap_new _ _ _ rfl)
 have o2 := own_grown (own_below o1' (zBa _ (.cells (pcells p (.slice (some ⟨g, 0, none⟩) zs.length c)) 29))) G (by omega)
 have G2 : w.grownBy w2 (some rb) := grown_trans (grown_trans G1 (grown_alloc _ _ _)) G
 have P2' : PL w2 (w1.heap.size + 1) (.slice (some ⟨g2, 0, none⟩) ps.length c2) ps := P2.le (by simp)
 have hpl := cuts_small_len K2 hl
 have hpz := cuts_small K2
 have HPS : Hid (∀ y ∈ ps, ∀ z ∈ y.zs, 0 ≤ z ∧ z ≤ 255) := fun y hy z hz => HBY.out z (cuts_sub K2 y hy z hz)
 clear G G1 Z1 o1' R1 P2 K2
 go_wp2_with fail
 refine (pick_any rb (N + 700 + 4) 6 _ R2 (by omega) (by omega) (by omega)).mono ?_
 rintro e w3 ⟨x, rfl, x0, x1, -, R3, G⟩
 have Z3 := (G.block _ (lt_of_block Z2) hne).trans Z2
 have X3 := (G.block _ (lt_of_block X2) hnb).trans X2
 have o3 := own_grown o2 G (by omega)
 have P3 := P2'.grown G (by omega)
 have G3 := grown_trans G2 G
 clear G G2 Z2 X2 o2 R2 P2'
 by_cases hx : x = 0
 ·subst hx
  go_wp2_with fail
  refine (pick_any rb (N + 700 + 4 + 1) 2 _ R3 (by omega) (by omega) (by omega)).mono ?_
  rintro e w4 ⟨y, rfl, y0, y1, -, R4, G⟩
  have Z4 := (G.block _ (lt_of_block Z3) hne).trans Z3
  have X4 := (G.block _ (lt_of_block X3) hnb).trans X3
  have o4 := own_grown o3 G (by omega)
  have G4 := grown_trans G3 G
  have fx : ∀ o, w4.frozen? ⟨w1.heap.size, o, none⟩ = false := fun o => zUf X4 o
  have fz : ∀ o, w4.frozen? ⟨w.heap.size, o, none⟩ = false := fun o => zUf Z4 o
  obtain ⟨_, c0, c1, c2', c3, c4, c5, c6, c7, c8⟩ := Boxed.of_block X4
  obtain ⟨_, z0, z1, z2, z3, z4, z5, z6, z7, z8⟩ := Boxed.of_block Z4
  have OH : Hid (w4.ownsRow (w.heap.size + 1) 5 1 (.slice (some ⟨g, 0, none⟩) zs.length c) zs.length (zs.map (.int .u8))) := o4
  have GH : Hid (w.grownBy w4 (some rb)) := G4
  have RH : Hid (Rdr w4 rb (N + 720)) := R4.mono (by omega)
  clear G G3 G4 o3 o4 Z3 X3 Z4 X4 R3 R4 P3
  go_wp2
  refine bodyPost_ret (v := .agg #[.int .i64 p.src, .int .i64 p.dst, .int .i64 p.kind, .int .i64 p.id, .int .i64 p.hops, .bool (y == 0), .int .i64 p.off, .bool p.more, .slice (some ⟨g, 0, none⟩) zs.length c]) (by simp [results, Tryz.results52, go_sem, z0, z1, z2, z3, z4, z5, z6, z7, z8]) rfl ?_
  exact pkt_post (p := ⟨p.src, p.dst, p.kind, p.id, p.hops, (y == 0), p.off, p.more⟩) (lo := w.heap.size + 1) (by omega) OH.out hl RH.out hlt GH.out (below9 ((Below.refl _ _).setCell (Nat.le_of_lt hs1) _) (Nat.le_refl _) _ _ _ _ _ _ _ _ _) ((heap9 _ _ _ hgz _ _ _ _ _ _ _ _ _).trans (zHs hgx)) HBY.out
 have hxb : (x == 0) = false := by simp [hx]
 by_cases hz : ps.length = 0
 ·have hzb : ((ps.length : Int) == 0) = true := by simp [hz]
  clear hz
  go_wp2_with fail
  refine (pick_any rb (N + 700 + 4 + 1) 2 _ R3 (by omega) (by omega) (by omega)).mono ?_
  rintro e w4 ⟨y, rfl, y0, y1, -, R4, G⟩
  have Z4 := (G.block _ (lt_of_block Z3) hne).trans Z3
  have X4 := (G.block _ (lt_of_block X3) hnb).trans X3
  have o4 := own_grown o3 G (by omega)
  have G4 := grown_trans G3 G
  have fx : ∀ o, w4.frozen? ⟨w1.heap.size, o, none⟩ = false := fun o => zUf X4 o
  have fz : ∀ o, w4.frozen? ⟨w.heap.size, o, none⟩ = false := fun o => zUf Z4 o
  obtain ⟨_, c0, c1, c2', c3, c4, c5, c6, c7, c8⟩ := Boxed.of_block X4
  obtain ⟨_, z0, z1, z2, z3, z4, z5, z6, z7, z8⟩ := Boxed.of_block Z4
  have OH : Hid (w4.ownsRow (w.heap.size + 1) 5 1 (.slice (some ⟨g, 0, none⟩) zs.length c) zs.length (zs.map (.int .u8))) := o4
  have GH : Hid (w.grownBy w4 (some rb)) := G4
  have RH : Hid (Rdr w4 rb (N + 720)) := R4.mono (by omega)
  clear G G3 G4 o3 o4 Z3 X3 Z4 X4 R3 R4 P3
  go_wp2
  refine bodyPost_ret (v := .agg #[.int .i64 p.src, .int .i64 p.dst, .int .i64 p.kind, .int .i64 p.id, .int .i64 p.hops, .bool (y == 0), .int .i64 p.off, .bool p.more, .slice (some ⟨g, 0, none⟩) zs.length c]) (by simp [results, Tryz.results52, go_sem, z0, z1, z2, z3, z4, z5, z6, z7, z8]) rfl ?_
  exact pkt_post (p := ⟨p.src, p.dst, p.kind, p.id, p.hops, (y == 0), p.off, p.more⟩) (lo := w.heap.size + 1) (by omega) OH.out hl RH.out hlt GH.out (below9 ((Below.refl _ _).setCell (Nat.le_of_lt hs1) _) (Nat.le_refl _) _ _ _ _ _ _ _ _ _) ((heap9 _ _ _ hgz _ _ _ _ _ _ _ _ _).trans (zHs hgx)) HBY.out
 ·have hzb : ((ps.length : Int) == 0) = false := by rw [beq_eq_false_iff_ne]; omega
  go_wp2_with fail
  refine (pick_any rb (N + 700 + 4 + 1) (ps.length : Int) _ R3 (by omega) (by omega) (by omega)).mono ?_
  rintro e w4 ⟨ki, rfl, k0, k1, -, R4, G⟩
  obtain ⟨k, rfl⟩ := Int.eq_ofNat_of_zero_le k0
  have k2 : k < ps.length := by have := k1 (by omega); omega
  have k3 : (k : Int) < (ps.length : Int) := by omega
  obtain ⟨y, hy⟩ : ∃ y, ps[k]? = some y := ⟨_, List.getElem?_eq_getElem k2⟩
  have Z4 := (G.block _ (lt_of_block Z3) hne).trans Z3
  have P4 := P3.grown G (by omega)
  have G4 := grown_trans G3 G
  have fz : ∀ o, w4.frozen? ⟨w.heap.size, o, none⟩ = false := fun o => zUf Z4 o
  obtain ⟨c0, c1, c2', c3, c4, c5, c6, c7, c8⟩ := P4.elem hy
  obtain ⟨_, z0, z1, z2, z3, z4, z5, z6, z7, z8⟩ := Boxed.of_block Z4
  have YH : Hid (y.own w4 (w1.heap.size + 1)) := P4.each y (List.mem_of_getElem? hy)
  have hyl : y.zs.length ≤ 200 := Nat.le_trans (hpz y (List.mem_of_getElem? hy)) hl
  have HYM : Hid (y ∈ ps) := List.mem_of_getElem? hy
  have hyg : y.g ≠ w.heap.size := by have := (own_lt YH.out y.g rfl).1; omega
  have GH : Hid (w.grownBy w4 (some rb)) := G4
  have RH : Hid (Rdr w4 rb (N + 720)) := R4.mono (by omega)
  clear G G3 G4 o3 Z3 X3 Z4 R3 R4 P3 P4 hy
  go_wp2
  refine bodyPost_ret (v := .agg #[.int .i64 y.p.src, .int .i64 y.p.dst, .int .i64 y.p.kind, .int .i64 y.p.id, .int .i64 y.p.hops, .bool y.p.whole, .int .i64 y.p.off, .bool y.p.more, .slice (some ⟨y.g, 0, none⟩) y.zs.length y.c]) (by simp [results, Tryz.results52, go_sem, z0, z1, z2, z3, z4, z5, z6, z7, z8]) rfl ?_
  exact pkt_post (p := y.p) (lo := w1.heap.size + 1) (by omega) YH.out hyl RH.out hlt GH.out (below9 (Below.refl _ _) (Nat.le_refl _) _ _ _ _ _ _ _ _ _) (heap9 _ _ _ hyg _ _ _ _ _ _ _ _ _) (HPS.out y HYM.out)
end Go.Proofs.YtjbkgmbakjnlhaaGreatDoor
namespace Go.Proofs.YtjbkgmbakjnlhaaGreatDoor
set_option maxRecDepth 100000
def PieceAt (p : Pk) (zs : List Int) (m l : Nat) (x : Pk × List Int) : Prop :=
 x.1 = ⟨p.src, p.dst, p.kind, p.id, p.hops, p.whole, (m : Int), decide (m + l < zs.length)⟩ ∧ x.2 = (zs.drop m).take l ∧ m % 4 = 0 ∧ m + l ≤ zs.length ∧ (m + l < zs.length → 0 < l ∧ l % 4 = 0)
def PieceOf (p : Pk) (zs : List Int) (x : Pk × List Int) : Prop := ∃ m l, PieceAt p zs m l x
def Cov (L : List (Pk × List Int)) (j : Nat) : Prop := ∃ y ∈ L, y.1.off ≤ j ∧ (j : Int) < y.1.off + y.2.length
def Ends (L : List (Pk × List Int)) : Prop := ∃ y ∈ L, y.1.more = false
theorem PieceAt.len {p : Pk} {zs : List Int} {m l : Nat} {x : Pk × List Int} (h : PieceAt p zs m l x) : x.2.length = l := by
 rw [h.2.1]; have := h.2.2.2.1; simp; omega
theorem piece_whole {p : Pk} {zs : List Int} (h : WholeOk p zs.length) : PieceAt p zs 0 zs.length (p, zs) := by
 obtain ⟨_, h1, h2, h3⟩ := h
 refine ⟨?_, by simp, rfl, by omega, fun h => by omega⟩
 obtain ⟨a, b, c, d, e, f, g, i⟩ := p
 simp at h1 h2 h3 ⊢
 exact ⟨h2, h3⟩
theorem PieceAt.ok {p : Pk} {zs : List Int} {m l : Nat} {x : Pk × List Int} (hw : WholeOk p zs.length) (h : PieceAt p zs m l x) : okB x.1 x.2.length = true := by
 obtain ⟨h0, h1, h2, h3⟩ := hw
 have hl := h.len
 obtain ⟨e1, e2, h4, h5, h6⟩ := h
 rw [hl, e1]
 simp only [okB, headB, offB, moreB, wholeB, inB, Bool.and_eq_true, Bool.or_eq_true, decide_eq_true_eq, beq_iff_eq, Bool.not_eq_true', beq_eq_false_iff_ne, decide_eq_false_iff_not] at h0 ⊢
 obtain ⟨⟨⟨⟨⟨⟨⟨a1, a2⟩, a3⟩, a4⟩, a5⟩, ⟨⟨a6, a7⟩, a8⟩⟩, a9⟩, a10⟩ := h0
 rw [h2] at a8
 refine ⟨⟨⟨⟨⟨⟨⟨a1, a2⟩, a3⟩, a4⟩, a5⟩, ⟨⟨⟨by omega, by omega⟩, by omega⟩, by omega⟩⟩, ?_⟩, Or.inl h1⟩
 by_cases hc : m + l < zs.length
 ·right
  have := h6 hc
  omega
 ·exact Or.inl hc
theorem cutN_facts {most : Int} (h0 : 12 ≤ most) : 4 ≤ cutN most ∧ cutN most % 4 = 0 := by
 unfold cutN; omega
theorem piece_mem {p : Pk} {zs : List Int} {m l n i : Nat} {x : Pk × List Int} (h : PieceAt p zs m l x) (hn : 4 ≤ n) (hn4 : n % 4 = 0) (hi : i * n < l) :
  PieceAt p zs (m + i * n) (min n (l - i * n)) (pieceP x.1 x.2.length (i * n) n, pieceD x.2 (i * n) n) := by
 have hl := h.len
 obtain ⟨e1, e2, h4, h5, h6⟩ := h
 have hin : (i * n) % 4 = 0 := by rw [Nat.mul_mod, hn4]; simp
 refine ⟨?_, ?_, by omega, by omega, fun hc => ?_⟩
 ·rw [hl]
  unfold pieceP
  rw [e1]
  simp
  rw [Bool.eq_iff_iff]
  simp
  omega
 ·simp only [pieceD, e2, List.drop_take, List.take_take, List.drop_drop]
 ·by_cases hc2 : i * n + n < l
  ·rw [Nat.min_eq_left (by omega)]; omega
  ·rw [Nat.min_eq_right (by omega)] at hc ⊢
   have := h6 (by omega)
   omega
theorem count_lt {l n i : Nat} (_hn : 0 < n) (hi : i < (l + n - 1) / n) : i * n < l := by
 have h1 : (i + 1) * n ≤ l + n - 1 := Nat.le_trans (Nat.mul_le_mul_right n hi) (Nat.div_mul_le_self _ _)
 rw [Nat.add_mul] at h1
 omega
theorem lt_count {l n i : Nat} (hn : 0 < n) (hi : i * n < l) : i < (l + n - 1) / n := by
 have h1 : i + 1 ≤ (l + n - 1) / n := (Nat.le_div_iff_mul_le hn).2 (by rw [Nat.add_mul]; omega)
 exact h1
theorem cutL_forms {p : Pk} {zs : List Int} {m l : Nat} {x : Pk × List Int} {most : Int} (hw : WholeOk p zs.length) (h : PieceAt p zs m l x) (h0 : 12 ≤ most) :
  cutL x.1 x.2 most = [x] ∨ (0 < l ∧ cutL x.1 x.2 most = cutTo x.1 x.2 (cutN most) ((l + cutN most - 1) / cutN most)) := by
 have hok := h.ok hw
 have hl := h.len
 have hwh : x.1.whole = false := by rw [h.1]; exact hw.2.1
 unfold cutL
 rw [hok, if_pos rfl, if_neg (by omega)]
 by_cases hf : 8 + (x.2.length : Int) ≤ most
 ·rw [if_pos hf]; exact Or.inl rfl
 ·rw [if_neg hf, hwh, if_neg (by simp), hl]
  exact Or.inr ⟨by omega, rfl⟩
theorem cut_piece {p : Pk} {zs : List Int} {m l : Nat} {x : Pk × List Int} {most : Int} (hw : WholeOk p zs.length) (h : PieceAt p zs m l x) (h0 : 12 ≤ most) : ∀ y ∈ cutL x.1 x.2 most, PieceOf p zs y := by
 have hn := cutN_facts h0
 intro y hy
 rcases cutL_forms hw h h0 with e | ⟨_, e⟩
 ·rw [e] at hy
  obtain rfl := List.mem_singleton.1 hy
  exact ⟨m, l, h⟩
 ·rw [e] at hy
  obtain ⟨i, hi, rfl⟩ := List.mem_map.1 hy
  exact ⟨_, _, piece_mem h hn.1 hn.2 (count_lt (by omega) (List.mem_range.1 hi))⟩
theorem cut_mem {p : Pk} {zs : List Int} {m l i : Nat} {x : Pk × List Int} {n : Nat} (_h : PieceAt p zs m l x) (hn : 0 < n) (hi : i * n < l) : (pieceP x.1 x.2.length (i * n) n, pieceD x.2 (i * n) n) ∈ cutTo x.1 x.2 n ((l + n - 1) / n) :=
 List.mem_map.2 ⟨i, List.mem_range.2 (lt_count hn hi), rfl⟩
theorem PieceAt.off {p : Pk} {zs : List Int} {m l : Nat} {x : Pk × List Int} (h : PieceAt p zs m l x) : x.1.off = m := by rw [h.1]
theorem cut_cov {p : Pk} {zs : List Int} {m l : Nat} {x : Pk × List Int} {most : Int} (hw : WholeOk p zs.length) (h : PieceAt p zs m l x) (h0 : 12 ≤ most) {j : Nat} (j0 : m ≤ j) (j1 : j < m + l) : Cov (cutL x.1 x.2 most) j := by
 have hn := cutN_facts h0
 rcases cutL_forms hw h h0 with e | ⟨_, e⟩
 ·rw [e]
  exact ⟨x, List.mem_singleton.2 rfl, by rw [h.off]; omega, by rw [h.off, h.len]; omega⟩
 ·rw [e]
  generalize cutN most = n at *
  have hd := Nat.div_add_mod (j - m) n
  have hm := Nat.mod_lt (j - m) (show 0 < n by omega)
  rw [Nat.mul_comm] at hd
  have hi : (j - m) / n * n < l := by omega
  have hp := piece_mem h hn.1 hn.2 hi
  exact ⟨_, cut_mem h (by omega) hi, by rw [hp.off]; omega, by rw [hp.off, hp.len]; omega⟩
theorem cut_ends {p : Pk} {zs : List Int} {m l : Nat} {x : Pk × List Int} {most : Int} (hw : WholeOk p zs.length) (h : PieceAt p zs m l x) (h0 : 12 ≤ most) (he : m + l = zs.length) : Ends (cutL x.1 x.2 most) := by
 have hn := cutN_facts h0
 rcases cutL_forms hw h h0 with e | ⟨hl, e⟩
 ·rw [e]
  exact ⟨x, List.mem_singleton.2 rfl, by rw [h.1]; simp; omega⟩
 ·rw [e]
  generalize cutN most = n at *
  have hd := Nat.div_add_mod (l - 1) n
  have hm := Nat.mod_lt (l - 1) (show 0 < n by omega)
  rw [Nat.mul_comm] at hd
  have hi : (l - 1) / n * n < l := by omega
  have hp := piece_mem h hn.1 hn.2 hi
  exact ⟨_, cut_mem h (by omega) hi, by rw [hp.1]; simp; omega⟩
structure Ways (p : Pk) (zs : List Int) (L : List (Pk × List Int)) : Prop where
 each : ∀ y ∈ L, PieceOf p zs y
 cov : ∀ j, j < zs.length → Cov L j
 ends : Ends L
theorem ways_once {p : Pk} {zs : List Int} {most : Int} (hw : WholeOk p zs.length) (h0 : 12 ≤ most) : Ways p zs (cutL p zs most) := by
 have h := piece_whole hw
 have a := cut_piece hw h h0
 have c := cut_ends hw h h0 (Nat.zero_add _)
 refine ⟨a, fun j hj => ?_, c⟩
 have b := cut_cov hw h h0 (j := j) (Nat.zero_le j) (Nat.lt_of_lt_of_eq hj (Nat.zero_add _).symm)
 exact b
theorem Cov.mono {L L' : List (Pk × List Int)} {j : Nat} (h : Cov L j) (hs : ∀ y ∈ L, y ∈ L') : Cov L' j := by
 obtain ⟨y, hy, h1, h2⟩ := h
 exact ⟨y, hs y hy, h1, h2⟩
theorem Ends.mono {L L' : List (Pk × List Int)} (h : Ends L) (hs : ∀ y ∈ L, y ∈ L') : Ends L' := by
 obtain ⟨y, hy, h1⟩ := h
 exact ⟨y, hs y hy, h1⟩
theorem Ways.mix {p : Pk} {zs : List Int} {L L' : List (Pk × List Int)} (h : Ways p zs L) (h1 : ∀ y ∈ L, y ∈ L') (h2 : ∀ y ∈ L', y ∈ L) : Ways p zs L' :=
 ⟨fun y hy => h.each y (h2 y hy), fun j hj => (h.cov j hj).mono h1, h.ends.mono h1⟩
end Go.Proofs.YtjbkgmbakjnlhaaGreatDoor
namespace Go.Proofs.YtjbkgmbakjnlhaaGreatDoor
set_option maxRecDepth 100000
open Go.RowKit
structure WS (w v : World) (p : Pk) (g c m b5 rb lo : Nat) (ds : List Int) : Prop where
 lo5 : lo ≤ b5
 b5l : b5 < v.heap.size
 rbw : w.heap.size < rb
 rbl : rb < lo
 zl : w.heap.size < v.heap.size
 box : v.heap[b5]? = some (.cells (pcells p (.slice (some ⟨g, 0, none⟩) m c)) 29 (0, 0))
 zero : v.heap[w.heap.size]? = some (.cells (pcells zeroPk (.slice none 0 0)) 29 (0, 0))
 own : v.ownsRow lo 5 1 (.slice (some ⟨g, 0, none⟩) ds.length c) ds.length (ds.map (.int .u8))
 bel : Below w.heap.size w v
theorem WS.kept {w v v' : World} {p : Pk} {g c m b5 rb lo k : Nat} {ds : List Int} (h : WS w v p g c m b5 rb lo ds) (hg : v.grownBy v' (some k)) (h1 : w.heap.size < k) (h2 : k ≠ b5) (h3 : k ≠ g) : WS w v' p g c m b5 rb lo ds :=
 ⟨h.lo5, Nat.lt_of_lt_of_le h.b5l hg.size, h.rbw, h.rbl, Nat.lt_of_lt_of_le h.zl hg.size, (hg.block _ h.b5l (fun e => h2 (Option.some.inj e).symm)).trans h.box, (hg.block _ h.zl (fun e => by have := Option.some.inj e; omega)).trans h.zero, own_kept h.own fun j e => hg.block j (own_lt h.own j e).2 (fun e' => by cases e; exact h3 (Option.some.inj e').symm), h.bel.trans ⟨hg.os, hg.tape, hg.output, hg.size, fun j hj => hg.block j (by have := h.bel.size; omega) (fun e => by have := Option.some.inj e; omega)⟩⟩
theorem WS.grown {w v v' : World} {p : Pk} {g c m b5 rb lo : Nat} {ds : List Int} (h : WS w v p g c m b5 rb lo ds) (hg : v.grownBy v' (some rb)) : WS w v' p g c m b5 rb lo ds :=
 h.kept hg h.rbw (by have := h.rbl; have := h.lo5; omega) (by have := h.rbl; have := (own_lt h.own g rfl).1; omega)
theorem WS.drew {w v : World} {p : Pk} {g c m b5 rb lo : Nat} {ds : List Int} (h : WS w v p g c m b5 rb lo ds) : WS w v.drew p g c m b5 rb lo ds :=
 h.grown (grown_below (draw1 _))
theorem below_of_grown {w w1 w2 : World} {rb : Nat} (hb : Below w.heap.size w w1) (hg : w1.grownBy w2 (some rb)) (hr : w.heap.size ≤ rb) : Below w.heap.size w w2 :=
 hb.trans ⟨hg.os, hg.tape, hg.output, hg.size, fun k hk => hg.block k (by have := hb.size; omega) (fun e => by have := Option.some.inj e; omega)⟩
end Go.Proofs.YtjbkgmbakjnlhaaGreatDoor
namespace Go.Proofs.YtjbkgmbakjnlhaaGreatDoor
set_option maxRecDepth 100000
open Go.RowKit
def twoBox (w : World) (p : Pk) (v1 v2 : Value) : World := (w.alloc (.cells (pcells p v1) 29)).alloc (.cells (pcells p v2) 29)
theorem twoBox_at (w : World) (p : Pk) (v1 v2 : Value) : Boxed (twoBox w p v1 v2) w.heap.size p v1 ∧ Boxed (twoBox w p v1 v2) (w.heap.size + 1) p v2 :=
 ⟨(Boxed.new w p v1 29).below (zBa _ _), Boxed.newAt _ _ p v2 29 (by simp)⟩
set_option maxHeartbeats 1600000 in
theorem wfSame_same (p : Pk) (a1 a2 : Option Addr) (len cap1 cap2 : Nat) (zs : List Int) (w : World) (hr1 : RdB w a1 len zs) (hr2 : RdB w a2 len zs) (hl : len ≤ 1048576) :
  Calls Tryz.prog 12 #[p.val (.slice a1 len cap1), p.val (.slice a2 len cap2)] w fun e w' => e = .returned (.bool true) ∧ Below w.heap.size w w' := by
 unfold Pk.val
 have hn : ∀ x : Int, (x != x) = false := fun x => by simp
 have hb : ∀ x : Bool, (x != x) = false := fun x => by simp
 obtain ⟨hz, hc1⟩ := hr1
 obtain ⟨_, hc2⟩ := hr2
 subst hz
 by_cases h0 : zs.length = 0
 ·have hnil : zs = [] := List.length_eq_zero_iff.1 h0
  subst hnil
  clear hc1 hc2 h0
  go_enter Tryz.func12, Tryz.ntmps12
  go_wp2
  refine wp_loop_rounds 1 ?_
  rw [rounds_succ]
  go_wp2
  go_ret
  exact ⟨rfl, Joins.below_alloc2 _ _ _⟩
 ·obtain ⟨b1, off1, rfl, hb1, hc1⟩ := hc1.resolve_left h0
  obtain ⟨b2, off2, rfl, hb2, hc2⟩ := hc2.resolve_left h0
  go_enter Tryz.func12, Tryz.ntmps12
  go_wp2
  go_loopw [5] (fun i wr => ∃ k : Nat, k ≤ zs.length ∧ i = .int .i64 k ∧ Hid (Below (w.heap.size + 2) (twoBox w p (.slice (some ⟨b1, off1, none⟩) zs.length cap1) (.slice (some ⟨b2, off2, none⟩) zs.length cap2)) wr)) (fun i _ => zs.length - (intOf i).toNat)
  case atStart => exact ⟨0, Nat.zero_le _, rfl, Below.refl _ _⟩
  case round =>
   obtain ⟨k, hk, rfl, HW⟩ := hrel
   have x8 : wr.cell? ⟨w.heap.size, 8, none⟩ = some (.slice (some ⟨b1, off1, none⟩) zs.length cap1) := ((twoBox_at w p _ _).1.upto HW.out (by omega)).c8
   have y8 : wr.cell? ⟨w.heap.size + 1, 8, none⟩ = some (.slice (some ⟨b2, off2, none⟩) zs.length cap2) := ((twoBox_at w p _ _).2.upto HW.out (by omega)).c8
   have HB : Hid (Below w.heap.size w wr) := (Joins.below_alloc2 _ _ _).trans (HW.out.mono (by omega))
   by_cases hlt : k < zs.length
   ·have hcell1 := (HB.out.cell (p := ⟨b1, off1 + k, none⟩) hb1).trans (hc1 k hlt)
    have hcell2 := (HB.out.cell (p := ⟨b2, off2 + k, none⟩) hb2).trans (hc2 k hlt)
    have hi : (k : Int) < (zs.length : Int) := by omega
    clear hc1 hc2
    go_wp2
    go_quiet (fail)
    go_wp2
    go_roundw
    case rel => exact ⟨k + 1, by omega, by go_num, HW.out.trans (Joins.below_draws _ _ _)⟩
    case measure => simp [intOf]; omega
   ·go_wp2
    go_ret
    exact ⟨rfl, HB.out⟩
end Go.Proofs.YtjbkgmbakjnlhaaGreatDoor
namespace Go.Proofs.YtjbkgmbakjnlhaaGreatDoor
set_option maxRecDepth 100000
theorem PieceAt.byte {p : Pk} {zs : List Int} {m l : Nat} {x : PB} (h : PieceAt p zs m l x) {j : Nat} (j0 : m ≤ j) (j1 : j < m + l) : byteAt x j = zs.getD j 0 := by
 unfold byteAt
 rw [h.off, h.2.1]
 have e : ((j : Int) - (m : Int)).toNat = j - m := by omega
 rw [e]
 simp only [List.getD, List.getElem?_take, List.getElem?_drop]
 rw [if_pos (by omega), show m + (j - m) = j by omega]
theorem PieceAt.endIs {p : Pk} {zs : List Int} {m l : Nat} {x : PB} (h : PieceAt p zs m l x) : endOf x = ((m + l : Nat) : Int) := by
 unfold endOf; rw [h.off, h.len]; omega
theorem PieceAt.moreIs {p : Pk} {zs : List Int} {m l : Nat} {x : PB} (h : PieceAt p zs m l x) : x.1.more = decide (m + l < zs.length) := by rw [h.1]
theorem PieceAt.has {p : Pk} {zs : List Int} {m l : Nat} {x : PB} (h : PieceAt p zs m l x) (j : Nat) : hasB x j = true ↔ m ≤ j ∧ j < m + l := by
 unfold hasB
 rw [h.off, h.endIs]
 simp
 omega
theorem against_no {p : Pk} {zs : List Int} {x y : PB} (hx : PieceOf p zs x) (hy : PieceOf p zs y) : againstB x y = false := by
 obtain ⟨m, l, hx⟩ := hx
 obtain ⟨m', l', hy⟩ := hy
 unfold againstB
 rw [Bool.or_eq_false_iff]
 constructor
 ·rw [List.any_eq_false]
  intro t ht
  rw [List.mem_range, hx.len] at ht
  have e : x.1.off + (t : Int) = ((m + t : Nat) : Int) := by rw [hx.off]; omega
  rw [e]
  simp only [Bool.and_eq_true, bne_iff_ne, ne_eq, not_and, Decidable.not_not]
  intro hh
  have hh' := (hy.has (m + t)).1 hh
  rw [hx.byte (by omega) (by omega), hy.byte hh'.1 hh'.2]
 ·rw [hx.moreIs, hy.moreIs, hx.endIs, hy.endIs]
  have h1 := hx.2.2.2.1
  have h2 := hy.2.2.2.1
  by_cases hc : m + l < zs.length
  ·simp [hc]
  ·simp [hc]
   omega
theorem bytes_ways {p : Pk} {zs : List Int} {L : List PB} (h : Ways p zs L) : ∀ n, n ≤ zs.length → bytesL L n = some (zs.take n) := by
 intro n
 induction n with
 | zero => intro _; simp [bytesL]
 | succ n ih =>
  intro hn
  rw [bytesL, ih (by omega)]
  obtain ⟨y, hy, y0, y1⟩ := h.cov n (by omega)
  cases hf : L.find? (fun x => hasB x n) with
  | none =>
   have := List.find?_eq_none.1 hf y hy
   have hh : hasB y n = true := by unfold hasB endOf; rw [Bool.and_eq_true]; exact ⟨decide_eq_true y0, decide_eq_true y1⟩
   exact absurd hh this
  | some x =>
   have hx := List.mem_of_find?_eq_some hf
   have hh : hasB x n = true := by have := List.find?_some hf; simpa using this
   obtain ⟨m, l, hp⟩ := h.each x hx
   have hb := (hp.has n).1 hh
   simp only
   rw [hp.byte hb.1 hb.2, List.take_add_one]
   simp [List.getD, List.getElem?_eq_getElem (show n < zs.length by omega)]
theorem end_ways {p : Pk} {zs : List Int} {L : List PB} (h : Ways p zs L) : endL L = some (zs.length : Int) := by
 unfold endL
 obtain ⟨y, hy, y0⟩ := h.ends
 cases hf : L.find? (fun x => !x.1.more) with
 | none =>
  have := List.find?_eq_none.1 hf y hy
  simp [y0] at this
 | some x =>
  have hx := List.mem_of_find?_eq_some hf
  have hm : x.1.more = false := by have := List.find?_some hf; simpa using this
  obtain ⟨m, l, hp⟩ := h.each x hx
  rw [hp.moreIs] at hm
  have := hp.2.2.2.1
  simp at hm
  simp only [Option.map_some, hp.endIs]
  rw [show m + l = zs.length by omega]
theorem disagree_ways {p : Pk} {zs : List Int} {L : List PB} (h : Ways p zs L) : disagreeL L = false := by
 unfold disagreeL
 rw [List.any_eq_false]
 intro x hx
 simp only [Bool.not_eq_true]
 rw [List.any_eq_false]
 intro y hy
 rw [against_no (h.each x hx) (h.each y hy)]
 simp
theorem piece_key {p : Pk} {zs : List Int} {x : PB} (h : PieceOf p zs x) : x.1.src = p.src ∧ x.1.dst = p.dst ∧ x.1.kind = p.kind ∧ x.1.id = p.id ∧ x.1.hops = p.hops ∧ x.1.whole = p.whole := by
 obtain ⟨m, l, h⟩ := h
 rw [h.1]
 exact ⟨rfl, rfl, rfl, rfl, rfl, rfl⟩
theorem alike_ways {p : Pk} {zs : List Int} {L : List PB} (hw : WholeOk p zs.length) (h : Ways p zs L) (hl : L.length ≤ 40) : alikeL L = true := by
 match L, h, hl with
 | [], h, _ => obtain ⟨y, hy, _⟩ := h.ends; cases hy
 | x :: r, h, hl =>
  unfold alikeL
  rw [Bool.and_eq_true]
  refine ⟨by simpa using hl, List.all_eq_true.2 fun y hy => ?_⟩
  have hx := h.each x (List.mem_cons_self ..)
  have hy := h.each y hy
  have k1 := piece_key hx
  have k2 := piece_key hy
  obtain ⟨_, _, ax⟩ := hx
  obtain ⟨_, _, ay⟩ := hy
  unfold alikeB
  rw [ax.ok hw, ay.ok hw, k1.1, k1.2.1, k1.2.2.1, k1.2.2.2.1, k2.1, k2.2.1, k2.2.2.1, k2.2.2.2.1]
  simp
theorem fold_hops {p : Pk} {zs : List Int} {L : List PB} (h : ∀ y ∈ L, PieceOf p zs y) : L.foldl (fun h y => if y.1.hops < h then y.1.hops else h) p.hops = p.hops := by
 induction L with
 | nil => rfl
 | cons x r ih =>
  rw [List.foldl_cons, (piece_key (h x (List.mem_cons_self ..))).2.2.2.2.1, if_neg (by omega)]
  exact ih fun y hy => h y (List.mem_cons_of_mem _ hy)
theorem head_ways {p : Pk} {zs : List Int} {L : List PB} (hw : WholeOk p zs.length) (h : Ways p zs L) : headL L = p := by
 match L, h with
 | [], h => obtain ⟨y, hy, _⟩ := h.ends; cases hy
 | x :: r, h =>
  have k := piece_key (h.each x (List.mem_cons_self ..))
  simp only [headL]
  rw [k.1, k.2.1, k.2.2.1, k.2.2.2.1, k.2.2.2.2.1, fold_hops h.each]
  have hany : (x :: r).any (fun y => y.1.whole) = false := by
   rw [List.any_eq_false]
   intro y hy
   rw [(piece_key (h.each y hy)).2.2.2.2.2, hw.2.1]
   simp
  rw [hany]
  obtain ⟨_, h1, h2, h3⟩ := hw
  obtain ⟨a, b, c, d, e, f, g, i⟩ := p
  simp at h1 h2 h3 ⊢
  exact ⟨h1, h2.symm, h3⟩
theorem join_ways {p : Pk} {zs : List Int} {L : List PB} (hw : WholeOk p zs.length) (h : Ways p zs L) (hl : L.length ≤ 40) : joinL L = (0, (p, zs)) := by
 unfold joinL
 rw [alike_ways hw h hl, if_pos rfl, disagree_ways h, if_neg (by simp), end_ways h]
 simp only [Int.toNat_natCast]
 rw [bytes_ways h zs.length (Nat.le_refl _), head_ways hw h]
 simp
end Go.Proofs.YtjbkgmbakjnlhaaGreatDoor
namespace Go.Proofs.YtjbkgmbakjnlhaaGreatDoor
set_option maxRecDepth 100000
open Go.RowKit
def PV.rv (x : PV) : RV := ⟨x.p, some ⟨x.g, 0, none⟩, x.c, x.zs⟩
theorem rv_keys (ps : List PV) : (ps.map PV.rv).map RV.key = ps.map PV.key := by
 rw [List.map_map]
 rfl
def Fine (ps : List PV) : Prop := ∀ y ∈ ps, y.zs.length ≤ 1048576 ∧ ∀ z ∈ y.zs, 0 ≤ z ∧ z ≤ 255
theorem PL.rl {w : World} {lo g c n : Nat} {ps : List PV} (h : PL w lo (.slice (some ⟨g, 0, none⟩) n c) ps) (hn : ps.length = n) (hf : Fine ps) : RL w g (ps.map PV.rv) := by
 refine ⟨(own_lt h.row g rfl).2, fun k x hx => ?_, fun x hx => ?_⟩
 ·rw [List.getElem?_map] at hx
  cases hy : ps[k]? with
  | none => rw [hy] at hx; cases hx
  | some y =>
   rw [hy] at hx
   cases hx
   obtain ⟨a, b, c, d, e, f, i, j, l⟩ := id (h.elemI hn hy)
   exact ⟨a, b, c, d, e, f, i, j, l⟩
 ·obtain ⟨y, hy, rfl⟩ := List.mem_map.1 hx
  have o := h.each y hy
  have oc := own_caps (show w.ownsRow lo 5 1 (.slice (some ⟨y.g, 0, none⟩) y.zs.length y.c) y.zs.length _ from o)
  exact ⟨RdB.of_own rfl o, (hf y hy).1, oc.1, oc.2, (hf y hy).2⟩
end Go.Proofs.YtjbkgmbakjnlhaaGreatDoor
namespace Go.Proofs.YtjbkgmbakjnlhaaGreatDoor
set_option maxRecDepth 100000
open Go.RowKit
end Go.Proofs.YtjbkgmbakjnlhaaGreatDoor
namespace Go.Proofs.YtjbkgmbakjnlhaaGreatDoor
set_option maxRecDepth 100000
open Go.RowKit
end Go.Proofs.YtjbkgmbakjnlhaaGreatDoor
namespace Go.Proofs.YtjbkgmbakjnlhaaGreatDoor
set_option maxRecDepth 100000
open Go.RowKit
end Go.Proofs.YtjbkgmbakjnlhaaGreatDoor
namespace Go.Proofs.YtjbkgmbakjnlhaaGreatDoor
set_option maxRecDepth 100000
open Go.RowKit
end Go.Proofs.YtjbkgmbakjnlhaaGreatDoor
namespace Go.Proofs.YtjbkgmbakjnlhaaGreatDoor
set_option maxRecDepth 100000
open Go.RowKit
end Go.Proofs.YtjbkgmbakjnlhaaGreatDoor
namespace Go.Proofs.YtjbkgmbakjnlhaaGreatDoor
set_option maxRecDepth 100000
open Go.RowKit
end Go.Proofs.YtjbkgmbakjnlhaaGreatDoor
namespace Go.Proofs.YtjbkgmbakjnlhaaGreatDoor
set_option maxRecDepth 100000
open Go.RowKit
end Go.Proofs.YtjbkgmbakjnlhaaGreatDoor
namespace Go.Proofs.YtjbkgmbakjnlhaaGreatDoor
set_option maxRecDepth 100000
open Go.RowKit
end Go.Proofs.YtjbkgmbakjnlhaaGreatDoor
namespace Go.Proofs.YtjbkgmbakjnlhaaGreatDoor
set_option maxRecDepth 100000
open Go.RowKit
end Go.Proofs.YtjbkgmbakjnlhaaGreatDoor
