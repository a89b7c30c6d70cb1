import Derived.Test.YtjbkgmbakjnlhaaGreatDoorCutTwo
import Derived.Test.YtjbkgmbakjnlhaaGreatDoorMix
import Derived.Test.YtjbkgmbakjnlhaaGreatDoorPartAa
import Derived.Test.YtjbkgmbakjnlhaaGreatDoorPartAb
import Derived.Test.YtjbkgmbakjnlhaaGreatDoorJoinI
import Derived.Test.YtjbkgmbakjnlhaaGreatDoorSpecJ
namespace Go.Proofs.YtjbkgmbakjnlhaaGreatDoor
set_option maxRecDepth 100000
open Go.RowKit
def AnyPk (_ : Pk) (_ : Nat) : Prop := True
theorem cuts_small {p : Pk} {zs : List Int} {ps : List PV} (h : CutsOf p zs (ps.map PV.key)) : ∀ y ∈ ps, y.zs.length ≤ zs.length := by
 intro y hy
 have hm : y.key ∈ ps.map PV.key := List.mem_map_of_mem hy
 obtain ⟨most, _, _, h | ⟨k, more, x, hx, _, _, h⟩⟩ := h
 ·rw [h] at hm
  exact cutL_small p zs most _ hm
 ·rw [h] at hm
  have hxs := cutL_small p zs most x (List.mem_of_getElem? hx)
  rcases List.mem_append.1 hm with hm | hm
  ·rcases List.mem_append.1 hm with hm | hm
   ·exact cutL_small p zs most _ (List.mem_of_mem_take hm)
   ·exact Nat.le_trans (cutL_small x.1 x.2 more _ hm) hxs
  ·exact cutL_small p zs most _ (List.mem_of_mem_drop hm)
theorem cuts_sub {p : Pk} {zs : List Int} {ps : List PV} (h : CutsOf p zs (ps.map PV.key)) : ∀ y ∈ ps, ∀ z ∈ y.zs, z ∈ zs := by
 intro y hy
 have hm : y.key ∈ ps.map PV.key := List.mem_map_of_mem hy
 obtain ⟨most, _, _, h | ⟨k, more, x, hx, _, _, h⟩⟩ := h
 ·rw [h] at hm
  exact cutL_sub p zs most _ hm
 ·rw [h] at hm
  have hxs := cutL_sub p zs most x (List.mem_of_getElem? hx)
  rcases List.mem_append.1 hm with hm | hm
  ·rcases List.mem_append.1 hm with hm | hm
   ·exact cutL_sub p zs most _ (List.mem_of_mem_take hm)
   ·exact fun z hz => hxs z (cutL_sub x.1 x.2 more _ hm z hz)
  ·exact cutL_sub p zs most _ (List.mem_of_mem_drop hm)
theorem cuts_small_len {p : Pk} {zs : List Int} {ps : List PV} (h : CutsOf p zs (ps.map PV.key)) (hl : zs.length ≤ 200) : ps.length ≤ 1000 := by
 obtain ⟨most, h0, h1, h | ⟨k, more, x, hx, h2, h3, h⟩⟩ := h
 ·have e := congrArg List.length h
  have := cutL_len p zs most h0 h1
  simp at e
  omega
 ·have e := congrArg List.length h
  have a := cutL_len p zs most h0 h1
  have hxs := cutL_small p zs most x (List.mem_of_getElem? hx)
  have b := cutL_len x.1 x.2 more h2 (by omega)
  simp at e
  omega
theorem pkt_post {rb M lo : Nat} {w w1 w' : World} {p : Pk} {g c : Nat} {zs : List Int} (hlo : w.heap.size ≤ lo) (ho : w1.ownsRow lo 5 1 (.slice (some ⟨g, 0, none⟩) zs.length c) zs.length (zs.map (.int .u8))) (hl : zs.length ≤ 200) (hR : Rdr w1 rb M) (hlt : rb < w.heap.size) (hG : w.grownBy w1 (some rb)) (hb : Below w.heap.size w1 w') (hk : w'.heap[g]? = w1.heap[g]?) (hy : ∀ z ∈ zs, 0 ≤ z ∧ z ≤ 255) :
  PktPost rb M w.heap.size AnyPk w (.returned (p.val (.slice (some ⟨g, 0, none⟩) zs.length c))) w' :=
 ⟨p, g, c, zs.length, zs, rfl, Joins.ownsRow_le (own_kept ho fun k e => by cases e; exact hk) hlo, rfl, hl, trivial, hR.upto hb hlt, grown_b hG hb (Nat.le_refl _), hy⟩
set_option maxHeartbeats 3200000 in
theorem l5Piece_any (rb N : Nat) (w : World) (hR : Rdr w rb N) (hN : N ≤ 880000) :
  Calls Tryz.prog 52 #[.pointer (some ⟨rb, 0, none⟩)] w (PktPost rb (N + 720) w.heap.size AnyPk w) := by
 have hlt := hR.lt
 have hne : some w.heap.size ≠ some rb := fun e => by have := Option.some.inj e; omega
 go_enter Tryz.func52, Tryz.ntmps52
 go_wp2_with fail
 refine (l5Whole_any rb N _ (hR.below (zBa _ _)) (by omega)).mono ?_
 rintro e w1 ⟨p, g, c, len, zs, rfl, o1, hz, hl, -, R1, G, hby⟩
 subst hz
 have HBY : Hid (∀ z ∈ zs, 0 ≤ z ∧ z ≤ 255) := hby
 clear hby
 have o1' : w1.ownsRow (w.heap.size + 1) 5 1 (.slice (some ⟨g, 0, none⟩) zs.length c) zs.length (zs.map (.int .u8)) := Joins.ownsRow_le o1 (by simp)
 have Z1 : w1.heap[w.heap.size]? = some (.cells (pcells zeroPk (.slice none 0 0)) 29 (0, 0)) := (G.block _ (by simp) hne).trans (heap_new _ _ _ rfl)
 have G1 : w.grownBy w1 (some rb) := grown_trans (grown_alloc _ _ _) G
 have hs1 : w.heap.size < w1.heap.size := lt_of_block Z1
 have hgx : g ≠ w1.heap.size := by have := (own_lt o1' g rfl).2; omega
 have hgz : g ≠ w.heap.size := by have := (own_lt o1' g rfl).1; omega
 clear G o1 hR
 unfold Pk.val
 go_wp2_with fail
 refine (l5Cuts_any rb (N + 700) (w.heap.size + 1) p g c zs _ (R1.below (zBa _ _)) (by omega) (own_below o1' (zBa _ _)) (by omega) hl).mono ?_
 rintro e w2 ⟨g2, c2, ps, rfl, P2, K2, R2, G⟩
 have hnb : some w1.heap.size ≠ some rb := fun e => by have := Option.some.inj e; omega
 have Z2 := (G.block _ (by simp; omega) hne).trans ((zHa hs1).trans Z1)
 have X2 : w2.heap[w1.heap.size]? = some (.cells (pcells p (.slice (some ⟨g, 0, none⟩) zs.length c)) 29 (0, 0)) := (G.block _ (by simp) hnb).trans (heap_new _ _ _ rfl)
 have o2 := own_grown (own_below o1' (zBa _ (.cells (pcells p (.slice (some ⟨g, 0, none⟩) zs.length c)) 29))) G (by omega)
 have G2 : w.grownBy w2 (some rb) := grown_trans (grown_trans G1 (grown_alloc _ _ _)) G
 have P2' : PL w2 (w1.heap.size + 1) (.slice (some ⟨g2, 0, none⟩) ps.length c2) ps := P2.le (by simp)
 have hpl := cuts_small_len K2 hl
 have hpz := cuts_small K2
 have HPS : Hid (∀ y ∈ ps, ∀ z ∈ y.zs, 0 ≤ z ∧ z ≤ 255) := fun y hy z hz => HBY.out z (cuts_sub K2 y hy z hz)
 clear G G1 Z1 o1' R1 P2 K2
 go_wp2_with fail
 refine (pick_any rb (N + 700 + 4) 6 _ R2 (by omega) (by omega) (by omega)).mono ?_
 rintro e w3 ⟨x, rfl, x0, x1, -, R3, G⟩
 have Z3 := (G.block _ (lt_of_block Z2) hne).trans Z2
 have X3 := (G.block _ (lt_of_block X2) hnb).trans X2
 have o3 := own_grown o2 G (by omega)
 have P3 := P2'.grown G (by omega)
 have G3 := grown_trans G2 G
 clear G G2 Z2 X2 o2 R2 P2'
 by_cases hx : x = 0
 ·subst hx
  go_wp2_with fail
  refine (pick_any rb (N + 700 + 4 + 1) 2 _ R3 (by omega) (by omega) (by omega)).mono ?_
  rintro e w4 ⟨y, rfl, y0, y1, -, R4, G⟩
  have Z4 := (G.block _ (lt_of_block Z3) hne).trans Z3
  have X4 := (G.block _ (lt_of_block X3) hnb).trans X3
  have o4 := own_grown o3 G (by omega)
  have G4 := grown_trans G3 G
  have fx : ∀ o, w4.frozen? ⟨w1.heap.size, o, none⟩ = false := fun o => zUf X4 o
  have fz : ∀ o, w4.frozen? ⟨w.heap.size, o, none⟩ = false := fun o => zUf Z4 o
  obtain ⟨_, c0, c1, c2', c3, c4, c5, c6, c7, c8⟩ := Boxed.of_block X4
  obtain ⟨_, z0, z1, z2, z3, z4, z5, z6, z7, z8⟩ := Boxed.of_block Z4
  have OH : Hid (w4.ownsRow (w.heap.size + 1) 5 1 (.slice (some ⟨g, 0, none⟩) zs.length c) zs.length (zs.map (.int .u8))) := o4
  have GH : Hid (w.grownBy w4 (some rb)) := G4
  have RH : Hid (Rdr w4 rb (N + 720)) := R4.mono (by omega)
  clear G G3 G4 o3 o4 Z3 X3 Z4 X4 R3 R4 P3
  go_wp2
  refine bodyPost_ret (v := .agg #[.int .i64 p.src, .int .i64 p.dst, .int .i64 p.kind, .int .i64 p.id, .int .i64 p.hops, .bool (y == 0), .int .i64 p.off, .bool p.more, .slice (some ⟨g, 0, none⟩) zs.length c]) (by simp [results, Tryz.results52, go_sem, z0, z1, z2, z3, z4, z5, z6, z7, z8]) rfl ?_
  exact pkt_post (p := ⟨p.src, p.dst, p.kind, p.id, p.hops, (y == 0), p.off, p.more⟩) (lo := w.heap.size + 1) (by omega) OH.out hl RH.out hlt GH.out (below9 ((Below.refl _ _).setCell (Nat.le_of_lt hs1) _) (Nat.le_refl _) _ _ _ _ _ _ _ _ _) ((heap9 _ _ _ hgz _ _ _ _ _ _ _ _ _).trans (zHs hgx)) HBY.out
 have hxb : (x == 0) = false := by simp [hx]
 by_cases hz : ps.length = 0
 ·have hzb : ((ps.length : Int) == 0) = true := by simp [hz]
  clear hz
  go_wp2_with fail
  refine (pick_any rb (N + 700 + 4 + 1) 2 _ R3 (by omega) (by omega) (by omega)).mono ?_
  rintro e w4 ⟨y, rfl, y0, y1, -, R4, G⟩
  have Z4 := (G.block _ (lt_of_block Z3) hne).trans Z3
  have X4 := (G.block _ (lt_of_block X3) hnb).trans X3
  have o4 := own_grown o3 G (by omega)
  have G4 := grown_trans G3 G
  have fx : ∀ o, w4.frozen? ⟨w1.heap.size, o, none⟩ = false := fun o => zUf X4 o
  have fz : ∀ o, w4.frozen? ⟨w.heap.size, o, none⟩ = false := fun o => zUf Z4 o
  obtain ⟨_, c0, c1, c2', c3, c4, c5, c6, c7, c8⟩ := Boxed.of_block X4
  obtain ⟨_, z0, z1, z2, z3, z4, z5, z6, z7, z8⟩ := Boxed.of_block Z4
  have OH : Hid (w4.ownsRow (w.heap.size + 1) 5 1 (.slice (some ⟨g, 0, none⟩) zs.length c) zs.length (zs.map (.int .u8))) := o4
  have GH : Hid (w.grownBy w4 (some rb)) := G4
  have RH : Hid (Rdr w4 rb (N + 720)) := R4.mono (by omega)
  clear G G3 G4 o3 o4 Z3 X3 Z4 X4 R3 R4 P3
  go_wp2
  refine bodyPost_ret (v := .agg #[.int .i64 p.src, .int .i64 p.dst, .int .i64 p.kind, .int .i64 p.id, .int .i64 p.hops, .bool (y == 0), .int .i64 p.off, .bool p.more, .slice (some ⟨g, 0, none⟩) zs.length c]) (by simp [results, Tryz.results52, go_sem, z0, z1, z2, z3, z4, z5, z6, z7, z8]) rfl ?_
  exact pkt_post (p := ⟨p.src, p.dst, p.kind, p.id, p.hops, (y == 0), p.off, p.more⟩) (lo := w.heap.size + 1) (by omega) OH.out hl RH.out hlt GH.out (below9 ((Below.refl _ _).setCell (Nat.le_of_lt hs1) _) (Nat.le_refl _) _ _ _ _ _ _ _ _ _) ((heap9 _ _ _ hgz _ _ _ _ _ _ _ _ _).trans (zHs hgx)) HBY.out
 ·have hzb : ((ps.length : Int) == 0) = false := by rw [beq_eq_false_iff_ne]; omega
  go_wp2_with fail
  refine (pick_any rb (N + 700 + 4 + 1) (ps.length : Int) _ R3 (by omega) (by omega) (by omega)).mono ?_
  rintro e w4 ⟨ki, rfl, k0, k1, -, R4, G⟩
  obtain ⟨k, rfl⟩ := Int.eq_ofNat_of_zero_le k0
  have k2 : k < ps.length := by have := k1 (by omega); omega
  have k3 : (k : Int) < (ps.length : Int) := by omega
  obtain ⟨y, hy⟩ : ∃ y, ps[k]? = some y := ⟨_, List.getElem?_eq_getElem k2⟩
  have Z4 := (G.block _ (lt_of_block Z3) hne).trans Z3
  have P4 := P3.grown G (by omega)
  have G4 := grown_trans G3 G
  have fz : ∀ o, w4.frozen? ⟨w.heap.size, o, none⟩ = false := fun o => zUf Z4 o
  obtain ⟨c0, c1, c2', c3, c4, c5, c6, c7, c8⟩ := P4.elem hy
  obtain ⟨_, z0, z1, z2, z3, z4, z5, z6, z7, z8⟩ := Boxed.of_block Z4
  have YH : Hid (y.own w4 (w1.heap.size + 1)) := P4.each y (List.mem_of_getElem? hy)
  have hyl : y.zs.length ≤ 200 := Nat.le_trans (hpz y (List.mem_of_getElem? hy)) hl
  have HYM : Hid (y ∈ ps) := List.mem_of_getElem? hy
  have hyg : y.g ≠ w.heap.size := by have := (own_lt YH.out y.g rfl).1; omega
  have GH : Hid (w.grownBy w4 (some rb)) := G4
  have RH : Hid (Rdr w4 rb (N + 720)) := R4.mono (by omega)
  clear G G3 G4 o3 Z3 X3 Z4 R3 R4 P3 P4 hy
  go_wp2
  refine bodyPost_ret (v := .agg #[.int .i64 y.p.src, .int .i64 y.p.dst, .int .i64 y.p.kind, .int .i64 y.p.id, .int .i64 y.p.hops, .bool y.p.whole, .int .i64 y.p.off, .bool y.p.more, .slice (some ⟨y.g, 0, none⟩) y.zs.length y.c]) (by simp [results, Tryz.results52, go_sem, z0, z1, z2, z3, z4, z5, z6, z7, z8]) rfl ?_
  exact pkt_post (p := y.p) (lo := w1.heap.size + 1) (by omega) YH.out hyl RH.out hlt GH.out (below9 (Below.refl _ _) (Nat.le_refl _) _ _ _ _ _ _ _ _ _) (heap9 _ _ _ hyg _ _ _ _ _ _ _ _ _) (HPS.out y HYM.out)
end Go.Proofs.YtjbkgmbakjnlhaaGreatDoor
namespace Go.Proofs.YtjbkgmbakjnlhaaGreatDoor
set_option maxRecDepth 100000
end Go.Proofs.YtjbkgmbakjnlhaaGreatDoor
namespace Go.Proofs.YtjbkgmbakjnlhaaGreatDoor
set_option maxRecDepth 100000
open Go.RowKit
structure WS (w v : World) (p : Pk) (g c m b5 rb lo : Nat) (ds : List Int) : Prop where
 lo5 : lo ≤ b5
 b5l : b5 < v.heap.size
 rbw : w.heap.size < rb
 rbl : rb < lo
 zl : w.heap.size < v.heap.size
 box : v.heap[b5]? = some (.cells (pcells p (.slice (some ⟨g, 0, none⟩) m c)) 29 (0, 0))
 zero : v.heap[w.heap.size]? = some (.cells (pcells zeroPk (.slice none 0 0)) 29 (0, 0))
 own : v.ownsRow lo 5 1 (.slice (some ⟨g, 0, none⟩) ds.length c) ds.length (ds.map (.int .u8))
 bel : Below w.heap.size w v
theorem WS.kept {w v v' : World} {p : Pk} {g c m b5 rb lo k : Nat} {ds : List Int} (h : WS w v p g c m b5 rb lo ds) (hg : v.grownBy v' (some k)) (h1 : w.heap.size < k) (h2 : k ≠ b5) (h3 : k ≠ g) : WS w v' p g c m b5 rb lo ds :=
 ⟨h.lo5, Nat.lt_of_lt_of_le h.b5l hg.size, h.rbw, h.rbl, Nat.lt_of_lt_of_le h.zl hg.size, (hg.block _ h.b5l (fun e => h2 (Option.some.inj e).symm)).trans h.box, (hg.block _ h.zl (fun e => by have := Option.some.inj e; omega)).trans h.zero, own_kept h.own fun j e => hg.block j (own_lt h.own j e).2 (fun e' => by cases e; exact h3 (Option.some.inj e').symm), h.bel.trans ⟨hg.os, hg.tape, hg.output, hg.size, fun j hj => hg.block j (by have := h.bel.size; omega) (fun e => by have := Option.some.inj e; omega)⟩⟩
theorem below_of_grown {w w1 w2 : World} {rb : Nat} (hb : Below w.heap.size w w1) (hg : w1.grownBy w2 (some rb)) (hr : w.heap.size ≤ rb) : Below w.heap.size w w2 :=
 hb.trans ⟨hg.os, hg.tape, hg.output, hg.size, fun k hk => hg.block k (by have := hb.size; omega) (fun e => by have := Option.some.inj e; omega)⟩
end Go.Proofs.YtjbkgmbakjnlhaaGreatDoor
namespace Go.Proofs.YtjbkgmbakjnlhaaGreatDoor
set_option maxRecDepth 100000
open Go.RowKit
def twoBox (w : World) (p : Pk) (v1 v2 : Value) : World := (w.alloc (.cells (pcells p v1) 29)).alloc (.cells (pcells p v2) 29)
theorem twoBox_at (w : World) (p : Pk) (v1 v2 : Value) : Boxed (twoBox w p v1 v2) w.heap.size p v1 ∧ Boxed (twoBox w p v1 v2) (w.heap.size + 1) p v2 :=
 ⟨(Boxed.new w p v1 29).below (zBa _ _), Boxed.newAt _ _ p v2 29 (by simp)⟩
set_option maxHeartbeats 1600000 in
theorem wfSame_same (p : Pk) (a1 a2 : Option Addr) (len cap1 cap2 : Nat) (zs : List Int) (w : World) (hr1 : RdB w a1 len zs) (hr2 : RdB w a2 len zs) (hl : len ≤ 1048576) :
  Calls Tryz.prog 12 #[p.val (.slice a1 len cap1), p.val (.slice a2 len cap2)] w fun e w' => e = .returned (.bool true) ∧ Below w.heap.size w w' := by
 unfold Pk.val
 have hn : ∀ x : Int, (x != x) = false := fun x => by simp
 have hb : ∀ x : Bool, (x != x) = false := fun x => by simp
 obtain ⟨hz, hc1⟩ := hr1
 obtain ⟨_, hc2⟩ := hr2
 subst hz
 by_cases h0 : zs.length = 0
 ·have hnil : zs = [] := List.length_eq_zero_iff.1 h0
  subst hnil
  clear hc1 hc2 h0
  go_enter Tryz.func12, Tryz.ntmps12
  go_wp2
  refine wp_loop_rounds 1 ?_
  rw [rounds_succ]
  go_wp2
  go_ret
  exact ⟨rfl, Joins.below_alloc2 _ _ _⟩
 ·obtain ⟨b1, off1, rfl, hb1, hc1⟩ := hc1.resolve_left h0
  obtain ⟨b2, off2, rfl, hb2, hc2⟩ := hc2.resolve_left h0
  go_enter Tryz.func12, Tryz.ntmps12
  go_wp2
  go_loopw [5] (fun i wr => ∃ k : Nat, k ≤ zs.length ∧ i = .int .i64 k ∧ Hid (Below (w.heap.size + 2) (twoBox w p (.slice (some ⟨b1, off1, none⟩) zs.length cap1) (.slice (some ⟨b2, off2, none⟩) zs.length cap2)) wr)) (fun i _ => zs.length - (intOf i).toNat)
  case atStart => exact ⟨0, Nat.zero_le _, rfl, Below.refl _ _⟩
  case round =>
   obtain ⟨k, hk, rfl, HW⟩ := hrel
   have x8 : wr.cell? ⟨w.heap.size, 8, none⟩ = some (.slice (some ⟨b1, off1, none⟩) zs.length cap1) := ((twoBox_at w p _ _).1.upto HW.out (by omega)).c8
   have y8 : wr.cell? ⟨w.heap.size + 1, 8, none⟩ = some (.slice (some ⟨b2, off2, none⟩) zs.length cap2) := ((twoBox_at w p _ _).2.upto HW.out (by omega)).c8
   have HB : Hid (Below w.heap.size w wr) := (Joins.below_alloc2 _ _ _).trans (HW.out.mono (by omega))
   by_cases hlt : k < zs.length
   ·have hcell1 := (HB.out.cell (p := ⟨b1, off1 + k, none⟩) hb1).trans (hc1 k hlt)
    have hcell2 := (HB.out.cell (p := ⟨b2, off2 + k, none⟩) hb2).trans (hc2 k hlt)
    have hi : (k : Int) < (zs.length : Int) := by omega
    clear hc1 hc2
    go_wp2
    go_quiet (fail)
    go_wp2
    go_roundw
    case rel => exact ⟨k + 1, by omega, by go_num, HW.out.trans (Joins.below_draws _ _ _)⟩
    case measure => simp [intOf]; omega
   ·go_wp2
    go_ret
    exact ⟨rfl, HB.out⟩
end Go.Proofs.YtjbkgmbakjnlhaaGreatDoor
namespace Go.Proofs.YtjbkgmbakjnlhaaGreatDoor
set_option maxRecDepth 100000
end Go.Proofs.YtjbkgmbakjnlhaaGreatDoor
namespace Go.Proofs.YtjbkgmbakjnlhaaGreatDoor
set_option maxRecDepth 100000
open Go.RowKit
def PV.rv (x : PV) : RV := ⟨x.p, some ⟨x.g, 0, none⟩, x.c, x.zs⟩
end Go.Proofs.YtjbkgmbakjnlhaaGreatDoor
