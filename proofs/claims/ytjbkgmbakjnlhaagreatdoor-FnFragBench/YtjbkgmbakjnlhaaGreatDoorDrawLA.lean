import Derived.Test.YtjbkgmbakjnlhaaGreatDoorPartBa
import Derived.Test.YtjbkgmbakjnlhaaGreatDoorPartBb
import Derived.Deep.Cut
import Derived.Deep.CutBlock
namespace Go.Proofs.YtjbkgmbakjnlhaaGreatDoor
set_option maxRecDepth 100000
open Go.RowKit
structure LS (w v : World) (rb N B g n c : Nat) (qs : List PV) : Prop where
  pl : PL v B (.slice (some ⟨g, 0, none⟩) n c) qs
  len : qs.length = n
  small : ∀ y ∈ qs, y.zs.length ≤ 200
  byte : ∀ y ∈ qs, ∀ z ∈ y.zs, 0 ≤ z ∧ z ≤ 255
  rd : Rdr v rb N
  gr : w.grownBy v (some rb)
theorem LS.grown {w v v' : World} {rb N M B g n c : Nat} {qs : List PV} (h : LS w v rb N B g n c qs) (hg : v.grownBy v' (some rb)) (hr : rb < B) (hR : Rdr v' rb M) : LS w v' rb M B g n c qs :=
  ⟨h.pl.grown hg hr, h.len, h.small, h.byte, hR, grown_trans h.gr hg⟩
theorem LS.below {w v v' : World} {rb N B g n c : Nat} {qs : List PV} (h : LS w v rb N B g n c qs) (hb : Below v.heap.size v v') : LS w v' rb N B g n c qs :=
  ⟨h.pl.below hb, h.len, h.small, h.byte, h.rd.below hb, grown_trans h.gr (grown_below hb)⟩
theorem LS.mono {w v : World} {rb N M B g n c : Nat} {qs : List PV} (h : LS w v rb N B g n c qs) (hM : N ≤ M) : LS w v rb M B g n c qs :=
  ⟨h.pl, h.len, h.small, h.byte, h.rd.mono hM, h.gr⟩
theorem LS.mix {w v v' : World} {rb N M B g n c g' n' c' : Nat} {qs rs : List PV} (h : LS w v rb N B g n c qs) (hp : PL v' B (.slice (some ⟨g', 0, none⟩) n' c') rs) (hn : rs.length = n') (h1 : ∀ y ∈ rs, y ∈ qs) (hg : v.grownBy v' (some rb)) (hR : Rdr v' rb M) : LS w v' rb M B g' n' c' rs :=
  ⟨hp, hn, fun y hy => h.small y (h1 y hy), fun y hy => h.byte y (h1 y hy), hR, grown_trans h.gr hg⟩
theorem LS.append {w v v' : World} {rb N B g n c g' c' m : Nat} {qs rs : List PV} (h : LS w v rb N B g n c qs) (hr : rb < B) (hB : w.heap.size ≤ B) (hm : rs.length = m) (hq : ∀ x ∈ rs, x.own v B) (hs : ∀ y ∈ rs, y.zs.length ≤ 200) (hb : ∀ y ∈ rs, ∀ z ∈ y.zs, 0 ≤ z ∧ z ≤ 255)
    (ho : v'.ownsRow B 29 9 (.slice (some ⟨g', 0, none⟩) (n + m) c') (n + m) (qs.flatMap PV.cells ++ rs.flatMap PV.cells)) (hg : v.grownBy v' (Value.slice (some ⟨g, 0, none⟩) n c).ownBlock) : LS w v' rb N B g' (n + m) c' (qs ++ rs) := by
  have hl := h.len
  have hgb : B ≤ g := (own_lt h.pl.row g rfl).1
  refine ⟨PL.append h.pl hq (by rw [hl, hm]; exact ho) hg, by rw [List.length_append, hl, hm], fun y hy => ?_, fun y hy => ?_, Rdr.keep h.rd hg.size (fun j hj => hg.block j (by have := h.rd.lt; omega) (fun e => by have e' : j = g := Option.some.inj e; omega)), grown_over h.gr hg (fun j hj => by have e' : g = j := Option.some.inj hj; omega)⟩
  · rcases List.mem_append.1 hy with a | a
    · exact h.small y a
    · exact hs y a
  · rcases List.mem_append.1 hy with a | a
    · exact h.byte y a
    · exact hb y a
theorem LS.add {w v v' : World} {rb N B g n c g' c' : Nat} {qs : List PV} {u : PV} (h : LS w v rb N B g n c qs) (hr : rb < B) (hB : w.heap.size ≤ B) (hq : u.own v B) (hs : u.zs.length ≤ 200) (hb : ∀ z ∈ u.zs, 0 ≤ z ∧ z ≤ 255)
    (ho : v'.ownsRow B 29 9 (.slice (some ⟨g', 0, none⟩) (n + 1) c') (n + 1) (qs.flatMap PV.cells ++ PV.cells u)) (hg : v.grownBy v' (Value.slice (some ⟨g, 0, none⟩) n c).ownBlock) : LS w v' rb N B g' (n + 1) c' (qs ++ [u]) := by
  refine h.append hr hB rfl (fun x hx => ?_) (fun x hx => ?_) (fun x hx => ?_) (by simpa using ho) hg <;> obtain rfl := List.mem_singleton.1 hx
  · exact hq
  · exact hs
  · exact hb
theorem LS.row {w v : World} {rb N B g n c : Nat} {qs : List PV} (h : LS w v rb N B g n c qs) : v.ownsRow B 29 9 (.slice (some ⟨g, 0, none⟩) n c) n (qs.flatMap PV.cells) := by
  have a := h.pl.row
  rw [h.len] at a
  exact a
theorem below_set2 {v : World} {b i j : Nat} (hb : b ≤ v.heap.size) (x y : Value) (o : Obj) : Below b v (((v.setCell ⟨b, i, none⟩ x).setCell ⟨b, j, none⟩ y).alloc o) :=
  (((Below.refl b v).setCell (Nat.le_refl _) x).setCell (Nat.le_refl _) y).alloc (by simpa using hb) o
theorem LS.set2 {w v v' : World} {rb N M B g n c b i j : Nat} {qs : List PV} (h : LS w v rb N B g n c qs) (hg : v.grownBy v' (some rb)) (hR : Rdr v' rb M) (hr : rb < B) (hrv : rb < v.heap.size) (hb : v.heap.size ≤ b) (hbl : b ≤ v'.heap.size) (x y : Value) (o : Obj) : LS w (((v'.setCell ⟨b, i, none⟩ x).setCell ⟨b, j, none⟩ y).alloc o) rb M B g n c qs :=
  h.grown (grown_b hg (below_set2 hbl x y o) hb) hr (hR.upto (below_set2 hbl x y o) (by omega))
theorem own_set2 {v : World} {lo g n c b i j : Nat} {xs : List Value} (h : v.ownsRow lo 5 1 (.slice (some ⟨g, 0, none⟩) n c) n xs) (hg : g < b) (hbl : b ≤ v.heap.size) (x y : Value) (o : Obj) : (((v.setCell ⟨b, i, none⟩ x).setCell ⟨b, j, none⟩ y).alloc o).ownsRow lo 5 1 (.slice (some ⟨g, 0, none⟩) n c) n xs :=
  own_kept h fun k e => (below_set2 hbl x y o).block k (by have e' : g = k := Option.some.inj e; omega)
theorem LS.over {w v v' W : World} {rb N M B g n c : Nat} {qs : List PV} (h : LS w v rb N B g n c qs) (hg : v.grownBy v' (some rb)) (hb : Below v.heap.size v' W) (hR : Rdr v' rb M) (hr : rb < B) (hrv : rb < v.heap.size) : LS w W rb M B g n c qs :=
  h.grown (grown_b hg hb (Nat.le_refl _)) hr (hR.upto hb hrv)
theorem own_frozen {w : World} {base : Nat} {e : TypeId} {size n m c g : Nat} {xs : List Value} (h : w.ownsRow base e size (.slice (some ⟨g, 0, none⟩) m c) n xs) (o : Nat) : w.frozen? ⟨g, o, none⟩ = false := by
  rcases h.2 with ⟨hv, _⟩ | ⟨g', cap, cur, hv, hb, hh, hc, hm, hs, ht⟩
  · cases hv
  · cases hv
    exact zUf hh o
theorem LS.put {w v : World} {rb N B g n c k : Nat} {qs : List PV} {u : PV} (h : LS w v rb N B g n c qs) (hr : rb < B) (hB : w.heap.size ≤ B) (hk : k < n) (hq : u.own v B) (hs : u.zs.length ≤ 200) (hb : ∀ z ∈ u.zs, 0 ≤ z ∧ z ≤ 255) :
    LS w (((((((((v.setCell ⟨g, k * 9, none⟩ (.int .i64 u.p.src)).setCell ⟨g, k * 9 + 1, none⟩ (.int .i64 u.p.dst)).setCell ⟨g, k * 9 + 2, none⟩ (.int .i64 u.p.kind)).setCell ⟨g, k * 9 + 3, none⟩ (.int .i64 u.p.id)).setCell ⟨g, k * 9 + 4, none⟩ (.int .i64 u.p.hops)).setCell ⟨g, k * 9 + 5, none⟩ (.bool u.p.whole)).setCell ⟨g, k * 9 + 6, none⟩ (.int .i64 u.p.off)).setCell ⟨g, k * 9 + 7, none⟩ (.bool u.p.more)).setCell ⟨g, k * 9 + 8, none⟩ (.slice (some ⟨u.g, 0, none⟩) u.zs.length u.c)) rb N B g n c (qs.set k u) := by
  have hl := h.len
  have hgb : B ≤ g := (own_lt h.pl.row g rfl).1
  have bel : Below B v (((((((((v.setCell ⟨g, k * 9, none⟩ (.int .i64 u.p.src)).setCell ⟨g, k * 9 + 1, none⟩ (.int .i64 u.p.dst)).setCell ⟨g, k * 9 + 2, none⟩ (.int .i64 u.p.kind)).setCell ⟨g, k * 9 + 3, none⟩ (.int .i64 u.p.id)).setCell ⟨g, k * 9 + 4, none⟩ (.int .i64 u.p.hops)).setCell ⟨g, k * 9 + 5, none⟩ (.bool u.p.whole)).setCell ⟨g, k * 9 + 6, none⟩ (.int .i64 u.p.off)).setCell ⟨g, k * 9 + 7, none⟩ (.bool u.p.more)).setCell ⟨g, k * 9 + 8, none⟩ (.slice (some ⟨u.g, 0, none⟩) u.zs.length u.c)) :=
    (((((((((Below.refl B v).setCell hgb _).setCell hgb _).setCell hgb _).setCell hgb _).setCell hgb _).setCell hgb _).setCell hgb _).setCell hgb _).setCell hgb _
  have mem : ∀ x ∈ qs.set k u, x ∈ qs ∨ x = u := fun x hx => (List.mem_or_eq_of_mem_set hx)
  refine ⟨⟨?_, fun x hx => ?_⟩, by simpa using hl, fun y hy => ?_, fun y hy => ?_, h.rd.upto bel hr, grown_b h.gr bel hB⟩
  · rw [List.length_set, hl, ← flat_set u qs k (by omega)]
    exact own_set (own_set (own_set (own_set (own_set (own_set (own_set (own_set (own_set h.row _) _) _) _) _) _) _) _) _
  · have hx' : x.own v B := by
      rcases mem x hx with a | rfl
      · exact h.pl.each x a
      · exact hq
    refine own_kept hx' (fun j e => ?_)
    have hj : j ≠ g := fun e' => own_ne h.pl.row hx' g (show x.data.ownBlock = some g by rw [e, e']) rfl
    exact (Below.heap_setCell _ ⟨g, k * 9 + 8, none⟩ _ _ hj).trans ((Below.heap_setCell _ ⟨g, k * 9 + 7, none⟩ _ _ hj).trans ((Below.heap_setCell _ ⟨g, k * 9 + 6, none⟩ _ _ hj).trans ((Below.heap_setCell _ ⟨g, k * 9 + 5, none⟩ _ _ hj).trans ((Below.heap_setCell _ ⟨g, k * 9 + 4, none⟩ _ _ hj).trans ((Below.heap_setCell _ ⟨g, k * 9 + 3, none⟩ _ _ hj).trans ((Below.heap_setCell _ ⟨g, k * 9 + 2, none⟩ _ _ hj).trans ((Below.heap_setCell _ ⟨g, k * 9 + 1, none⟩ _ _ hj).trans ((Below.heap_setCell _ ⟨g, k * 9, none⟩ _ _ hj)))))))))
  · rcases mem y hy with a | rfl
    · exact h.small y a
    · exact hs
  · rcases mem y hy with a | rfl
    · exact h.byte y a
    · exact hb
theorem LS.less {w v v' : World} {rb N B g n c g' c' k : Nat} {qs : List PV} (h : LS w v rb N B g n c qs) (m : Nat) (hB : B ≤ v.heap.size) (hk : k < n) (hm : m = k + (n - (k + 1))) (hb : Below v.heap.size v v') (ho : v'.ownsRow v.heap.size 29 9 (.slice (some ⟨g', 0, none⟩) m c') m ((qs.take k ++ qs.drop (k + 1)).flatMap PV.cells)) : LS w v' rb N B g' m c' (qs.take k ++ qs.drop (k + 1)) := by
  have hl := h.len
  have hn : (qs.take k ++ qs.drop (k + 1)).length = m := by simp; omega
  have mem : ∀ x ∈ qs.take k ++ qs.drop (k + 1), x ∈ qs := fun x hx => by
    rcases List.mem_append.1 hx with a | a
    · exact List.mem_of_mem_take a
    · exact List.mem_of_mem_drop a
  exact LS.mix (h.below hb) ⟨by rw [hn]; exact Joins.ownsRow_le ho hB, fun x hx => own_below (h.pl.each x (mem x hx)) hb⟩ hn mem (grown_below (Below.refl _ _)) (h.rd.below hb)
def ListPost (rb M : Nat) (w : World) (e : Ending) (w' : World) : Prop :=
  ∃ (g n c : Nat) (qs : List PV), e = .returned (.slice (some ⟨g, 0, none⟩) n c) ∧ LS w w' rb M w.heap.size g n c qs ∧ n ≤ 3000
theorem LS.le {w v : World} {rb N B B' g n c : Nat} {qs : List PV} (h : LS w v rb N B g n c qs) (hB : B' ≤ B) : LS w v rb N B' g n c qs :=
  ⟨h.pl.le hB, h.len, h.small, h.byte, h.rd, h.gr⟩
structure Shut1 (p : Prop) : Prop where
  out : p
def mk1 {C P0 : Prop} (h : Shut1 P0 → C) : {P : Prop // P → C} := ⟨P0, fun p => h ⟨p⟩⟩
set_option maxHeartbeats 12800000 in
def l5List_parts (rb : Nat) (w : World) (N0 : Nat) (hN0 : N0 ≤ 500000) (hR : Rdr w rb N0) : {P : Prop // P → Calls Tryz.prog 25 #[.pointer (some ⟨rb, 0, none⟩)] w (ListPost rb (N0 + 40000) w)} := by
  apply mk1
  case h =>
   intro HPART
   obtain ⟨ti, hti, hy0, hy1, hy2⟩ := info_parts Tryz.info29
   have hrl := hR.lt
   go_enter Tryz.func25, Tryz.ntmps25
   go_wp2_with fail
   refine (l5Whole_any rb N0 _ hR (by omega)).mono ?_
   rintro e w1 ⟨p, g, c, len, ds, rfl, o1, hz, hl, -, R1, G1, hby⟩
   subst hz
   unfold Pk.val
   have s1 := G1.size
   have HBY : Hid (∀ z ∈ ds, 0 ≤ z ∧ z ≤ 255) := hby
   have KC : Hid (∀ N w', Rdr w' rb N → N ≤ 890000 → w'.ownsRow w.heap.size 5 1 (.slice (some ⟨g, 0, none⟩) ds.length c) ds.length (ds.map (.int .u8)) → Calls Tryz.prog 59 #[.pointer (some ⟨rb, 0, none⟩), .agg #[.int .i64 p.src, .int .i64 p.dst, .int .i64 p.kind, .int .i64 p.id, .int .i64 p.hops, .bool p.whole, .int .i64 p.off, .bool p.more, .slice (some ⟨g, 0, none⟩) ds.length c]] w' fun e w'' => ∃ (g' c' : Nat) (ps : List PV), e = .returned (.slice (some ⟨g', 0, none⟩) ps.length c') ∧ PL w'' w'.heap.size (.slice (some ⟨g', 0, none⟩) ps.length c') ps ∧ CutsOf p ds (ps.map PV.key) ∧ Rdr w'' rb (N + 4) ∧ w'.grownBy w'' (some rb)) := fun N w' hR hN ho => l5Cuts_any rb N _ p g c ds w' hR hN ho (by omega) (by omega)
   clear hby
   go_wp2_with fail
   refine (KC.out (N0 + 700) _ (R1.below (zBa _ _)) (by omega) (own_below o1 (zBa _ _))).mono ?_
   rintro e w2 ⟨g2, c2, ps, rfl, P2, C2, R2, G2⟩
   have X2 : w2.heap[w1.heap.size]? = some (.cells (pcells p (.slice (some ⟨g, 0, none⟩) ds.length c)) 29 (0, 0)) := (G2.block _ (by simp) (fun e => by have := Option.some.inj e; omega)).trans (heap_new _ _ _ rfl)
   have O2 := own_grown (own_below o1 (zBa w1 (.cells (pcells p (.slice (some ⟨g, 0, none⟩) ds.length c)) 29 (0, 0)))) G2 (by omega)
   have L2 : LS w w2 rb (N0 + 700 + 4) (w1.heap.size + 1) g2 ps.length c2 ps := ⟨P2.le (by simp), rfl, fun y hy => Nat.le_trans (cuts_small C2 y hy) hl, fun y hy z hz => HBY.out z (cuts_sub C2 y hy z hz), R2, grown_trans (grown_trans G1 (grown_below (zBa _ _))) G2⟩
   have hps := cuts_small_len C2 (by omega)
   clear P2 C2 R2 G1 R1 o1
   have s2 := lt_of_block X2
   clear G2
   go_wp2_with fail
   refine (l5Mix_any rb (N0 + 700 + 4) (w1.heap.size + 1) g2 c2 ps.length ps _ rfl L2.rd (by omega) L2.pl (by omega) s2 (by omega)).mono ?_
   rintro e w3 ⟨g3, c3, qs, rfl, P3, m31, m32, l3, R3, G3⟩
   have L3 : Hid (LS w w3 rb (N0 + 2000) (w1.heap.size + 1) g3 qs.length c3 qs) := (L2.mix P3 rfl m31 G3 R3).mono (by omega)
   have X3 : Hid (w3.heap[w1.heap.size]? = some (.cells (pcells p (.slice (some ⟨g, 0, none⟩) ds.length c)) 29 (0, 0))) := (G3.block _ s2 (fun e => by have := Option.some.inj e; omega)).trans X2
   have O3 : Hid (w3.ownsRow w.heap.size 5 1 (.slice (some ⟨g, 0, none⟩) ds.length c) ds.length (ds.map (.int .u8))) := own_grown O2 G3 (by omega)
   have hqs : qs.length ≤ 1003 := by omega
   clear L2 X2 O2 P3 m31 m32 l3 R3 G3 s2 hps
   go_upto_region 3 with fail
   go_cut [23] from 9 (fun s23 wx => ∃ b : Bool, s23 = .bool b ∧ (b = true → qs.length < 12) ∧ Hid (LS w wx rb (N0 + 2001) (w1.heap.size + 1) g3 qs.length c3 qs) ∧ Hid (wx.heap[w1.heap.size]? = some (.cells (pcells p (.slice (some ⟨g, 0, none⟩) ds.length c)) 29 (0, 0))) ∧ Hid (wx.ownsRow w.heap.size 5 1 (.slice (some ⟨g, 0, none⟩) ds.length c) ds.length (ds.map (.int .u8))))
   case first =>
     go_wp2_with fail
     refine (pick_any rb (N0 + 2000) 3 _ L3.out.rd (by omega) (by omega) (by omega)).mono ?_
     rintro e w4 ⟨x, rfl, x0, x1, -, R4, G4⟩
     have L4 : Hid (LS w w4 rb (N0 + 2001) (w1.heap.size + 1) g3 qs.length c3 qs) := L3.out.grown G4 (by omega) R4
     have X4 : Hid (w4.heap[w1.heap.size]? = some (.cells (pcells p (.slice (some ⟨g, 0, none⟩) ds.length c)) 29 (0, 0))) := (G4.block _ (lt_of_block X3.out) (fun e => by have := Option.some.inj e; omega)).trans X3.out
     have O4 : Hid (w4.ownsRow w.heap.size 5 1 (.slice (some ⟨g, 0, none⟩) ds.length c) ds.length (ds.map (.int .u8))) := own_grown O3.out G4 (by omega)
     clear L3 X3 O3 R4 G4
     by_cases hx : x = 0
     · subst hx
       by_cases h12 : (qs.length : Int) < 12
       · go_wp2_with fail
         go_meet
         case rel => exact ⟨_, rfl, fun _ => by omega, L4.out, X4.out, O4.out⟩
       · go_wp2_with fail
         go_meet
         case rel => exact ⟨_, rfl, fun e => by simp at e; omega, L4.out, X4.out, O4.out⟩
     · go_wp2_with fail
       go_meet
       case rel => exact ⟨_, rfl, fun e => by simp at e, L4.out, X4.out, O4.out⟩
   case rest =>
     obtain ⟨b, rfl, hb, L4, X4, O4⟩ := hcut
     clear L3 X3 O3
     obtain ⟨w4, rfl⟩ : ∃ w4, w4 = wc := ⟨_, rfl⟩
     go_upto_if 23 with fail
     go_cut [4] from 9 (fun s4 wx => ∃ (g n c : Nat) (qs : List PV), s4 = .slice (some ⟨g, 0, none⟩) n c ∧ n ≤ 2100 ∧ Hid (LS w wx rb (N0 + 8000) (w1.heap.size + 1) g n c qs))
     case first =>
       cases b
       · go_wp2_with fail
         go_meet
         case rel => exact ⟨g3, qs.length, c3, qs, rfl, by omega, L4.out.mono (by omega)⟩
       · have h12 := hb rfl
         obtain ⟨lx, x0, x1, x2, x3, x4, x5, x6, x7, x8⟩ := Boxed.of_block X4.out
         go_wp2_with fail
         refine (KC.out (N0 + 2001) _ L4.out.rd (by omega) O4.out).mono ?_
         rintro e w5 ⟨g5, c5, rs, rfl, P5, C5, R5, G5⟩
         have L5 : Hid (LS w w5 rb (N0 + 2001 + 4) (w1.heap.size + 1) g3 qs.length c3 qs) := L4.out.grown G5 (by omega) R5
         have lx4 := lt_of_block X4.out
         have lx5 : w1.heap.size < w5.heap.size := Nat.lt_of_lt_of_le lx4 G5.size
         have O5 : Hid (PL w5 (w1.heap.size + 1) (.slice (some ⟨g5, 0, none⟩) rs.length c5) rs) := P5.le lx4
         have hrs := cuts_small_len C5 (by omega)
         have A5 : Hid (∀ y ∈ rs, y.zs.length ≤ 200) := fun y hy => Nat.le_trans (cuts_small C5 y hy) hl
         have B5 : Hid (∀ y ∈ rs, ∀ z ∈ y.zs, 0 ≤ z ∧ z ≤ 255) := fun y hy z hz => HBY.out z (cuts_sub C5 y hy z hz)
         have RO : Hid (w5.ownsRow (w1.heap.size + 1) 29 9 (.slice (some ⟨g3, 0, none⟩) qs.length c3) qs.length (qs.flatMap PV.cells)) := L5.out.pl.row
         clear P5 C5 R5 G5 L4 X4 O4 x0 x1 x2 x3 x4 x5 x6 x7 x8 lx
         go_wp2_with (at_builtin; refine wpList_append_own _ rfl _ _ 23 rfl (w1.heap.size + 1) 29 ti _ 9 88 Tryz.underlying23 hti hy0 hy1 hy2 rfl (by decide) (.slice (some ⟨g3, 0, none⟩) qs.length c3) qs.length (qs.flatMap PV.cells) rfl RO.out ⟨g5, 0, none⟩ rs.length c5 (rs.flatMap PV.cells) rfl (flat_len rs) ?h1 ?h2 ?h3 ?h4 ?h5 ?_)
         case h1 => exact O5.out.src_all
         case h2 => exact flat_one _
         case h3 => unfold maxLen; omega
         case h4 => omega
         case h5 => exact lx5
         intro v6 w6 ho6 hg6 hn6
         obtain ⟨g6, c6, rfl⟩ : ∃ g6 c6, v6 = .slice (some ⟨g6, 0, none⟩) (qs.length + rs.length) c6 := form_of ho6 hn6
         have L6 := L5.out.append (by omega) (by omega) rfl O5.out.each A5.out B5.out ho6 hg6
         have lx6 : w1.heap.size < w6.heap.size := Nat.lt_of_lt_of_le lx5 hg6.size
         clear ho6 hg6 hn6 L5 O5 A5 B5 RO
         go_wp2_with fail
         refine (l5Mix_any rb (N0 + 2001 + 4) (w1.heap.size + 1) g6 c6 (qs.length + rs.length) (qs ++ rs) _ (by simp) L6.rd (by omega) L6.pl (by omega) lx6 (by omega)).mono ?_
         rintro e w7 ⟨g7, c7, ts, rfl, P7, m71, m72, l7, R7, G7⟩
         have L7 : Hid (LS w w7 rb (N0 + 8000) (w1.heap.size + 1) g7 ts.length c7 ts) := (L6.mix P7 rfl m71 G7 R7).mono (by omega)
         clear L6 P7 m71 m72 R7 G7
         go_wp2_with fail
         go_meet
         case rel => exact ⟨g7, ts.length, c7, ts, rfl, by omega, L7.out⟩
     case rest =>
       clear L4 X4 O4 hb hqs KC
       obtain ⟨gl, n, cl, ls, rfl, hn, LL⟩ := hcut
       obtain ⟨w5, rfl⟩ : ∃ w5, w5 = wc := ⟨_, rfl⟩
       have hB : w.heap.size < w1.heap.size + 1 := by omega
       have hB5 : w1.heap.size + 1 ≤ w5.heap.size := Nat.le_trans (own_lt LL.out.pl.row gl rfl).1 (Nat.le_of_lt (own_lt LL.out.pl.row gl rfl).2)
       obtain ⟨B, hBB⟩ : ∃ B, w1.heap.size + 1 = B := ⟨_, rfl⟩
       rw [hBB] at LL hB hB5
       clear hBB s1 HBY
       rename_i k0 k1 k2 k3 k4 k5 k6 k7 k8 k9 k10 k11 k12 k13 k14 k15 k16 k17 k18 k19 k20 k21 k22 k23 k24 k25 k26 k27 k28 k29 k30 k31 k32 k33 k34 k35 k36 k37 k38 k39 k40 k41 k42 k43 k44 k45 k46 k47 k48 k49 k50 k51 k52 k53 k54 k55 k56 k57 k58 k59 k60 k61 k62 k63 k64 k65 k66 k67 k68 k69 k70 k71 k72 k73 k74 k75 k76 k77 k78 k79 k80 k81 k82 k83 k84 k85 k86 k87 k88 k89 k90 k91 k92 k93 k94 k95 k96 k97 k98 k99 k100 k101 k102 k103 k104 k105 k106 k107 k108 k109 k110 k111 k112 k113 k114 k115 k116 k117 k118 k119 k120 k121 k122 k123 k124 k125 k126 k127 k128 k129 k130 k131 k132 k133 k134 k135 k136 k137 k138 k139 k140 k141 k142 k143 k144 k145 k146 k147 k148 k149 k150 k151 k152 k153 k154 k155 k156 k157
       refine k1 _ _ ?_
       clear k157 k156 k155 k154 k153 k152 k151 k150 k149 k148 k147 k146 k145 k144 k143 k142 k141 k140 k139 k138 k137 k136 k135 k134 k133 k132 k131 k130 k129 k128 k127 k126 k125 k124 k123 k122 k121 k120 k119 k118 k117 k116 k115 k114 k113 k112 k111 k110 k109 k108 k107 k106 k105 k104 k103 k102 k101 k100 k99 k98 k97 k96 k95 k94 k93 k92 k91 k90 k89 k88 k87 k86 k85 k84 k83 k82 k81 k80 k79 k78 k77 k76 k75 k74 k73 k72 k71 k70 k69 k68 k67 k66 k65 k64 k63 k62 k61 k60 k59 k58 k57 k56 k55 k54 k53 k52 k51 k50 k49 k48 k47 k46 k45 k44 k43 k42 k41 k40 k39 k38 k37 k36 k35 k34 k33 k32 k31 k30 k29 k28 k27 k26 k25 k24 k23 k22 k21 k20 k19 k18 k17 k16 k15 k14 k13 k12 k11 k10 k9 k8 k7 k6 k5 k4 k3 k2 k1 k0 hrl hti hy0 hy1 hy2 ti hl qs c3 g3 ps c2 g2 ds c g p
       clear b w2 w3 w4
       revert w1 u9 u10 u11 u12 u13 u14 u15 u16 u17 u18 u19 u20 u21 u22 u23 u24 u25 u26 u27 u28 u29 u30 u31 u32 u33 u34 u35 u36 u37 u38 u39 u40 u41 u42 u43 u44 u45 u46 u47 u48 u49 u50 u51 u52 u53 u54 u55 u56 u57 u58 u59 u60 u61 u62 u63 u64 u65 u66 u67 u68 u69 u70 u71 u72 u73 u74 u75 u76 u77 u78 u79 u80 u81 u82 u83 u84 u85 u86 u87 u88 u89 u90 u91 u92 u93 u94 u95 u96 u97 u98 u99 u100 u101 u102 u103 u104 u105 u106 u107 u108 u109 u110 u111 u112 u113 u114 u115 u116 u117 u118 u119 u120 u121 u122 u123 u124 u125 u126 u127 u128 u129 u130 u131 u132 u133 u134 u135 u136 u137 u138 u139 u140 u141 u142 u143 u144 u145 u146 u147 u148 u149 u150 u151 u152 u153 u154 u155 u156 u157 u158 u159 u160 u161 u162 u163 u164 u165 gl n cl ls hn w5 B hB5 hB LL
       exact HPART.out
end Go.Proofs.YtjbkgmbakjnlhaaGreatDoor
