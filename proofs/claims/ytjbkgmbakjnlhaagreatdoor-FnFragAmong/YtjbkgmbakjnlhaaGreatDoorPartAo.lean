import Derived.Test.YtjbkgmbakjnlhaaGreatDoorPartAn
import Derived.Test.YtjbkgmbakjnlhaaGreatDoorPartAb
import Derived.Test.YtjbkgmbakjnlhaaGreatDoorPartAl
namespace Go.Proofs.YtjbkgmbakjnlhaaGreatDoor
set_option maxRecDepth 100000
open Go.RowKit
theorem set_split {α : Type} {l : List α} {i : Nat} {x : α} (h : l[i]? = some x) (y : α) : ∃ a b, l = a ++ x :: b ∧ l.set i y = a ++ y :: b ∧ a.length = i := by
 induction l generalizing i with
 | nil => simp at h
 | cons z r ih =>
  cases i with
  | zero =>
   simp at h
   subst h
   exact ⟨[], r, rfl, rfl, rfl⟩
  | succ i =>
   obtain ⟨a, b, h1, h2, h3⟩ := ih (by simpa using h)
   exact ⟨z :: a, b, by rw [h1]; rfl, by rw [List.set_cons_succ, h2]; rfl, by simp [h3]⟩
theorem set_same {α : Type} {l : List α} {i : Nat} {x : α} (h : l[i]? = some x) : l.set i x = l := by
 obtain ⟨a, b, e1, e2, _⟩ := set_split h x
 rw [e2, e1]
theorem Forest.set {w w' : World} {lo i : Nat} {ss : List SV} {s t : SV} (h : Forest w lo ss) (hi : ss[i]? = some s) (hk : ∀ b ∈ ss.flatMap SV.blks, w'.heap[b]? = w.heap[b]?) (ht : SlotB w' lo t) (hn : t.blks.Nodup)
  (hd : ∀ b ∈ t.blks, b ∈ s.blks ∨ b ∉ ss.flatMap SV.blks) : Forest w' lo (ss.set i t) := by
 obtain ⟨a, b, e1, e2, _⟩ := set_split hi t
 rw [e2]
 have hk' := h.kept hk
 rw [e1] at hk' hd
 refine ⟨fun u hu => ?_, ?_⟩
 ·rcases List.mem_append.1 hu with h1 | h1
  ·exact hk'.each u (List.mem_append_left _ h1)
  ·rcases List.mem_cons.1 h1 with rfl | h1
   ·exact ht
   ·exact hk'.each u (List.mem_append_right _ (List.mem_cons_of_mem _ h1))
 ·have nd := hk'.nd
  rw [List.flatMap_append, List.flatMap_cons] at nd ⊢
  rw [List.flatMap_append, List.flatMap_cons] at hd
  obtain ⟨n1, n2, n3⟩ := List.nodup_append.1 nd
  obtain ⟨n4, n5, n6⟩ := List.nodup_append.1 n2
  have no : ∀ x ∈ t.blks, x ∉ a.flatMap SV.blks ∧ x ∉ b.flatMap SV.blks := fun x hx => by
   rcases hd x hx with h1 | h1
   ·exact ⟨fun h2 => n3 x h2 x (List.mem_append_left _ h1) rfl, fun h2 => n6 x h1 x h2 rfl⟩
   ·exact ⟨fun h2 => h1 (List.mem_append_left _ h2), fun h2 => h1 (List.mem_append_right _ (List.mem_append_right _ h2))⟩
  refine List.nodup_append.2 ⟨n1, List.nodup_append.2 ⟨hn, n5, fun x hx y hy e => (no x hx).2 (e ▸ hy)⟩, fun x hx y hy e => ?_⟩
  rcases List.mem_append.1 hy with h1 | h1
  ·exact (no y h1).1 (e ▸ hx)
  ·exact n3 x hx y (List.mem_append_right _ h1) e
theorem OpenB.setSlot {w w' : World} {lo ob mb i : Nat} {ov : Value} {now : Int} {es : List Ent} {e0 : Ent} {t : SV} (h : OpenB w lo ob mb ov now es) (hi : es[i]? = some e0) (hw : w'.heap[e0.b]? = some t.box)
  (hk : ∀ b, b < w.heap.size → b ≠ e0.b → w'.heap[b]? = w.heap[b]?) (hf : Forest w' lo ((es.map Ent.s).set i t)) : OpenB w' lo ob mb ov now (es.set i ⟨e0.k, e0.b, t⟩) := by
 have hs0 := h.slot e0 (List.mem_of_getElem? hi)
 have ne : ∀ {b : Nat} {ob : Obj}, w.heap[b]? = some ob → ob ≠ e0.s.box → w'.heap[b]? = w.heap[b]? := fun {b ob} hb hn => hk b (lt_of_block hb) (fun e => hn (by rw [e, hs0] at hb; exact (Option.some.inj hb).symm))
 have ek : (es.set i ⟨e0.k, e0.b, t⟩).map Ent.k = es.map Ent.k := by
  rw [List.map_set]
  refine set_same ?_
  rw [List.getElem?_map, hi]; rfl
 have eb : (es.set i ⟨e0.k, e0.b, t⟩).map Ent.b = es.map Ent.b := by
  rw [List.map_set]
  refine set_same ?_
  rw [List.getElem?_map, hi]; rfl
 have ekb : (es.set i ⟨e0.k, e0.b, t⟩).map (fun e => (e.k, e.b)) = es.map (fun e => (e.k, e.b)) := by
  rw [List.map_set]
  refine set_same ?_
  rw [List.getElem?_map, hi]; rfl
 have ef : (es.set i ⟨e0.k, e0.b, t⟩).flatMap (fun e => k4cells e.k) = es.flatMap (fun e => k4cells e.k) := by
  have e1 : ∀ l : List Ent, l.flatMap (fun e => k4cells e.k) = (l.map Ent.k).flatMap k4cells := fun l => by rw [List.flatMap_map]
  rw [e1, e1, ek]
 have es' : (es.set i ⟨e0.k, e0.b, t⟩).map Ent.s = (es.map Ent.s).set i t := by rw [List.map_set]
 refine ⟨(ne h.box (by intro e; cases e)).trans h.box, ?_, ?_, by rw [ek]; exact h.keys, fun e he => ?_, by rw [eb]; exact h.sbs, by rw [es']; exact hf, h.lob, h.lmb, fun e he => ?_⟩
 ·rw [ef, List.length_set]
  refine own_kept h.order fun k hk' => ?_
  obtain ⟨cu, hc⟩ := h.order_at k hk'
  exact ne hc (by intro e; cases e)
 ·rw [ekb]
  refine h.map_.kept ?_
  obtain ⟨l, c, h1, _⟩ := h.map_
  exact ne h1 (by intro e; cases e)
 ·obtain ⟨j, hj⟩ := List.getElem?_of_mem he
  by_cases e1 : j = i
  ·subst e1
   rw [List.getElem?_set_self (List.getElem?_eq_some_iff.1 hi).1] at hj
   cases hj
   exact hw
  ·rw [List.getElem?_set_ne (fun e => e1 e.symm)] at hj
   have hb := h.slot e (List.mem_of_getElem? hj)
   refine (hk e.b (lt_of_block hb) (fun e2 => e1 ?_)).trans hb
   have hlj : j < (es.map Ent.b).length := by rw [List.length_map]; exact (List.getElem?_eq_some_iff.1 hj).1
   refine (List.getElem?_inj hlj h.sbs).1 ?_
   rw [List.getElem?_map, List.getElem?_map, hj, hi]
   exact congrArg some e2
 ·have : e.b ∈ (es.set i ⟨e0.k, e0.b, t⟩).map Ent.b := List.mem_map.2 ⟨e, he, rfl⟩
  rw [eb] at this
  obtain ⟨e', h1, h2⟩ := List.mem_map.1 this
  rw [← h2]
  exact h.lsb e' h1
def spoilS (s : SV) : SV := { a := s.a, c := 1, xs := s.xs.take 1, since := s.since, bad := true }
set_option maxHeartbeats 800000 in
theorem spoil_any (sb : Nat) (s : SV) (w : World) (hb : w.heap[sb]? = some s.box) (hx : 1 ≤ s.xs.length) (hc : s.xs.length ≤ s.c) (hcm : s.c ≤ 9223372036854775807) (gL : Nat) (ha : s.a = some ⟨gL, 0, none⟩) :
  Calls Tryz.prog 99 #[.pointer (some ⟨sb, 0, none⟩)] w fun e w' => e = .returned (.tuple #[]) ∧ w' = (w.setCell ⟨sb, 0, none⟩ (.slice s.a 1 1)).setCell ⟨sb, 2, none⟩ (.bool true) := by
 have c0 : w.cell? ⟨sb, 0, none⟩ = some (.slice s.a s.xs.length s.c) := zCr hb
 have c2 : w.cell? ⟨sb, 2, none⟩ = some (.bool s.bad) := zCr hb
 have fz : ∀ o, w.frozen? ⟨sb, o, none⟩ = false := fun o => zUf hb o
 have lb := lt_of_block hb
 rw [ha] at c0 ⊢
 clear hb
 go_enter Tryz.func99, Tryz.ntmps99
 go_wp2
 go_end0
 exact ⟨rfl, rfl⟩
def roomL (es : List Ent) : List Ent := if es.length = 4 then es.tail else es
theorem drop_first {e0 : Ent} {r : List Ent} (hn : ((e0 :: r).map Ent.k).Nodup) : ((e0 :: r).filter fun e => decide (e.k ≠ e0.k)) = r := by
 rw [List.map_cons, List.nodup_cons] at hn
 rw [List.filter_cons]
 simp only [ne_eq, not_true_eq_false, decide_false, Bool.false_eq_true, if_false]
 refine List.filter_eq_self.2 fun e he => ?_
 have : e.k ≠ e0.k := fun h => hn.1 (List.mem_map.2 ⟨e, he, h⟩)
 simp [this]
def RoomPost (lo ob mb : Nat) (ov : Value) (now : Int) (fs : List Ent) (w : World) (e : Ending) (w' : World) : Prop := ∃ ov', e = .returned (.tuple #[]) ∧ OpenB w' lo ob mb ov' now fs ∧ Only (OPart ob mb ov) w w' ∧ (∀ b, ov'.ownBlock = some b → ov.ownBlock = some b)
set_option maxHeartbeats 1600000 in
theorem makeRoom_any (lo ob mb : Nat) (ov : Value) (now : Int) (es : List Ent) (w : World) (h : OpenB w lo ob mb ov now es) (hl : es.length ≤ 1000) :
  Calls Tryz.prog 98 #[.pointer (some ⟨ob, 0, none⟩)] w (RoomPost lo ob mb ov now (roomL es) w) := by
 have H0 : Hid (OpenB w lo ob mb ov now es) := h
 have x1 : w.cell? ⟨ob, 1, none⟩ = some ov := zCr h.box
 have lob := lt_of_block h.box
 obtain ⟨oa, oc, hov⟩ := h.ovForm
 have HOV : Hid (ov = .slice oa es.length oc) := hov
 rw [hov] at x1
 clear h hov
 by_cases h4 : (es.length : Int) = 4
 ·have h4' : es.length = 4 := by omega
  cases es with
  | nil => simp at h4'
  | cons e0 r =>
   obtain ⟨g, c, hg, lg, k0, k1, k2, k3⟩ := H0.out.keyCells (k := 0) (e := e0) rfl
   rw [HOV.out] at hg
   cases hg
   have KD : Hid (Calls Tryz.prog 65 #[.pointer (some ⟨ob, 0, none⟩), .agg #[.int .i64 e0.k.1, .int .i64 e0.k.2.1, .int .i64 e0.k.2.2.1, .int .i64 e0.k.2.2.2]] w fun e w' => ∃ ov', e = .returned (.tuple #[]) ∧ OpenB w' lo ob mb ov' now r ∧ Only (OPart ob mb ov) w w' ∧ (∀ b, ov'.ownBlock = some b → ov.ownBlock = some b)) := (by
    have h := drop_any lo ob mb ov now (e0 :: r) e0.k e0 w H0.out (List.mem_cons_self ..) rfl hl
    rw [drop_first H0.out.keys] at h
    exact h)
   have HR : Hid (roomL (e0 :: r) = r) := (show _ = _ by unfold roomL; rw [if_pos h4']; rfl)
   have hi0 : (0 : Int) < ((e0 :: r).length : Int) := by omega
   clear h4'
   rw [Nat.zero_mul] at k0
   rw [Nat.zero_mul, Nat.zero_add] at k1 k2 k3
   obtain ⟨nn, hnn⟩ : ∃ nn, (e0 :: r).length = nn := ⟨_, rfl⟩
   rw [hnn] at x1 h4 hi0
   go_enter Tryz.func98, Tryz.ntmps98
   go_wp2_with fail
   refine KD.out.mono ?_
   rintro e w1 ⟨ov', rfl, h1, h2, h3⟩
   have FIN : Hid (RoomPost lo ob mb ov now (roomL (e0 :: r)) w (.returned (.tuple #[])) w1) := ⟨ov', rfl, by rw [HR.out]; exact h1, h2, h3⟩
   clear h1 h2 h3 KD
   go_wp2
   go_end0
   exact FIN.out
 ·have FIN : Hid (RoomPost lo ob mb ov now (roomL es) w (.returned (.tuple #[])) w) := ⟨ov, rfl, by unfold roomL; rw [if_neg (by omega)]; exact H0.out, Only.of_below (Below.refl _ _), fun b h => h⟩
  go_enter Tryz.func98, Tryz.ntmps98
  go_wp2
  go_end0
  exact FIN.out
def zeroV : Value := .agg #[.int .i64 0, .int .i64 0, .int .i64 0, .int .i64 0, .int .i64 0, .bool false, .int .i64 0, .bool false, .slice none 0 0]
theorem asOpensOpens (p : Option Addr) : ∀ w : World, (Instr.typeAssert (.iface 151 (.agg #[.pointer p])) 115 151 true).run Tryz.prog w = .ok (.tuple #[.agg #[.pointer p], .bool true]) w := fun _ => by kernel_rfl
theorem asStaysOpens (c : Int) : ∀ w : World, (Instr.typeAssert (.iface 152 (.agg #[.int .i64 c])) 115 151 true).run Tryz.prog w = .ok (.tuple #[.agg #[.pointer none], .bool false]) w := fun _ => by kernel_rfl
theorem asStaysGrows (c : Int) : ∀ w : World, (Instr.typeAssert (.iface 152 (.agg #[.int .i64 c])) 115 159 true).run Tryz.prog w = .ok (.tuple #[.agg #[.slice none 0 0], .bool false]) w := fun _ => by kernel_rfl
theorem asStaysSpoils (c : Int) : ∀ w : World, (Instr.typeAssert (.iface 152 (.agg #[.int .i64 c])) 115 155 true).run Tryz.prog w = .ok (.tuple #[.agg #[], .bool false]) w := fun _ => by kernel_rfl
theorem asStaysGoes (c : Int) : ∀ w : World, (Instr.typeAssert (.iface 152 (.agg #[.int .i64 c])) 115 162 true).run Tryz.prog w = .ok (.tuple #[.agg #[.int .i64 0, .int .i64 0, .int .i64 0, .int .i64 0, .int .i64 0, .bool false, .int .i64 0, .bool false, .slice none 0 0], .bool false]) w := fun _ => by kernel_rfl
theorem asGrowsOpens (a : Option Addr) (n c : Nat) : ∀ w : World, (Instr.typeAssert (.iface 159 (.agg #[.slice a n c])) 115 151 true).run Tryz.prog w = .ok (.tuple #[.agg #[.pointer none], .bool false]) w := fun _ => by kernel_rfl
theorem asGrowsGrows (a : Option Addr) (n c : Nat) : ∀ w : World, (Instr.typeAssert (.iface 159 (.agg #[.slice a n c])) 115 159 true).run Tryz.prog w = .ok (.tuple #[.agg #[.slice a n c], .bool true]) w := fun _ => by kernel_rfl
theorem asSpoilsOpens  : ∀ w : World, (Instr.typeAssert (.iface 155 (.agg #[])) 115 151 true).run Tryz.prog w = .ok (.tuple #[.agg #[.pointer none], .bool false]) w := fun _ => by kernel_rfl
theorem asSpoilsGrows  : ∀ w : World, (Instr.typeAssert (.iface 155 (.agg #[])) 115 159 true).run Tryz.prog w = .ok (.tuple #[.agg #[.slice none 0 0], .bool false]) w := fun _ => by kernel_rfl
theorem asSpoilsSpoils  : ∀ w : World, (Instr.typeAssert (.iface 155 (.agg #[])) 115 155 true).run Tryz.prog w = .ok (.tuple #[.agg #[], .bool true]) w := fun _ => by kernel_rfl
theorem asGoesOpens (p : Pk) (a : Option Addr) (n c : Nat) : ∀ w : World, (Instr.typeAssert (.iface 162 (.agg #[.int .i64 p.src, .int .i64 p.dst, .int .i64 p.kind, .int .i64 p.id, .int .i64 p.hops, .bool p.whole, .int .i64 p.off, .bool p.more, .slice a n c])) 115 151 true).run Tryz.prog w = .ok (.tuple #[.agg #[.pointer none], .bool false]) w := fun _ => by kernel_rfl
theorem asGoesGrows (p : Pk) (a : Option Addr) (n c : Nat) : ∀ w : World, (Instr.typeAssert (.iface 162 (.agg #[.int .i64 p.src, .int .i64 p.dst, .int .i64 p.kind, .int .i64 p.id, .int .i64 p.hops, .bool p.whole, .int .i64 p.off, .bool p.more, .slice a n c])) 115 159 true).run Tryz.prog w = .ok (.tuple #[.agg #[.slice none 0 0], .bool false]) w := fun _ => by kernel_rfl
theorem asGoesSpoils (p : Pk) (a : Option Addr) (n c : Nat) : ∀ w : World, (Instr.typeAssert (.iface 162 (.agg #[.int .i64 p.src, .int .i64 p.dst, .int .i64 p.kind, .int .i64 p.id, .int .i64 p.hops, .bool p.whole, .int .i64 p.off, .bool p.more, .slice a n c])) 115 155 true).run Tryz.prog w = .ok (.tuple #[.agg #[], .bool false]) w := fun _ => by kernel_rfl
theorem asGoesGoes (p : Pk) (a : Option Addr) (n c : Nat) : ∀ w : World, (Instr.typeAssert (.iface 162 (.agg #[.int .i64 p.src, .int .i64 p.dst, .int .i64 p.kind, .int .i64 p.id, .int .i64 p.hops, .bool p.whole, .int .i64 p.off, .bool p.more, .slice a n c])) 115 162 true).run Tryz.prog w = .ok (.tuple #[.agg #[.int .i64 p.src, .int .i64 p.dst, .int .i64 p.kind, .int .i64 p.id, .int .i64 p.hops, .bool p.whole, .int .i64 p.off, .bool p.more, .slice a n c], .bool true]) w := fun _ => by kernel_rfl
set_option maxHeartbeats 1600000 in
theorem settleStays (lo ob mb : Nat) (ov : Value) (now : Int) (es : List Ent) (k : K4) (c : Int) (w : World) (h : OpenB w lo ob mb ov now es) :
  Calls Tryz.prog 70 #[.pointer (some ⟨ob, 0, none⟩), kval k, oStays c] w fun e w' => e = .returned zeroV ∧ OpenB w' lo ob mb ov now es ∧ Below w.heap.size w w' := by
 have H0 : Hid (OpenB w lo ob mb ov now es) := h
 unfold kval oStays
 have a1 := asStaysOpens c
 have a2 := asStaysGrows c
 have a3 := asStaysSpoils c
 have a4 := asStaysGoes c
 clear h
 go_enter Tryz.func70, Tryz.ntmps70
 go_wp2
 refine bodyPost_ret (v := zeroV) (by simp [results, Tryz.results70, go_sem, zeroV]) rfl ⟨rfl, H0.out.below (Joins.below_alloc2 _ _ _), Joins.below_alloc2 _ _ _⟩
set_option maxHeartbeats 3200000 in
theorem settleGoes (lo ob mb : Nat) (ov : Value) (now : Int) (es : List Ent) (k : K4) (e0 : Ent) (p : Pk) (a : Option Addr) (n c : Nat) (w : World) (h : OpenB w lo ob mb ov now es) (he : e0 ∈ es) (hk : e0.k = k) (hl : es.length ≤ 1000) :
  Calls Tryz.prog 70 #[.pointer (some ⟨ob, 0, none⟩), kval k, oGoes p (.slice a n c)] w fun e w' => e = .returned (p.val (.slice a n c)) ∧ ∃ ov', OpenB w' lo ob mb ov' now (es.filter fun e => decide (e.k ≠ k)) ∧ Only (OPart ob mb ov) w w' := by
 have H0 : Hid (OpenB w lo ob mb ov now es) := h
 have KD : Hid (∀ W : World, OpenB W lo ob mb ov now es → Calls Tryz.prog 65 #[.pointer (some ⟨ob, 0, none⟩), .agg #[.int .i64 k.1, .int .i64 k.2.1, .int .i64 k.2.2.1, .int .i64 k.2.2.2]] W fun e w' => ∃ ov', e = .returned (.tuple #[]) ∧ OpenB w' lo ob mb ov' now (es.filter fun e => decide (e.k ≠ k)) ∧ Only (OPart ob mb ov) W w' ∧ (∀ b, ov'.ownBlock = some b → ov.ownBlock = some b)) := fun W hW => drop_any lo ob mb ov now es k e0 W hW he hk hl
 have lob := lt_of_block h.box
 have HP : Hid (∀ b, OPart ob mb ov b → b < w.heap.size) := fun b hb => by
  rcases hb with rfl | rfl | hb
  ·exact lt_of_block h.box
  ·exact h.map_.lt
  ·exact (own_lt h.order b hb).2
 have a1 := asGoesOpens p a n c
 have a2 := asGoesGrows p a n c
 have a3 := asGoesSpoils p a n c
 have a4 := asGoesGoes p a n c
 unfold kval oGoes Pk.val
 clear h he hk
 go_enter Tryz.func70, Tryz.ntmps70
 go_wp2_with fail
 have bW := Joins.below_alloc3 w (.cells #[.int .i64 k.1, .int .i64 k.2.1, .int .i64 k.2.2.1, .int .i64 k.2.2.2] 103) (.cells #[.int .i64 0, .int .i64 0, .int .i64 0, .int .i64 0, .int .i64 0, .bool false, .int .i64 0, .bool false, .slice none 0 0] 29) (.cells #[.int .i64 p.src, .int .i64 p.dst, .int .i64 p.kind, .int .i64 p.id, .int .i64 p.hops, .bool p.whole, .int .i64 p.off, .bool p.more, .slice a n c] 162)
 refine (KD.out _ (H0.out.below bW)).mono ?_
 rintro e w1 ⟨ov', rfl, o1, n1, l1⟩
 obtain ⟨W, hW⟩ : ∃ W, ((w.alloc (.cells #[.int .i64 k.1, .int .i64 k.2.1, .int .i64 k.2.2.1, .int .i64 k.2.2.2] 103)).alloc (.cells #[.int .i64 0, .int .i64 0, .int .i64 0, .int .i64 0, .int .i64 0, .bool false, .int .i64 0, .bool false, .slice none 0 0] 29)).alloc (.cells #[.int .i64 p.src, .int .i64 p.dst, .int .i64 p.kind, .int .i64 p.id, .int .i64 p.hops, .bool p.whole, .int .i64 p.off, .bool p.more, .slice a n c] 162) = W := ⟨_, rfl⟩
 have g0 : W.heap[w.heap.size + 2]? = some (.cells #[.int .i64 p.src, .int .i64 p.dst, .int .i64 p.kind, .int .i64 p.id, .int .i64 p.hops, .bool p.whole, .int .i64 p.off, .bool p.more, .slice a n c] 162 (0, 0)) := by rw [← hW]; exact heap_new _ _ _ (by simp)
 have z0 : W.heap[w.heap.size + 1]? = some (.cells #[.int .i64 0, .int .i64 0, .int .i64 0, .int .i64 0, .int .i64 0, .bool false, .int .i64 0, .bool false, .slice none 0 0] 29 (0, 0)) := by rw [← hW]; exact (zHa (by simp)).trans (heap_new _ _ _ (by simp))
 have sW : W.heap.size = w.heap.size + 3 := by rw [← hW]; simp
 rw [hW] at n1 bW
 clear hW
 have g1 : w1.heap[w.heap.size + 2]? = some (.cells #[.int .i64 p.src, .int .i64 p.dst, .int .i64 p.kind, .int .i64 p.id, .int .i64 p.hops, .bool p.whole, .int .i64 p.off, .bool p.more, .slice a n c] 162 (0, 0)) := (n1.block _ (by omega) (fun h => by have := HP.out _ h; omega)).trans g0
 have z1 : w1.heap[w.heap.size + 1]? = some (.cells #[.int .i64 0, .int .i64 0, .int .i64 0, .int .i64 0, .int .i64 0, .bool false, .int .i64 0, .bool false, .slice none 0 0] 29 (0, 0)) := (n1.block _ (by omega) (fun h => by have := HP.out _ h; omega)).trans z0
 have f0 : w1.cell? ⟨w.heap.size + 2, 0, none⟩ = some (.int .i64 p.src) := zCr g1
 have f1 : w1.cell? ⟨w.heap.size + 2, 1, none⟩ = some (.int .i64 p.dst) := zCr g1
 have f2 : w1.cell? ⟨w.heap.size + 2, 2, none⟩ = some (.int .i64 p.kind) := zCr g1
 have f3 : w1.cell? ⟨w.heap.size + 2, 3, none⟩ = some (.int .i64 p.id) := zCr g1
 have f4 : w1.cell? ⟨w.heap.size + 2, 4, none⟩ = some (.int .i64 p.hops) := zCr g1
 have f5 : w1.cell? ⟨w.heap.size + 2, 5, none⟩ = some (.bool p.whole) := zCr g1
 have f6 : w1.cell? ⟨w.heap.size + 2, 6, none⟩ = some (.int .i64 p.off) := zCr g1
 have f7 : w1.cell? ⟨w.heap.size + 2, 7, none⟩ = some (.bool p.more) := zCr g1
 have f8 : w1.cell? ⟨w.heap.size + 2, 8, none⟩ = some (.slice a n c) := zCr g1
 have q0 : w1.cell? ⟨w.heap.size + 1, 0, none⟩ = some (.int .i64 0) := zCr z1
 have q1 : w1.cell? ⟨w.heap.size + 1, 1, none⟩ = some (.int .i64 0) := zCr z1
 have q2 : w1.cell? ⟨w.heap.size + 1, 2, none⟩ = some (.int .i64 0) := zCr z1
 have q3 : w1.cell? ⟨w.heap.size + 1, 3, none⟩ = some (.int .i64 0) := zCr z1
 have q4 : w1.cell? ⟨w.heap.size + 1, 4, none⟩ = some (.int .i64 0) := zCr z1
 have q5 : w1.cell? ⟨w.heap.size + 1, 5, none⟩ = some (.bool false) := zCr z1
 have q6 : w1.cell? ⟨w.heap.size + 1, 6, none⟩ = some (.int .i64 0) := zCr z1
 have q7 : w1.cell? ⟨w.heap.size + 1, 7, none⟩ = some (.bool false) := zCr z1
 have q8 : w1.cell? ⟨w.heap.size + 1, 8, none⟩ = some (.slice none 0 0) := zCr z1
 have fz : ∀ o, w1.frozen? ⟨w.heap.size + 1, o, none⟩ = false := fun o => zUf z1 o
 have HB : Hid (∀ W', Below (w.heap.size + 1) w1 W' → ∃ ov', OpenB W' lo ob mb ov' now (es.filter fun e => decide (e.k ≠ k)) ∧ Only (OPart ob mb ov) w W') := fun W' b9 => by
  refine ⟨ov', o1.kept (b9.block _ (by omega)) (b9.block _ (by have := H0.out.map_.lt; omega)) (fun x hx => b9.block _ (by have := HP.out x (Or.inr (Or.inr (l1 x hx))); omega)) (fun e he => b9.block _ (by have := lt_of_block (H0.out.slot e (List.mem_filter.1 he).1); omega)) (fun b hb => b9.block _ ?_), ?_⟩
  ·obtain ⟨s, hs, hb'⟩ := List.mem_flatMap.1 hb
   obtain ⟨e, he, rfl⟩ := List.mem_map.1 hs
   have := (H0.out.forest.blk b (List.mem_flatMap.2 ⟨e.s, List.mem_map.2 ⟨e, (List.mem_filter.1 he).1, rfl⟩, hb'⟩)).2.1
   omega
  ·exact ⟨b9.os.trans (n1.os.trans bW.os), b9.tape.trans (n1.tape.trans bW.tape), b9.output.trans (n1.output.trans bW.output), Nat.le_trans bW.size (Nat.le_trans n1.size b9.size), fun b hb hn => (b9.block b (by omega)).trans ((n1.block b (by omega) hn).trans (bW.block b hb))⟩
 have lz : w.heap.size + 1 < w1.heap.size := lt_of_block z1
 have lg : w.heap.size + 2 < w1.heap.size := lt_of_block g1
 clear g0 z0 g1 z1 o1 n1 l1 bW sW KD a1 a2 a3 a4
 go_wp2
 refine bodyPost_ret (v := .agg #[.int .i64 p.src, .int .i64 p.dst, .int .i64 p.kind, .int .i64 p.id, .int .i64 p.hops, .bool p.whole, .int .i64 p.off, .bool p.more, .slice a n c]) (by simp [results, Tryz.results70, go_sem, q0, q1, q2, q3, q4, q5, q6, q7, q8]) rfl ⟨rfl, HB.out _ ?_⟩
 exact below_far9 (o := 0) (Below.refl _ w1) (Nat.le_refl _) _ _ _ _ _ _ _ _ _
end Go.Proofs.YtjbkgmbakjnlhaaGreatDoor
