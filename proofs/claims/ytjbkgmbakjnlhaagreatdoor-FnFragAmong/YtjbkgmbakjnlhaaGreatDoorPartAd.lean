import Derived.Test.YtjbkgmbakjnlhaaGreatDoorPartAa
import Derived.Maps.Keyed
import Derived.Test.YtjbkgmbakjnlhaaGreatDoorPartAc
import Derived.Deep.WholeRow
import Derived.Test.YtjbkgmbakjnlhaaGreatDoorPartAb
import Derived.Deep.RegionHeld3
namespace Go.Proofs.YtjbkgmbakjnlhaaGreatDoor
set_option maxRecDepth 100000
open Go.RowKit
abbrev K4 := Int × Int × Int × Int
def kval (k : K4) : Value := .agg #[.int .i64 k.1, .int .i64 k.2.1, .int .i64 k.2.2.1, .int .i64 k.2.2.2]
theorem equal_k4 (k k' : K4) (w : World) : (Op.equal 103 (kval k) (kval k')).run Tryz.prog w = .ok (decide (k = k')) w := by
 unfold kval Op.equal Op.maxDepth
 rw [show (10000 : Nat) = 9999 + 1 from rfl, run_equalIn_agg w 9999 103 _ _ (by kernel_rfl) (by kernel_rfl)]
 obtain ⟨a, b, c, d⟩ := k
 obtain ⟨a', b', c', d'⟩ := k'
 go_simp
 by_cases h1 : a = a' <;> by_cases h2 : b = b' <;> by_cases h3 : c = c' <;> by_cases h4 : d = d' <;> simp [h1, h2, h3, h4]
theorem checkKey_k4 (b : Bool) (k : K4) (w : World) : (Instr.checkKey b 10000 103 (kval k)).run Tryz.prog w = .ok () w := by
 kernel_rfl
def pval (b : Nat) : Value := .pointer (some ⟨b, 0, none⟩)
def Ents (es : List MapEntry) (L : List (K4 × Nat)) : Prop := es.map (fun e => (e.key, e.val)) = L.map (fun p => (kval p.1, pval p.2))
theorem ents_cons {e : MapEntry} {es : List MapEntry} {L : List (K4 × Nat)} (h : Ents (e :: es) L) : ∃ k b r, L = (k, b) :: r ∧ e.key = kval k ∧ e.val = pval b ∧ Ents es r := by
 cases L with
 | nil => cases h
 | cons p r =>
  obtain ⟨k, b⟩ := p
  simp only [Ents, List.map_cons, List.cons.injEq, Prod.mk.injEq] at h
  exact ⟨k, b, r, rfl, h.1.1, h.1.2, h.2⟩
def findK (k : K4) : List (K4 × Nat) → Nat → Option (Nat × Nat)
 | [], _ => none
 | (k', b) :: r, i => if k = k' then some (i, b) else findK k r (i + 1)
theorem findAsking_k4 (k : K4) : ∀ (es : List MapEntry) (L : List (K4 × Nat)) (i : Nat) (w : World), Ents es L → (Instr.findAsking 103 (kval k) es i).run Tryz.prog w = .ok ((findK k L i).map fun p => (p.1, pval p.2)) w
 | [], L, i, w, h => by
  cases L with
  | nil => rfl
  | cons p r => cases h
 | e :: es, L, i, w, h => by
  obtain ⟨k', b, r, rfl, h1, h2, h3⟩ := ents_cons h
  unfold Instr.findAsking findK
  simp only [Sem.run_bind, h1, equal_k4, Result.andThen_ok]
  by_cases hk : k = k'
  ·simp [hk, h2]
  ·simp only [hk, decide_false, if_false, Bool.false_eq_true]
   exact findAsking_k4 k es r (i + 1) w h3
theorem findNow_k4 {fs : Array Field} (k : K4) (es : List MapEntry) (L : List (K4 × Nat)) (i : Nat) (h : Ents es L) : Instr.findNow (.struct fs) (kval k) es i = none ∨ (es = [] ∧ L = [] ∧ Instr.findNow (.struct fs) (kval k) es i = some none) := by
 cases es with
 | nil =>
  cases L with
  | nil => exact Or.inr ⟨rfl, rfl, rfl⟩
  | cons p r => cases h
 | cons e es => exact Or.inl rfl
theorem under_key : Tryz.prog.underlying 103 = some (.struct (Tryz.prog.fieldsOf 103)) := by kernel_rfl
theorem findKey_k4 (k : K4) (es : List MapEntry) (L : List (K4 × Nat)) (w : World) (h : Ents es L) : (Instr.findKey 103 (kval k) es).run Tryz.prog w = .ok ((findK k L 0).map fun p => (p.1, pval p.2)) w := by
 unfold Instr.findKey
 simp only [Sem.run_bind, run_underlying under_key, Result.andThen_ok]
 rcases findNow_k4 (fs := Tryz.prog.fieldsOf 103) k es L 0 h with e | ⟨e1, e2, e⟩
 ·rw [e]
  exact findAsking_k4 k es L 0 w h
 ·rw [e]
  subst e2
  rfl
def MapIs (w : World) (mb : Nat) (L : List (K4 × Nat)) : Prop := ∃ es clock, w.heap[mb]? = some (.map es clock) ∧ Ents es.toList L
theorem MapIs.lt {w : World} {mb : Nat} {L : List (K4 × Nat)} (h : MapIs w mb L) : mb < w.heap.size := by
 obtain ⟨es, c, h1, _⟩ := h
 exact (Array.getElem?_eq_some_iff.1 h1).1
theorem MapIs.kept {w w' : World} {mb : Nat} {L : List (K4 × Nat)} (h : MapIs w mb L) (hk : w'.heap[mb]? = w.heap[mb]?) : MapIs w' mb L := by
 obtain ⟨es, c, h1, h2⟩ := h
 exact ⟨es, c, hk.trans h1, h2⟩
theorem MapIs.ne_cells {w : World} {mb b : Nat} {L : List (K4 × Nat)} {cs : Array Value} {t : TypeId} {fr : Nat × Nat} (h : MapIs w mb L) (hb : w.heap[b]? = some (.cells cs t fr)) : mb ≠ b := by
 rintro rfl
 obtain ⟨es, c, h1, _⟩ := h
 rw [h1] at hb
 cases hb
def slotOf (k : K4) (L : List (K4 × Nat)) : Option Nat := (findK k L 0).map (·.2)
def slotVal (o : Option Nat) : Value := match o with | some b => pval b | none => .pointer none
theorem lookup_k4 {w : World} {mb : Nat} {L : List (K4 × Nat)} (h : MapIs w mb L) (k : K4) : (Instr.lookup 97 (.map (some mb)) (kval k) false).run Tryz.prog w = .ok (slotVal (slotOf k L)) w := by
 obtain ⟨es, c, h1, h2⟩ := h
 have hf := findKey_k4 k es.toList L w h2
 unfold slotOf
 cases hk : findK k L 0 with
 | none =>
  rw [hk] at hf
  simp [Instr.lookup, run_underlying Tryz.underlying97, MapKept.run_getObj_map h1, checkKey_k4, hf, Result.andThen, slotVal]
 | some p =>
  rw [hk] at hf
  simp [Instr.lookup, run_underlying Tryz.underlying97, MapKept.run_getObj_map h1, checkKey_k4, hf, Result.andThen, slotVal]
def setBlk (w : World) (b : Nat) (o : Obj) : World := { w with heap := w.heap.setIfInBounds b o }
theorem update_k4 {w : World} {mb : Nat} {L : List (K4 × Nat)} (h : MapIs w mb L) (k : K4) (b : Nat) (hn : findK k L 0 = none) :
  ∃ w', (Instr.mapUpdate 97 (.map (some mb)) (kval k) (pval b)).run Tryz.prog w = .ok () w' ∧ MapIs w' mb (L ++ [(k, b)]) ∧ w.grownBy w' (some mb) := by
 obtain ⟨es, c, h1, h2⟩ := h
 have hf := findKey_k4 k es.toList L w h2
 rw [hn] at hf
 have hlt : mb < w.heap.size := (Array.getElem?_eq_some_iff.1 h1).1
 refine ⟨setBlk w mb (.map (es.push ⟨kval k, pval b, c⟩) (c + 1)), by simp [setBlk, Instr.mapUpdate, run_underlying Tryz.underlying97, MapKept.run_getObj_map h1, checkKey_k4, hf, MapKept.run_setObj_map _ h1, Result.andThen], ?_, ?_⟩
 ·refine ⟨es.push ⟨kval k, pval b, c⟩, c + 1, by simp [setBlk, hlt], ?_⟩
  unfold Ents at *
  simp [h2]
 ·exact ⟨rfl, rfl, rfl, by simp [setBlk], fun j hj hne => by
   have : mb ≠ j := fun e => hne (by rw [e])
   simp [setBlk, Array.getElem?_setIfInBounds_ne this]⟩
theorem findK_some {k : K4} : ∀ {L : List (K4 × Nat)} {i j b : Nat}, findK k L i = some (j, b) → i ≤ j ∧ L[j - i]? = some (k, b) ∧ ∀ q, q < j - i → ∀ p, L[q]? = some p → p.1 ≠ k
 | [], i, j, b, h => by cases h
 | (k', b') :: r, i, j, b, h => by
  unfold findK at h
  by_cases hk : k = k'
  ·rw [if_pos hk] at h
   cases h
   refine ⟨Nat.le_refl _, by simp [hk], fun q hq => by omega⟩
  ·rw [if_neg hk] at h
   obtain ⟨h1, h2, h3⟩ := findK_some h
   refine ⟨by omega, ?_, fun q hq p hp => ?_⟩
   ·rw [show j - i = (j - (i + 1)) + 1 by omega]
    exact h2
   ·cases q with
    | zero =>
     simp at hp
     rw [← hp]
     exact fun e => hk e.symm
    | succ q => exact h3 q (by omega) p (by simpa using hp)
theorem findK_none {k : K4} : ∀ {L : List (K4 × Nat)} {i : Nat}, findK k L i = none → ∀ p ∈ L, p.1 ≠ k
 | [], i, _, p, hp => by cases hp
 | (k', b') :: r, i, h, p, hp => by
  unfold findK at h
  by_cases hk : k = k'
  ·rw [if_pos hk] at h; cases h
  ·rw [if_neg hk] at h
   rcases List.mem_cons.1 hp with rfl | hp
   ·exact fun e => hk e.symm
   ·exact findK_none h p hp
theorem findK_of {k : K4} {b : Nat} : ∀ {L : List (K4 × Nat)} (i : Nat), (k, b) ∈ L → (L.map (·.1)).Nodup → ∃ j, findK k L i = some (j, b)
 | [], i, h, _ => by cases h
 | (k', b') :: r, i, h, hn => by
  unfold findK
  rw [List.map_cons, List.nodup_cons] at hn
  rcases List.mem_cons.1 h with h | h
  ·cases h
   rw [if_pos rfl]
   exact ⟨i, rfl⟩
  ·have : k ≠ k' := fun e => hn.1 (by rw [← e]; exact List.mem_map.2 ⟨(k, b), h, rfl⟩)
   rw [if_neg this]
   exact findK_of (i + 1) h hn.2
theorem findK_absent {k : K4} : ∀ {L : List (K4 × Nat)} (i : Nat), (∀ p ∈ L, p.1 ≠ k) → findK k L i = none
 | [], _, _ => rfl
 | (k', b') :: r, i, h => by
  unfold findK
  rw [if_neg (fun e => h (k', b') (by simp) e.symm)]
  exact findK_absent (i + 1) (fun p hp => h p (List.mem_cons_of_mem _ hp))
theorem slotOf_some {k : K4} {b : Nat} {L : List (K4 × Nat)} (h : (k, b) ∈ L) (hn : (L.map (·.1)).Nodup) : slotOf k L = some b := by
 obtain ⟨j, hj⟩ := findK_of 0 h hn
 simp [slotOf, hj]
theorem erase_at {k : K4} : ∀ {L : List (K4 × Nat)} {j b : Nat}, L[j]? = some (k, b) → (L.map (·.1)).Nodup → L.eraseIdx j = L.filter (fun p => decide (p.1 ≠ k))
 | [], j, b, h, _ => by simp at h
 | (k', b') :: r, 0, b, h, hn => by
  simp at h
  obtain ⟨rfl, rfl⟩ := h
  rw [List.map_cons, List.nodup_cons] at hn
  simp only [List.eraseIdx_cons_zero, List.filter_cons, ne_eq, not_true, decide_false, Bool.false_eq_true, if_false]
  symm
  rw [List.filter_eq_self]
  intro p hp
  have : p.1 ≠ k' := fun e => hn.1 (by rw [← e]; exact List.mem_map.2 ⟨p, hp, rfl⟩)
  simp [this]
 | (k', b') :: r, j + 1, b, h, hn => by
  rw [List.map_cons, List.nodup_cons] at hn
  have hm : (k, b) ∈ r := List.mem_of_getElem? (by simpa using h)
  have : k' ≠ k := fun e => hn.1 (by rw [e]; exact List.mem_map.2 ⟨(k, b), hm, rfl⟩)
  rw [List.eraseIdx_cons_succ, erase_at (by simpa using h) hn.2, List.filter_cons]
  simp [this]
theorem delete_k4 {w : World} {mb : Nat} {L : List (K4 × Nat)} (h : MapIs w mb L) (hnd : (L.map (·.1)).Nodup) (k : K4) (ty : TypeId) :
  ∃ w', (Builtin.delete_ #[97, 103] ty #[.map (some mb), kval k]).run Tryz.prog w = .ok (.tuple #[]) w' ∧ MapIs w' mb (L.filter fun p => decide (p.1 ≠ k)) ∧ w.grownBy w' (some mb) := by
 obtain ⟨es, c, h1, h2⟩ := h
 have hf := findKey_k4 k es.toList L w h2
 have hlt : mb < w.heap.size := (Array.getElem?_eq_some_iff.1 h1).1
 cases hk : findK k L 0 with
 | none =>
  rw [hk] at hf
  refine ⟨setBlk w mb (.map es c), by simp [setBlk, Builtin.delete_, run_underlying Tryz.underlying97, MapKept.run_getObj_map h1, checkKey_k4, hf, MapKept.run_setObj_map _ h1, Result.andThen], ?_, ?_⟩
  ·refine ⟨es, c, by simp [setBlk, hlt], ?_⟩
   rw [List.filter_eq_self.2 fun p hp => by simpa using findK_none hk p hp]
   exact h2
  ·exact ⟨rfl, rfl, rfl, by simp [setBlk], fun j hj hne => by
    have : mb ≠ j := fun e => hne (by rw [e])
    simp [setBlk, Array.getElem?_setIfInBounds_ne this]⟩
 | some p =>
  obtain ⟨j, b⟩ := p
  rw [hk] at hf
  obtain ⟨_, hj, _⟩ := findK_some hk
  rw [Nat.sub_zero] at hj
  refine ⟨setBlk w mb (.map (es.eraseIdxIfInBounds j) c), by simp [setBlk, Builtin.delete_, run_underlying Tryz.underlying97, MapKept.run_getObj_map h1, checkKey_k4, hf, MapKept.run_setObj_map _ h1, Result.andThen], ?_, ?_⟩
  ·refine ⟨es.eraseIdxIfInBounds j, c, by simp [setBlk, hlt], ?_⟩
   have hjs : j < es.size := by
    have e := congrArg List.length h2
    have := (List.getElem?_eq_some_iff.1 hj).1
    simp at e
    omega
   have hsub : (es.eraseIdxIfInBounds j).toList = es.toList.eraseIdx j := by
    unfold Array.eraseIdxIfInBounds
    rw [dif_pos hjs]
    simp
   rw [hsub, ← erase_at hj hnd]
   unfold Ents at *
   rw [Go.ChangeMaps.map_eraseIdx, h2, Go.ChangeMaps.map_eraseIdx]
  ·exact ⟨rfl, rfl, rfl, by simp [setBlk], fun j hj hne => by
    have : mb ≠ j := fun e => hne (by rw [e])
    simp [setBlk, Array.getElem?_setIfInBounds_ne this]⟩
end Go.Proofs.YtjbkgmbakjnlhaaGreatDoor
namespace Go.Proofs.YtjbkgmbakjnlhaaGreatDoor
set_option maxRecDepth 100000
open Go.RowKit
theorem put9_take {cur : Array Value} {o : Nat} {xs : List Value} (x0 x1 x2 x3 x4 x5 x6 x7 x8 : Value) (hs : o + 9 ≤ cur.size) (h : cur.toList.take o = xs) :
  (put9 cur o x0 x1 x2 x3 x4 x5 x6 x7 x8).toList.take (o + 9) = xs ++ [x0, x1, x2, x3, x4, x5, x6, x7, x8] := by
 have hl : xs.length = o := by rw [← h]; simp; omega
 refine List.ext_getElem? fun i => ?_
 rcases Nat.lt_or_ge i o with h1 | h1
 ·rw [List.getElem?_take_of_lt (by omega), Array.getElem?_toList, put9_far _ _ _ _ _ _ _ _ _ (Or.inl h1), List.getElem?_append_left (by omega), ← h, List.getElem?_take_of_lt h1, Array.getElem?_toList]
 ·rcases Nat.lt_or_ge i (o + 9) with h2 | h2
  ·have e : i = o + (i - o) := by omega
   rw [List.getElem?_take_of_lt h2, Array.getElem?_toList, List.getElem?_append_right (by omega), hl, e, put9_at _ _ _ _ _ _ _ _ _ hs (by omega), Nat.add_sub_cancel_left]
   simp
  ·rw [List.getElem?_eq_none (by simp; omega), List.getElem?_eq_none (by simp; omega)]
def Fill (w : World) (gL n : Nat) (ys : List RV) : Prop := ∃ cur : Array Value, w.heap[gL]? = some (.cells cur 29 (0, 0)) ∧ cur.size = n * 9 ∧ cur.toList.take (ys.length * 9) = ys.flatMap RV.cells
theorem Fill.lt {w : World} {gL n : Nat} {ys : List RV} (h : Fill w gL n ys) : gL < w.heap.size := by
 obtain ⟨cur, h1, _⟩ := h
 exact lt_of_block h1
theorem Fill.kept {w w' : World} {gL n : Nat} {ys : List RV} (h : Fill w gL n ys) (hk : w'.heap[gL]? = w.heap[gL]?) : Fill w' gL n ys := by
 obtain ⟨cur, h1, h2⟩ := h
 exact ⟨cur, hk.trans h1, h2⟩
theorem Fill.row {w : World} {gL n : Nat} {ys : List RV} (h : Fill w gL n ys) : RowB w 29 gL (ys.flatMap RV.cells) := by
 obtain ⟨cur, h1, _, h3⟩ := h
 exact ⟨cur, h1, by rw [flatR_len]; exact h3⟩
theorem Fill.put {w : World} {gL n : Nat} {ys : List RV} (h : Fill w gL n ys) (hn : ys.length < n) (z : RV) :
  Fill (((((((((w.setCell ⟨gL, ys.length * 9, none⟩ (.int .i64 z.p.src)).setCell ⟨gL, ys.length * 9 + 1, none⟩ (.int .i64 z.p.dst)).setCell ⟨gL, ys.length * 9 + 2, none⟩ (.int .i64 z.p.kind)).setCell ⟨gL, ys.length * 9 + 3, none⟩ (.int .i64 z.p.id)).setCell ⟨gL, ys.length * 9 + 4, none⟩ (.int .i64 z.p.hops)).setCell ⟨gL, ys.length * 9 + 5, none⟩ (.bool z.p.whole)).setCell ⟨gL, ys.length * 9 + 6, none⟩ (.int .i64 z.p.off)).setCell ⟨gL, ys.length * 9 + 7, none⟩ (.bool z.p.more)).setCell ⟨gL, ys.length * 9 + 8, none⟩ (.slice z.a z.zs.length z.c)) gL n (ys ++ [z]) := by
 obtain ⟨cur, h1, h2, h3⟩ := h
 refine ⟨_, heap_put9 h1 _ _ _ _ _ _ _ _ _, by rw [put9_size]; exact h2, ?_⟩
 rw [List.length_append, List.flatMap_append, show (ys.length + [z].length) * 9 = ys.length * 9 + 9 by simp; omega, put9_take _ _ _ _ _ _ _ _ _ (by omega) h3]
 simp [RV.cells, pcells]
theorem blk_apart {w : World} {lo : Nat} {ys : List RV} {z : RV} (h : ∀ y ∈ ys, DataB w lo y) (hn : (ys.flatMap RV.blk).Nodup) {w' : World} {L : Nat} (hz : DataB w' L z) (hl : w.heap.size ≤ L) : ((ys ++ [z]).flatMap RV.blk).Nodup := by
 rw [List.flatMap_append, List.nodup_append]
 refine ⟨hn, ?_, fun a ha b hb e => ?_⟩
 ·rw [List.flatMap_singleton]
  unfold RV.blk
  cases z.a <;> simp
 ·obtain ⟨y, hy, hb'⟩ := List.mem_flatMap.1 ha
  have h1 := ((h y hy).blk a hb').2.1
  have h2 := (hz.blk b (by simpa using hb)).1
  omega
set_option maxHeartbeats 3200000 in
theorem copySlot_any (s : SV) (w : World) (h : SOk w s) :
  Calls Tryz.prog 62 #[.agg #[.slice s.a s.xs.length s.c, .int .i64 s.since, .bool s.bad]] w fun e w' => ∃ t : SV, e = .returned (pval w.heap.size) ∧ w'.heap[w.heap.size]? = some (.cells (scells (.slice t.a t.xs.length t.c) t.since t.bad) 39 (0, 0)) ∧ t.key = s.key ∧ SlotB w' (w.heap.size + 1) t ∧ t.blks.Nodup ∧ Below w.heap.size w w' := by
 obtain ⟨i0, hi0, hz0, hz1, hz2⟩ := info_parts Tryz.info9
 obtain ⟨gx, hxa, RX⟩ := h.at_
 have hsl := h.len
 obtain ⟨xs, hxs⟩ : ∃ xs, s.xs = xs := ⟨_, rfl⟩
 rw [hxs] at RX hsl
 rw [hxs, hxa]
 have HXS : Hid (s.xs = xs) := hxs
 clear hxs
 have hmk : ∀ W : World, (Instr.makeSlice 23 (.int .i64 (xs.length : Int)) (.int .i64 (xs.length : Int))).run Tryz.prog W = .ok (.slice (some ⟨W.heap.size, 0, none⟩) xs.length xs.length) (W.alloc (.cells (madeCells (Value.agg #[.int .i64 0, .int .i64 0, .int .i64 0, .int .i64 0, .int .i64 0, .bool false, .int .i64 0, .bool false, .slice none 0 0]).cells (xs.length * 9)) 29)) := fun W => by
  have h := run_make (P := Tryz.prog) W 23 29 i0 _ Tryz.underlying23 hi0 hz0 .i64 .i64 (xs.length : Int) (xs.length : Int) (by omega) (Int.le_refl _) (by rw [hz2]; omega) (by omega)
  rw [Int.toNat_natCast, hz1] at h
  exact h
 obtain ⟨C0, hC0⟩ : ∃ C0, madeCells (Value.agg #[.int .i64 0, .int .i64 0, .int .i64 0, .int .i64 0, .int .i64 0, .bool false, .int .i64 0, .bool false, .slice none 0 0]).cells (xs.length * 9) = C0 := ⟨_, rfl⟩
 have hCs : C0.size = xs.length * 9 := by rw [← hC0]; exact size_madeCells _ _
 rw [hC0] at hmk
 have F0 : Hid (Fill ((w.alloc (.cells #[.slice (some ⟨gx, 0, none⟩) xs.length s.c, .int .i64 s.since, .bool s.bad] 39)).alloc (.cells C0 29)) (w.heap.size + 1) xs.length []) := ⟨C0, heap_new _ _ _ (by simp), hCs, by simp⟩
 have HL : Hid (RL w gx xs) := RX
 clear h hxa RX hi0 hz0 hz1 hz2 hC0 hCs
 go_enter Tryz.func62, Tryz.ntmps62
 go_wp2
 go_loopw [13] (fun i wr => ∃ (k : Nat) (ys : List RV), k ≤ xs.length ∧ i = .int .i64 k ∧ Hid (ys.length = k) ∧ Hid (ys.map RV.key = (xs.take k).map RV.key) ∧ Hid (Fill wr (w.heap.size + 1) xs.length ys) ∧ Hid (∀ y ∈ ys, DataB wr (w.heap.size + 2) y) ∧ Hid ((ys.flatMap RV.blk).Nodup) ∧ Hid (Below w.heap.size w wr) ∧ Hid (wr.heap[w.heap.size]? = some (.cells #[.slice (some ⟨gx, 0, none⟩) xs.length s.c, .int .i64 s.since, .bool s.bad] 39 (0, 0)))) (fun i _ => xs.length - (intOf i).toNat)
 case atStart => exact ⟨0, [], by omega, rfl, rfl, rfl, F0.out, (fun y hy => by cases hy), List.nodup_nil, Joins.below_alloc2 _ _ _, (zHa (by simp)).trans (heap_new _ _ _ rfl)⟩
 case round =>
  obtain ⟨k, ys, hk, rfl, HY, HK, HF, HD, HN, HW, HX⟩ := hrel
  have hsz := HW.out.size
  have lb := lt_of_block HX.out
  have lf := HF.out.lt
  by_cases hlt : k < xs.length
  ·obtain ⟨x, hx⟩ := get_of_lt hlt
   have hi : (k : Int) < (xs.length : Int) := by omega
   have Lr := HL.out.below HW.out
   have hgr := Lr.lt
   obtain ⟨c0, c1, c2, c3, c4, c5, c6, c7, c8⟩ := Lr.elem k x hx
   have HXK : Hid (xs[k]? = some x) := hx
   have HR : Hid (ROk wr x) := Lr.each x (List.mem_of_getElem? hx)
   clear hx Lr
   have KC : Hid (∀ W : World, Below wr.heap.size wr W → Calls Tryz.prog 68 #[.agg #[.int .i64 x.p.src, .int .i64 x.p.dst, .int .i64 x.p.kind, .int .i64 x.p.id, .int .i64 x.p.hops, .bool x.p.whole, .int .i64 x.p.off, .bool x.p.more, .slice x.a x.zs.length x.c]] W fun e w' => ∃ z : RV, e = .returned z.val ∧ z.key = x.key ∧ DataB w' W.heap.size z ∧ Below W.heap.size W w') := fun W h => copyPacket_rv x W (HR.out.below h)
   go_wp2_with fail
   refine (KC.out _ (zBa _ _)).mono ?_
   rintro e w1 ⟨z, rfl, hzk, DZ, b1⟩
   unfold RV.val Pk.val
   have b1' : Below wr.heap.size wr w1 := (zBa _ _).trans (b1.mono (by simp))
   have F1 : Hid (Fill w1 (w.heap.size + 1) xs.length ys) := HF.out.kept (b1'.block _ lf)
   have D1 : Hid (∀ y ∈ ys, DataB w1 (w.heap.size + 2) y) := fun y hy => (HD.out y hy).below b1'
   have N1 : Hid (((ys ++ [z]).flatMap RV.blk).Nodup) := blk_apart HD.out HN.out DZ (by simp)
   have W1 : Hid (Below w.heap.size w w1) := HW.out.trans (b1'.mono hsz)
   have X1 : Hid (w1.heap[w.heap.size]? = some (.cells #[.slice (some ⟨gx, 0, none⟩) xs.length s.c, .int .i64 s.since, .bool s.bad] 39 (0, 0))) := (b1'.block _ lb).trans HX.out
   have DZ' : Hid (DataB w1 (w.heap.size + 2) z) := DZ.le (by simp; omega)
   have HZK : Hid (z.key = x.key) := hzk
   obtain ⟨cur, hc, hcs, -⟩ := id F1.out
   have hL1 := F1.out.lt
   have fz : ∀ o, w1.frozen? ⟨w.heap.size + 1, o, none⟩ = false := fun o => zUf hc o
   have ce : ∀ o, w1.cell? ⟨w.heap.size + 1, o, none⟩ = cur[o]? := fun o => zCr hc
   obtain ⟨u0, h0⟩ := cells_there (cur := cur) (o := k * 9) (by omega)
   obtain ⟨u1, h1⟩ := cells_there (cur := cur) (o := k * 9 + 1) (by omega)
   obtain ⟨u2, h2⟩ := cells_there (cur := cur) (o := k * 9 + 2) (by omega)
   obtain ⟨u3, h3⟩ := cells_there (cur := cur) (o := k * 9 + 3) (by omega)
   obtain ⟨u4, h4⟩ := cells_there (cur := cur) (o := k * 9 + 4) (by omega)
   obtain ⟨u5, h5⟩ := cells_there (cur := cur) (o := k * 9 + 5) (by omega)
   obtain ⟨u6, h6⟩ := cells_there (cur := cur) (o := k * 9 + 6) (by omega)
   obtain ⟨u7, h7⟩ := cells_there (cur := cur) (o := k * 9 + 7) (by omega)
   obtain ⟨u8, h8⟩ := cells_there (cur := cur) (o := k * 9 + 8) (by omega)
   have q0 := (ce _).trans h0
   have q1 := (ce _).trans h1
   have q2 := (ce _).trans h2
   have q3 := (ce _).trans h3
   have q4 := (ce _).trans h4
   have q5 := (ce _).trans h5
   have q6 := (ce _).trans h6
   have q7 := (ce _).trans h7
   have q8 := (ce _).trans h8
   clear h0 h1 h2 h3 h4 h5 h6 h7 h8 ce hc hcs DZ b1 b1' hzk HF HD HN HX c0 c1 c2 c3 c4 c5 c6 c7 c8 hmk KC
   go_wp2
   go_roundw
   case rel =>
    have hyk := HY.out
    have P := F1.out.put (by omega) z
    rw [hyk] at P
    have nb : ∀ y, DataB w1 (w.heap.size + 2) y → DataB (((((((((w1.setCell ⟨w.heap.size + 1, k * 9, none⟩ (.int .i64 z.p.src)).setCell ⟨w.heap.size + 1, k * 9 + 1, none⟩ (.int .i64 z.p.dst)).setCell ⟨w.heap.size + 1, k * 9 + 2, none⟩ (.int .i64 z.p.kind)).setCell ⟨w.heap.size + 1, k * 9 + 3, none⟩ (.int .i64 z.p.id)).setCell ⟨w.heap.size + 1, k * 9 + 4, none⟩ (.int .i64 z.p.hops)).setCell ⟨w.heap.size + 1, k * 9 + 5, none⟩ (.bool z.p.whole)).setCell ⟨w.heap.size + 1, k * 9 + 6, none⟩ (.int .i64 z.p.off)).setCell ⟨w.heap.size + 1, k * 9 + 7, none⟩ (.bool z.p.more)).setCell ⟨w.heap.size + 1, k * 9 + 8, none⟩ (.slice z.a z.zs.length z.c)) (w.heap.size + 2) y := fun y hy => hy.kept fun b hb => heap_far9 _ _ _ _ (by have := (hy.blk b hb).1; omega) _ _ _ _ _ _ _ _ _
    refine ⟨k + 1, ys ++ [z], by omega, by go_num, (show _ = _ by rw [List.length_append, hyk]; rfl), (show _ = _ by rw [List.map_append, HK.out, List.take_add_one, HXK.out]; simp [HZK.out]), P, (fun y hy => ?_), N1.out, below_far9 W1.out (by omega) _ _ _ _ _ _ _ _ _, (heap_far9 _ _ _ _ (by omega) _ _ _ _ _ _ _ _ _).trans X1.out⟩
    rcases List.mem_append.1 hy with h1 | h1
    ·exact nb y (D1.out y h1)
    ·rw [List.mem_singleton.1 h1]
     exact nb z DZ'.out
   case measure => simp [intOf]; omega
  ·obtain rfl : k = xs.length := by omega
   have fz : ∀ o, wr.frozen? ⟨w.heap.size, o, none⟩ = false := fun o => zUf HX.out o
   have q0 : wr.cell? ⟨w.heap.size, 0, none⟩ = some (.slice (some ⟨gx, 0, none⟩) xs.length s.c) := zCr HX.out
   go_wp2
   go_ret
   have hkey : ys.map RV.key = xs.map RV.key := by rw [HK.out, List.take_length]
   refine ⟨⟨some ⟨w.heap.size + 1, 0, none⟩, xs.length, ys, s.since, s.bad⟩, rfl, ?_, ?_, ⟨⟨w.heap.size + 1, rfl, by omega, HF.out.row.kept (zHs (by simp))⟩, fun y hy => ((HD.out y hy).kept fun b hb => zHs (by have := ((HD.out y hy).blk b hb).1; simp only; omega)).le (by omega), ?_, ?_, ?_⟩, ?_, Below.setCell HW.out (Nat.le_refl _) _⟩
   ·rw [set_at HX.out]
    show _ = some (Obj.cells (scells (.slice _ ys.length _) _ _) _ _)
    rw [HY.out]
    rfl
   ·show (_, _, _) = (_, _, _)
    rw [hkey, HXS.out]
   ·show ys.length ≤ _
    rw [HY.out]; exact hsl
   ·show ys.length ≤ xs.length
    rw [HY.out]; omega
   ·show xs.length ≤ _
    omega
   ·show ((some (w.heap.size + 1)).toList ++ ys.flatMap RV.blk).Nodup
    simp only [Option.toList_some, List.singleton_append, List.nodup_cons]
    refine ⟨fun hm => ?_, HN.out⟩
    obtain ⟨y, hy, hb⟩ := List.mem_flatMap.1 hm
    have := ((HD.out y hy).blk _ hb).1
    omega
end Go.Proofs.YtjbkgmbakjnlhaaGreatDoor
namespace Go.Proofs.YtjbkgmbakjnlhaaGreatDoor
set_option maxRecDepth 100000
open Go.RowKit
theorem own_at {w : World} {lo e size n : Nat} {v : Value} {xs : List Value} (h : w.ownsRow lo e size v n xs) : ∀ k, v.ownBlock = some k → ∃ cur, w.heap[k]? = some (.cells cur e (0, 0)) := by
 intro k hk
 rcases h.2 with ⟨hv, _⟩ | ⟨g, cap, cur, hv, _, hh, _⟩
 ·rw [hv] at hk; cases hk
 ·rw [hv] at hk
  cases hk
  exact ⟨cur, hh⟩
theorem rcells_one (y : RV) : ∀ u ∈ y.cells, u.oneCell' = true := by
 intro u hu
 simp [RV.cells, pcells] at hu
 rcases hu with rfl | rfl | rfl | rfl | rfl | rfl | rfl | rfl | rfl <;> rfl
theorem rcells_new (w : World) (y : RV) : ∀ j u, y.cells[j]? = some u → (w.alloc (.cells (pcells y.p (.slice y.a y.zs.length y.c)) 29)).cell? ((Addr.mk w.heap.size 0 none).add j) = some u := by
 intro j u hu
 rw [add_none, Nat.zero_add, zCr (heap_new _ _ _ rfl), ← Array.getElem?_toList]
 exact hu
end Go.Proofs.YtjbkgmbakjnlhaaGreatDoor
namespace Go.Proofs.YtjbkgmbakjnlhaaGreatDoor
set_option maxRecDepth 100000
theorem alikeB_iff (x y : PB) : alikeB x y = true ↔ okB x.1 x.2.length = true ∧ okB y.1 y.2.length = true ∧ x.1.src = y.1.src ∧ x.1.dst = y.1.dst ∧ x.1.kind = y.1.kind ∧ x.1.id = y.1.id := by
 unfold alikeB
 simp only [Bool.and_eq_true, beq_iff_eq]
 constructor
 ·rintro ⟨⟨⟨⟨⟨a, b⟩, c⟩, d⟩, e⟩, f⟩; exact ⟨a, b, c, d, e, f⟩
 ·rintro ⟨a, b, c, d, e, f⟩; exact ⟨⟨⟨⟨⟨a, b⟩, c⟩, d⟩, e⟩, f⟩
theorem alikeL_iff (L : List PB) : alikeL L = true ↔ L ≠ [] ∧ L.length ≤ 40 ∧ ∀ x ∈ L, ∀ y ∈ L, alikeB x y = true := by
 match L with
 | [] => simp [alikeL]
 | x :: r =>
  unfold alikeL
  rw [Bool.and_eq_true, List.all_eq_true]
  constructor
  ·rintro ⟨h1, h2⟩
   refine ⟨by simp, by simpa using h1, fun a ha b hb => ?_⟩
   have p := (alikeB_iff x a).1 (h2 a ha)
   have q := (alikeB_iff x b).1 (h2 b hb)
   exact (alikeB_iff a b).2 ⟨p.2.1, q.2.1, by rw [← p.2.2.1, q.2.2.1], by rw [← p.2.2.2.1, q.2.2.2.1], by rw [← p.2.2.2.2.1, q.2.2.2.2.1], by rw [← p.2.2.2.2.2, q.2.2.2.2.2]⟩
  ·rintro ⟨_, h1, h2⟩
   exact ⟨by simpa using h1, fun y hy => h2 x (List.mem_cons_self ..) y hy⟩
theorem disagreeL_iff (L : List PB) : disagreeL L = true ↔ ∃ x ∈ L, ∃ y ∈ L, againstB x y = true := by
 unfold disagreeL
 simp only [List.any_eq_true]
theorem agree_of {L : List PB} (h : disagreeL L = false) {x y : PB} (hx : x ∈ L) (hy : y ∈ L) : againstB x y = false := by
 cases e : againstB x y with
 | false => rfl
 | true =>
  have := (disagreeL_iff L).2 ⟨x, hx, y, hy, e⟩
  rw [h] at this
  cases this
theorem bytes_eq {x y : PB} (h : againstB x y = false) {j : Int} (hx : hasB x j = true) (hy : hasB y j = true) : byteAt x j = byteAt y j := by
 unfold againstB at h
 rw [Bool.or_eq_false_iff, List.any_eq_false] at h
 unfold hasB endOf at hx
 simp at hx
 have e : x.1.off + (((j - x.1.off).toNat : Nat) : Int) = j := by omega
 have h1 := h.1 (j - x.1.off).toNat (List.mem_range.2 (by omega))
 rw [e, hy] at h1
 simpa using h1
theorem join_one (L : List PB) : (joinL L).1 = 1 ↔ alikeL L = false := by
 unfold joinL
 cases alikeL L with
 | false => simp
 | true =>
  simp only [if_true]
  repeat' split
  all_goals simp
theorem join_two (L : List PB) : (joinL L).1 = 2 ↔ alikeL L = true ∧ disagreeL L = true := by
 unfold joinL
 cases alikeL L with
 | false => simp
 | true =>
  cases disagreeL L with
  | true => simp
  | false =>
   simp only [if_true]
   repeat' split
   all_goals simp_all
end Go.Proofs.YtjbkgmbakjnlhaaGreatDoor
namespace Go.Proofs.YtjbkgmbakjnlhaaGreatDoor
set_option maxRecDepth 100000
open Go.RowKit
def sinceOk (now : Int) (s : SV) : Prop := s.since ≤ now ∧ 0 ≤ s.since ∧ now - 6 < s.since
def waits (s : SV) : Prop := (joinL (s.xs.map RV.key)).1 = 3 ∧ (s.bad = true → s.xs.length = 1)
def firstAlike (s t : SV) : Prop := ∃ x y, s.xs[0]? = some x ∧ t.xs[0]? = some y ∧ alikeB x.key y.key = true
theorem firstAlike_symm {s t : SV} (h : firstAlike s t) : firstAlike t s := by
 obtain ⟨x, y, h1, h2, h3⟩ := h
 refine ⟨y, x, h2, h1, ?_⟩
 rw [alikeB_iff] at h3 ⊢
 obtain ⟨a, b, c, d, e, f⟩ := h3
 exact ⟨b, a, c.symm, d.symm, e.symm, f.symm⟩
def SaysB (Q : Prop) (w : World) (e : Ending) (w' : World) : Prop := ∃ b : Bool, e = .returned (.bool b) ∧ (b = true ↔ Q) ∧ Below w.heap.size w w'
theorem SaysB.mk {Q : Prop} {w w' : World} (b : Bool) (h : b = true ↔ Q) (hb : Below w.heap.size w w') : SaysB Q w (.returned (.bool b)) w' := ⟨b, rfl, h, hb⟩
def rises (ss : List SV) (j : Nat) (s : SV) : Prop := ∀ r, 0 < j → ss[j - 1]? = some r → r.since ≤ s.since
def lone (ss : List SV) (j : Nat) (s : SV) : Prop := ∀ i r, i < j → ss[i]? = some r → ¬ firstAlike r s
def benchOk (now : Int) (ss : List SV) : Prop := (0 ≤ now ∧ now ≤ 1000000) ∧ ss.length ≤ 4 ∧ ∀ (j : Nat) s, ss[j]? = some s → sinceOk now s ∧ waits s ∧ rises ss j s ∧ lone ss j s
theorem waits_first {s : SV} (h : waits s) : ∃ x, s.xs[0]? = some x := by
 cases hx : s.xs with
 | nil =>
  have := h.1
  rw [hx] at this
  cases this
 | cons x r => exact ⟨x, rfl⟩
set_option maxHeartbeats 3200000 in
theorem sincesHold_any (now : Int) (g cl : Nat) (ss : List SV) (w : World) (hL : SL w g ss) (h0 : 0 ≤ now) (h1 : now ≤ 1000000) (hm : ss.length ≤ 4) :
  Calls Tryz.prog 38 #[.agg #[.int .i64 now, .slice (some ⟨g, 0, none⟩) ss.length cl]] w (SaysB (∀ (j : Nat) s, ss[j]? = some s → sinceOk now s ∧ rises ss j s) w) := by
 have HL : Hid (SL w g ss) := hL
 clear hL
 have KC : Hid (∀ (n lo : Int) (W : World), Calls Tryz.prog 37 #[.int .i64 n, .int .i64 lo, .int .i64 now] W fun e w' => e = .returned (.int .i64 (clampI n lo now)) ∧ w' = W) := fun n lo W => clamp_any n lo now W
 by_cases hmx : now - 6 + 1 ≤ 0
 all_goals
  go_enter Tryz.func38, Tryz.ntmps38
  go_wp2
  go_loopw [3, 14] (fun l i wr => ∃ (k : Nat) (L : Int), k ≤ ss.length ∧ i = .int .i64 k ∧ l = .int .i64 L ∧ (0 ≤ L ∧ now - 6 < L ∧ L ≤ now) ∧ Hid (∀ r, 0 < k → ss[k - 1]? = some r → L = r.since) ∧ Hid (k = 0 → L = 0 ∨ L = now - 5) ∧ Hid (∀ j s, j < k → ss[j]? = some s → sinceOk now s ∧ rises ss j s) ∧ Hid (Below w.heap.size w wr) ∧ Hid (wr.cell? ⟨w.heap.size, 0, none⟩ = some (.int .i64 now) ∧ w.heap.size < wr.heap.size)) (fun _ i _ => ss.length - (intOf i).toNat)
  case atStart => exact ⟨0, _, by omega, rfl, rfl, ⟨by omega, by omega, by omega⟩, fun r h => by omega, fun _ => by omega, fun j s h => by omega, zBa _ _, by go_simp, by simp⟩
  case round =>
   obtain ⟨k, L, hk, rfl, rfl, ⟨hL0, hL1, hL2⟩, HP, HZ, HC, HB, HN⟩ := hrel
   obtain ⟨n0, n1⟩ := HN.out
   by_cases hlt : k < ss.length
   ·obtain ⟨x, hx⟩ := get_of_lt hlt
    have hi : (k : Int) < (ss.length : Int) := by omega
    have Lr := HL.out.below HB.out
    obtain ⟨c0, c1, c2⟩ := Lr.elem k x hx
    have hgr := Lr.lt
    have HX : Hid (ss[k]? = some x) := hx
    clear hx Lr
    have KX : Hid (∀ W : World, Calls Tryz.prog 37 #[.int .i64 x.since, .int .i64 L, .int .i64 now] W fun e w' => e = .returned (.int .i64 (clampI x.since L now)) ∧ w' = W) := fun W => KC.out _ _ W
    have HG : Hid (∀ s, ss[k]? = some s → (sinceOk now s ∧ rises ss k s ↔ L ≤ x.since ∧ x.since ≤ now)) := fun s hs => by
     have e : s = x := Option.some.inj (hs.symm.trans HX.out)
     subst e
     constructor
     ·rintro ⟨⟨a, b, c⟩, d⟩
      refine ⟨?_, a⟩
      rcases Nat.eq_zero_or_pos k with h | h
      ·rcases HZ.out h with h' | h' <;> omega
      ·obtain ⟨r, hr⟩ := get_of_lt (show k - 1 < ss.length by omega)
       have := HP.out r h hr
       have := d r h hr
       omega
     ·rintro ⟨a, b⟩
      refine ⟨⟨b, by omega, by omega⟩, fun r h hr => ?_⟩
      have := HP.out r h hr
      omega
    by_cases hin : L ≤ x.since ∧ x.since ≤ now
    ·have hcl : clampI x.since L now = x.since := by unfold clampI; split <;> split <;> omega
     rw [hcl] at KX
     have hne : (x.since != x.since) = false := by simp
     clear hcl
     go_wp2
     go_region_held3 (fun w' => w'.cell? ⟨wr.heap.size, 1, none⟩ = some (.int .i64 x.since) ∧ w'.cell? ⟨w.heap.size, 0, none⟩ = some (.int .i64 now)) (go_keep)
      (first
       | (go_at_call 37; (with_reducible refine (KX.out _).mono ?_); rintro e w1 ⟨rfl, hw1⟩; subst hw1))
     go_wp2
     go_roundw
     case rel =>
      refine ⟨k + 1, x.since, by omega, by go_num, rfl, ⟨by omega, by omega, by omega⟩, fun r _ hr => ?_, fun h => by omega, fun j s hj hs => ?_, (HB.out.alloc (HB.out.size) _).drew, ?_, ?_⟩
      ·rw [Nat.add_sub_cancel, HX.out] at hr
       exact congrArg SV.since (Option.some.inj hr)
      ·rcases Nat.lt_or_ge j k with h | h
       ·exact HC.out j s h hs
       ·obtain rfl : j = k := by omega
        exact (HG.out s hs).2 hin
      ·go_simp
      ·simp; omega
     case measure => simp [intOf]; omega
    ·have hcl : (x.since != clampI x.since L now) = true := by
      rw [bne_iff_ne]
      unfold clampI
      split <;> split <;> omega
     go_wp2
     go_region_held3 (fun w' => w'.cell? ⟨wr.heap.size, 1, none⟩ = some (.int .i64 x.since) ∧ w'.cell? ⟨w.heap.size, 0, none⟩ = some (.int .i64 now)) (go_keep)
      (first
       | (go_at_call 37; (with_reducible refine (KX.out _).mono ?_); rintro e w1 ⟨rfl, hw1⟩; subst hw1))
     go_wp2
     go_ret
     refine (SaysB.mk false ⟨fun h => by simp at h, fun h => (hin ((HG.out x HX.out).1 (h k x HX.out))).elim⟩ ((HB.out.alloc (HB.out.size) _).drew))
   ·obtain rfl : k = ss.length := by omega
    go_wp2
    go_ret
    refine (SaysB.mk true ⟨fun _ j s hs => HC.out j s (by rw [List.getElem?_eq_some_iff] at hs; exact hs.1) hs, fun _ => rfl⟩ (HB.out))
end Go.Proofs.YtjbkgmbakjnlhaaGreatDoor
