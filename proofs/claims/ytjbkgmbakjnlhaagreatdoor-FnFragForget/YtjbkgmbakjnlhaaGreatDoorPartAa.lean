import Derived.Test.YtjbkgmbakjnlhaaGreatDoorProg
import Derived.WalkKit
import Derived.WalkSpells
import Derived.WalkLawsBesides
import Derived.Deep.QuietTactic
import Derived.BigQuiet
import Derived.Deep.OwnRows
import Derived.Lib.SmallJoins
import Derived.Deep.RegionLaw
import Derived.Deep.RegionHeld3
import Derived.Maps.AppendAt
namespace Go.Proofs.YtjbkgmbakjnlhaaGreatDoor
set_option maxRecDepth 100000
open Go.RowKit
theorem ret_int {k : IntKind} {a b : Int} (h : a = b) : Ending.returned (.int k a) = .returned (.int k b) := by rw [h]
theorem ret_bool {a b : Bool} (h : a = b) : Ending.returned (.bool a) = .returned (.bool b) := by rw [h]
def inB (n lo hi : Int) : Bool := decide (lo ≤ n) && decide (n ≤ hi)
def clampI (n lo hi : Int) : Int := if hi < (if n < lo then lo else n) then hi else (if n < lo then lo else n)
theorem clamp_eq (n lo hi : Int) (h : lo ≤ hi) : (n == clampI n lo hi) = inB n lo hi := by
 unfold clampI inB
 rw [Bool.eq_iff_iff]
 simp only [beq_iff_eq, Bool.and_eq_true, decide_eq_true_eq]
 repeat' split
 all_goals omega
set_option maxHeartbeats 400000 in
theorem l1In_any (n lo hi : Int) (w : World) :
  Calls Tryz.prog 56 #[.int .i64 n, .int .i64 lo, .int .i64 hi] w fun e w' => e = .returned (.bool (inB n lo hi)) ∧ w' = w := by
 by_cases h1 : lo ≤ n <;> by_cases h2 : n ≤ hi
 all_goals
  go_enter Tryz.func56, Tryz.ntmps56
  go_wp2
  go_ret
  refine ⟨?_, rfl⟩
  simp [inB, h1, h2]
set_option maxHeartbeats 400000 in
theorem clamp_any (n lo hi : Int) (w : World) :
  Calls Tryz.prog 37 #[.int .i64 n, .int .i64 lo, .int .i64 hi] w fun e w' => e = .returned (.int .i64 (clampI n lo hi)) ∧ w' = w := by
 go_enter Tryz.func37, Tryz.ntmps37
 go_wp2
 all_goals
  go_ret
  refine ⟨ret_int ?_, rfl⟩
  unfold clampI
  repeat' split
  all_goals first | rfl | (simp_all; done) | (simp_all; omega) | omega
def cellsOf (zs : List Int) : Array Value := (zs.map (Value.int .u8)).toArray
def cellsTo (zs : List Int) (k : Nat) : Array Value := ((zs.take k).map (Value.int .u8) ++ List.replicate (zs.length - k) (Value.int .u8 0)).toArray
theorem cellsTo_zero (zs : List Int) : cellsTo zs 0 = madeCells #[.int .u8 0] zs.length := by
 apply Array.ext_getElem?
 intro i
 by_cases h : i < zs.length
 ·simp [cellsTo, madeCells, h, Nat.mod_one]
 ·simp [cellsTo, madeCells, h]
theorem cellsTo_all (zs : List Int) : cellsTo zs zs.length = cellsOf zs := by
 simp [cellsTo, cellsOf]
theorem cellsTo_succ (zs : List Int) (k : Nat) (h : k < zs.length) : (cellsTo zs k).setIfInBounds k (.int .u8 (zs.getD k 0)) = cellsTo zs (k + 1) := by
 apply Array.ext_getElem?
 intro i
 simp only [cellsTo, List.setIfInBounds_toArray, List.getElem?_toArray]
 rw [List.getElem?_set]
 have hl : (List.map (Value.int IntKind.u8) (List.take k zs)).length = k := by simp; omega
 have hl' : (List.map (Value.int IntKind.u8) (List.take (k + 1) zs)).length = k + 1 := by simp; omega
 rcases Nat.lt_trichotomy i k with hi | hi | hi
 ·rw [if_neg (by omega), List.getElem?_append_left (by omega), List.getElem?_append_left (by omega)]
  simp [hi, show i < k + 1 by omega]
 ·subst hi
  rw [if_pos rfl, if_pos (by simp; omega), List.getElem?_append_left (by omega)]
  simp [List.getElem?_eq_getElem h]
 ·rw [if_neg (by omega), List.getElem?_append_right (by omega), List.getElem?_append_right (by omega), hl, hl']
  by_cases h2 : i < zs.length
  ·simp [show i - k < zs.length - k by omega, show i - (k + 1) < zs.length - (k + 1) by omega]
  ·simp [show ¬ i - k < zs.length - k by omega, show ¬ i - (k + 1) < zs.length - (k + 1) by omega]
theorem cellsTo_at (zs : List Int) (k : Nat) (h : k < zs.length) : (cellsTo zs k)[k]? = some (.int .u8 0) := by
 have hl : (List.map (Value.int IntKind.u8) (List.take k zs)).length = k := by simp; omega
 simp only [cellsTo, List.getElem?_toArray]
 rw [List.getElem?_append_right (by omega), hl, List.getElem?_replicate, if_pos (by omega)]
theorem Tryz.info5 : (Tryz.prog.info? 5).map (fun i => (i.zero, i.size, i.bytes)) = some (some (.int .u8 0), 1, 1) := by kernel_rfl
def RdB (w : World) (a : Option Addr) (len : Nat) (zs : List Int) : Prop :=
 zs.length = len ∧ (len = 0 ∨ ∃ b off, a = some ⟨b, off, none⟩ ∧ b < w.heap.size ∧ ∀ k, k < len → w.cell? ⟨b, off + k, none⟩ = some (.int .u8 (zs.getD k 0)))
theorem RdB.below {w w' : World} {a : Option Addr} {len : Nat} {zs : List Int} (h : RdB w a len zs) (hb : Below w.heap.size w w') : RdB w' a len zs := by
 refine ⟨h.1, h.2.imp id ?_⟩
 rintro ⟨b, off, ha, hlt, hc⟩
 exact ⟨b, off, ha, Nat.lt_of_lt_of_le hlt hb.size, fun k hk => (hb.cell (p := ⟨b, off + k, none⟩) hlt).trans (hc k hk)⟩
theorem zA {α : Type} (l : List α) (i : Nat) (a : α) : l.toArray.setIfInBounds i a = (l.set i a).toArray := List.setIfInBounds_toArray l i a
theorem zB {α : Type} (x y : α) (l : List α) : (x :: l).set 0 y = y :: l := rfl
theorem zC {α : Type} (x y : α) (l : List α) (n : Nat) : (x :: l).set (n + 1) y = x :: l.set n y := rfl
theorem heap_new (w : World) (o : Obj) (n : Nat) (h : n = w.heap.size) : (w.alloc o).heap[n]? = some o := by
 subst h
 show (w.heap.push o)[w.heap.size]? = _
 simp
structure Pk where
 src : Int
 dst : Int
 kind : Int
 id : Int
 hops : Int
 whole : Bool
 off : Int
 more : Bool
def Pk.val (p : Pk) (v : Value) : Value := .agg #[.int .i64 p.src, .int .i64 p.dst, .int .i64 p.kind, .int .i64 p.id, .int .i64 p.hops, .bool p.whole, .int .i64 p.off, .bool p.more, v]
theorem zBa (w : World) (o : Obj) : Below w.heap.size w (w.alloc o) := Joins.below_alloc1 w o
structure Boxed (w : World) (b : Nat) (p : Pk) (v : Value) : Prop where
 lt : b < w.heap.size
 c0 : w.cell? ⟨b, 0, none⟩ = some (.int .i64 p.src)
 c1 : w.cell? ⟨b, 1, none⟩ = some (.int .i64 p.dst)
 c2 : w.cell? ⟨b, 2, none⟩ = some (.int .i64 p.kind)
 c3 : w.cell? ⟨b, 3, none⟩ = some (.int .i64 p.id)
 c4 : w.cell? ⟨b, 4, none⟩ = some (.int .i64 p.hops)
 c5 : w.cell? ⟨b, 5, none⟩ = some (.bool p.whole)
 c6 : w.cell? ⟨b, 6, none⟩ = some (.int .i64 p.off)
 c7 : w.cell? ⟨b, 7, none⟩ = some (.bool p.more)
 c8 : w.cell? ⟨b, 8, none⟩ = some v
theorem Boxed.below {w w' : World} {b : Nat} {p : Pk} {v : Value} (h : Boxed w b p v) (hb : Below w.heap.size w w') : Boxed w' b p v :=
 have e : ∀ o, w'.cell? ⟨b, o, none⟩ = w.cell? ⟨b, o, none⟩ := fun o => hb.cell (p := ⟨b, o, none⟩) h.lt
 ⟨Nat.lt_of_lt_of_le h.lt hb.size, (e 0).trans h.c0, (e 1).trans h.c1, (e 2).trans h.c2, (e 3).trans h.c3, (e 4).trans h.c4, (e 5).trans h.c5, (e 6).trans h.c6, (e 7).trans h.c7, (e 8).trans h.c8⟩
def pcells (p : Pk) (v : Value) : Array Value := #[.int .i64 p.src, .int .i64 p.dst, .int .i64 p.kind, .int .i64 p.id, .int .i64 p.hops, .bool p.whole, .int .i64 p.off, .bool p.more, v]
theorem Boxed.new (w : World) (p : Pk) (v : Value) (t : TypeId) : Boxed (w.alloc (.cells (pcells p v) t)) w.heap.size p v := by
 have e : ∀ o, (w.alloc (.cells (pcells p v) t)).cell? ⟨w.heap.size, o, none⟩ = (pcells p v)[o]? := fun o => World.cell?_alloc_at _ _ _ _ rfl
 exact ⟨by simp, e 0, e 1, e 2, e 3, e 4, e 5, e 6, e 7, e 8⟩
theorem Boxed.newAt (w : World) (n : Nat) (p : Pk) (v : Value) (t : TypeId) (h : n = w.heap.size) : Boxed (w.alloc (.cells (pcells p v) t)) n p v := by
 subst h; exact Boxed.new w p v t
theorem Boxed.upto {w w' : World} {B b : Nat} {p : Pk} {v : Value} (h : Boxed w b p v) (hb : Below B w w') (hB : b < B) : Boxed w' b p v :=
 have e : ∀ o, w'.cell? ⟨b, o, none⟩ = w.cell? ⟨b, o, none⟩ := fun o => hb.cell (p := ⟨b, o, none⟩) hB
 ⟨Nat.lt_of_lt_of_le h.lt hb.size, (e 0).trans h.c0, (e 1).trans h.c1, (e 2).trans h.c2, (e 3).trans h.c3, (e 4).trans h.c4, (e 5).trans h.c5, (e 6).trans h.c6, (e 7).trans h.c7, (e 8).trans h.c8⟩
theorem draw1 (w : World) : Below w.heap.size w w.drew := (Below.refl _ _).drew
def zeroPk : Pk := ⟨0, 0, 0, 0, 0, false, 0, false⟩
theorem bcell {B : Nat} {W w1 : World} (hb : Below B W w1) : (∀ b o, b < B → w1.cell? ⟨b, o, none⟩ = W.cell? ⟨b, o, none⟩) ∧ (∀ b o, b < B → w1.frozen? ⟨b, o, none⟩ = W.frozen? ⟨b, o, none⟩) :=
 ⟨fun b o h => hb.cell (p := ⟨b, o, none⟩) h, fun b o h => hb.frozen (p := ⟨b, o, none⟩) h⟩
theorem own9 {w : World} {base : Nat} {e : TypeId} {size n : Nat} {v : Value} {xs : List Value} {b : Nat} (h : w.ownsRow base e size v n xs) (hb : b < base) (x0 x1 x2 x3 x4 x5 x6 x7 x8 : Value) :
  (((((((((w.setCell ⟨b, 0, none⟩ x0).setCell ⟨b, 1, none⟩ x1).setCell ⟨b, 2, none⟩ x2).setCell ⟨b, 3, none⟩ x3).setCell ⟨b, 4, none⟩ x4).setCell ⟨b, 5, none⟩ x5).setCell ⟨b, 6, none⟩ x6).setCell ⟨b, 7, none⟩ x7).setCell ⟨b, 8, none⟩ x8).ownsRow base e size v n xs :=
 (ownsRow_setCell_below (ownsRow_setCell_below (ownsRow_setCell_below (ownsRow_setCell_below (ownsRow_setCell_below (ownsRow_setCell_below (ownsRow_setCell_below (ownsRow_setCell_below (ownsRow_setCell_below h hb _) hb _) hb _) hb _) hb _) hb _) hb _) hb _) hb _)
theorem below9 {B : Nat} {a w : World} {b : Nat} (h : Below B a w) (hb : B ≤ b) (x0 x1 x2 x3 x4 x5 x6 x7 x8 : Value) :
  Below B a (((((((((w.setCell ⟨b, 0, none⟩ x0).setCell ⟨b, 1, none⟩ x1).setCell ⟨b, 2, none⟩ x2).setCell ⟨b, 3, none⟩ x3).setCell ⟨b, 4, none⟩ x4).setCell ⟨b, 5, none⟩ x5).setCell ⟨b, 6, none⟩ x6).setCell ⟨b, 7, none⟩ x7).setCell ⟨b, 8, none⟩ x8) :=
 (Below.setCell (Below.setCell (Below.setCell (Below.setCell (Below.setCell (Below.setCell (Below.setCell (Below.setCell (Below.setCell h hb _) hb _) hb _) hb _) hb _) hb _) hb _) hb _) hb _)
theorem Boxed.of_block {w : World} {b : Nat} {p : Pk} {v : Value} {t : TypeId} {fr : Nat × Nat} (h : w.heap[b]? = some (.cells (pcells p v) t fr)) : Boxed w b p v := by
 have e : ∀ o, w.cell? ⟨b, o, none⟩ = (pcells p v)[o]? := fun o => Joins.cell_of_block h o
 refine ⟨?_, e 0, e 1, e 2, e 3, e 4, e 5, e 6, e 7, e 8⟩
 rcases Nat.lt_or_ge b w.heap.size with h' | h'
 ·exact h'
 ·rw [Array.getElem?_eq_none h'] at h; cases h
theorem heap9 (w : World) (b k : Nat) (h : k ≠ b) (x0 x1 x2 x3 x4 x5 x6 x7 x8 : Value) : (((((((((w.setCell ⟨b, 0, none⟩ x0).setCell ⟨b, 1, none⟩ x1).setCell ⟨b, 2, none⟩ x2).setCell ⟨b, 3, none⟩ x3).setCell ⟨b, 4, none⟩ x4).setCell ⟨b, 5, none⟩ x5).setCell ⟨b, 6, none⟩ x6).setCell ⟨b, 7, none⟩ x7).setCell ⟨b, 8, none⟩ x8).heap[k]? = w.heap[k]? :=
 ((Below.heap_setCell _ _ _ _ h).trans ((Below.heap_setCell _ _ _ _ h).trans ((Below.heap_setCell _ _ _ _ h).trans ((Below.heap_setCell _ _ _ _ h).trans ((Below.heap_setCell _ _ _ _ h).trans ((Below.heap_setCell _ _ _ _ h).trans ((Below.heap_setCell _ _ _ _ h).trans ((Below.heap_setCell _ _ _ _ h).trans (Below.heap_setCell _ _ _ _ h)))))))))
theorem zHs {w : World} {a : Addr} {u : Value} {k : Nat} (h : k ≠ a.block) : (w.setCell a u).heap[k]? = w.heap[k]? := Below.heap_setCell w a u k h
theorem grown_trans {a b c : World} {r : Option Nat} (h : a.grownBy b r) (k : b.grownBy c r) : a.grownBy c r :=
 ⟨k.os.trans h.os, k.tape.trans h.tape, k.output.trans h.output, Nat.le_trans h.size k.size, fun i hi hr => (k.block i (Nat.lt_of_lt_of_le hi h.size) hr).trans (h.block i hi hr)⟩
theorem grown_alloc (a : World) (o : Obj) (r : Option Nat) : a.grownBy (a.alloc o) r := ⟨rfl, rfl, rfl, by simp, fun k hk _ => Below.heap_alloc _ _ _ hk⟩
theorem below_grown {w w' : World} {r : Option Nat} {B : Nat} (h : w.grownBy w' r) (hB : B ≤ w.heap.size) (hr : ∀ k, r = some k → B ≤ k) : Below B w w' :=
 (Below.refl _ _).grown h hB hr
theorem zHa {w : World} {o : Obj} {k : Nat} (h : k < w.heap.size) : (w.alloc o).heap[k]? = w.heap[k]? := Below.heap_alloc w o k h
theorem Boxed.kept {w w' : World} {b : Nat} {p : Pk} {v : Value} (h : Boxed w b p v) (hs : w.heap.size ≤ w'.heap.size) (hk : w'.heap[b]? = w.heap[b]?) : Boxed w' b p v :=
 have e : ∀ o, w'.cell? ⟨b, o, none⟩ = w.cell? ⟨b, o, none⟩ := fun _ => World.cell?_of_block (w := w) hk
 ⟨Nat.lt_of_lt_of_le h.lt hs, (e 0).trans h.c0, (e 1).trans h.c1, (e 2).trans h.c2, (e 3).trans h.c3, (e 4).trans h.c4, (e 5).trans h.c5, (e 6).trans h.c6, (e 7).trans h.c7, (e 8).trans h.c8⟩
theorem own_kept {w w' : World} {base : Nat} {e : TypeId} {size n : Nat} {v : Value} {xs : List Value} (h : w.ownsRow base e size v n xs) (hk : ∀ k, v.ownBlock = some k → w'.heap[k]? = w.heap[k]?) : w'.ownsRow base e size v n xs := by
 refine ⟨h.1, h.2.imp id ?_⟩
 rintro ⟨g, cap, cur, hv, hg, hh, r⟩
 exact ⟨g, cap, cur, hv, hg, (hk g (by rw [hv]; rfl)).trans hh, r⟩
theorem own_lt {w : World} {base : Nat} {e : TypeId} {size n : Nat} {v : Value} {xs : List Value} (h : w.ownsRow base e size v n xs) : ∀ k, v.ownBlock = some k → base ≤ k ∧ k < w.heap.size := by
 intro k hk
 rcases h.2 with ⟨hv, _⟩ | ⟨g, cap, cur, hv, hg, hh, _⟩
 ·rw [hv] at hk; cases hk
 ·rw [hv] at hk
  cases hk
  refine ⟨hg, ?_⟩
  rcases Nat.lt_or_ge g w.heap.size with h' | h'
  ·exact h'
  ·rw [Array.getElem?_eq_none h'] at hh; cases hh
theorem own_below {w w' : World} {base : Nat} {e : TypeId} {size n : Nat} {v : Value} {xs : List Value} (h : w.ownsRow base e size v n xs) (hb : Below w.heap.size w w') : w'.ownsRow base e size v n xs :=
 own_kept h fun k hk => hb.block k (own_lt h k hk).2
theorem RdB.of_own {w : World} {base len cap : Nat} {ao : Option Addr} {zs : List Int} (hz : zs.length = len) (h : w.ownsRow base 5 1 (.slice ao len cap) len (zs.map (.int .u8))) : RdB w ao len zs := by
 refine ⟨hz, ?_⟩
 rcases h.2 with ⟨_, hn⟩ | ⟨g, c, cur, hv, hg, hh, _⟩
 ·exact Or.inl hn
 ·simp at hv
  obtain ⟨rfl, rfl⟩ := hv
  refine Or.inr ⟨g, 0, rfl, (own_lt h g rfl).2, fun k hk => ?_⟩
  rw [Nat.zero_add, h.cellAt k (by omega)]
  simp [List.getD, List.getElem?_eq_getElem (show k < zs.length by omega)]
theorem own_of_block {w : World} {g base : Nat} {zs : List Int} (hb : base ≤ g) (hz : zs.length ≤ maxLen) (h : w.heap[g]? = some (.cells (cellsOf zs) 5 (0, 0))) : w.ownsRow base 5 1 (.slice (some ⟨g, 0, none⟩) zs.length zs.length) zs.length (zs.map (.int .u8)) :=
 ⟨by simp, Or.inr ⟨g, zs.length, cellsOf zs, rfl, hb, h, Nat.le_refl _, hz, by simp [cellsOf], by simp only [cellsOf, Nat.mul_one]; exact List.take_of_length_le (by simp)⟩⟩
theorem zCr {w : World} {g j : Nat} {cs : Array Value} {t : TypeId} {fr : Nat × Nat} (h : w.heap[g]? = some (.cells cs t fr)) : w.cell? ⟨g, j, none⟩ = cs[j]? := cell_of_row w g j cs t fr h
theorem zUf {w : World} {g : Nat} {cs : Array Value} {t : TypeId} (h : w.heap[g]? = some (.cells cs t)) (i : Nat) : w.frozen? ⟨g, i, none⟩ = false := Joins.unfrozen_of_block h i
theorem own_caps {w : World} {base e size n c : Nat} {a : Option Addr} {xs : List Value} (h : w.ownsRow base e size (.slice a n c) n xs) : n ≤ c ∧ c ≤ 9223372036854775807 := by
 rcases h.2 with ⟨hv, h0⟩ | ⟨g, cap, cur, hv, _, _, hc, hm, _⟩
 ·simp at hv; omega
 ·simp at hv; unfold maxLen at hm; omega
theorem step_append_own {P : Program} {w : World} {ops : Array Oper} {o : Oper} {a : Act} {K : Act → World → Prop} {Q : Exit → Act → World → Prop} {E : Prop} (hgd : o.guard = none) (s x : Operand) (t : TypeId)
  (ho : o.op = .call { callee := .builtin .append, args := #[s, x], argTypes := #[t, t] })
  (base : Nat) (e : TypeId) (i : TypeInfo) (z : Value) (size bytes : Nat) (ht : P.underlying t = some (.slice e)) (hi : P.info? e = some i) (hz : i.zero = some z)
  (hsize : i.size = size) (hby : i.bytes = bytes) (hzs : z.cells.size = size) (hsz : 0 < size)
  (v : Value) (n : Nat) (xs : List Value) (hs : a.eval s = v) (hown : w.ownsRow base e size v n xs)
  (ad : Addr) (m c : Nat) (news : List Value) (hx : a.eval x = .slice (some ad) m c) (hl : news.length = m * size) (hnews : ∀ j u, news[j]? = some u → w.cell? (ad.add j) = some u) (h1 : ∀ u ∈ news, u.oneCell' = true)
  (h63 : n + m ≤ maxLen) (hbytes : (n + m) * bytes ≤ 140737488355328) (hbase : base ≤ w.heap.size)
  (h : ∀ v' w', w'.ownsRow base e size v' (n + m) (xs ++ news) → w.grownBy w' v.ownBlock → (v' = .slice none 0 0 ↔ v = .slice none 0 0 ∧ m = 0) → K (a.put o.dst v') w') :
  if Region.wanted o (yielded ops a.tmps) = true then Oper.wp P o a w K Q else E := by
 have hw : Region.wanted o (yielded ops a.tmps) = true := by simp [Region.wanted, hgd]
 rw [if_pos hw]
 exact wp_append_own w s x t ho base e i z size bytes ht hi hz hsize hby hzs hsz v n xs hs hown ad m c news hx hl hnews h1 h63 hbytes hbase h
theorem step_append_d {P : Program} {w : World} {ops : Array Oper} {o : Oper} {a : Act} {K : Act → World → Prop} {Q : Exit → Act → World → Prop} {E : Prop} (hgd : o.guard = none) (d : Option Tmp) (hd : o.dst = d) (s x : Operand) (t : TypeId)
  (ho : o.op = .call { callee := .builtin .append, args := #[s, x], argTypes := #[t, t] })
  (base : Nat) (e : TypeId) (i : TypeInfo) (z : Value) (size bytes : Nat) (ht : P.underlying t = some (.slice e)) (hi : P.info? e = some i) (hz : i.zero = some z)
  (hsize : i.size = size) (hby : i.bytes = bytes) (hzs : z.cells.size = size) (hsz : 0 < size)
  (v : Value) (n : Nat) (xs : List Value) (hs : a.eval s = v) (hown : w.ownsRow base e size v n xs)
  (ad : Addr) (m c : Nat) (news : List Value) (hx : a.eval x = .slice (some ad) m c) (hl : news.length = m * size) (hnews : ∀ j u, news[j]? = some u → w.cell? (ad.add j) = some u) (h1 : ∀ u ∈ news, u.oneCell' = true)
  (h63 : n + m ≤ maxLen) (hbytes : (n + m) * bytes ≤ 140737488355328) (hbase : base ≤ w.heap.size)
  (h : ∀ v' w', w'.ownsRow base e size v' (n + m) (xs ++ news) → w.grownBy w' v.ownBlock → (v' = .slice none 0 0 ↔ v = .slice none 0 0 ∧ m = 0) → K (a.put d v') w') :
  if Region.wanted o (yielded ops a.tmps) = true then Oper.wp P o a w K Q else E := by
 subst hd
 exact step_append_own hgd s x t ho base e i z size bytes ht hi hz hsize hby hzs hsz v n xs hs hown ad m c news hx hl hnews h1 h63 hbytes hbase h
theorem take_held {P : Program} {md : Region.Mode} {ops : Array Oper} {Q : Exit → Act → World → Prop} {S : World → Prop} {fuel : Nat} {listed : Array Bool} {a : Act} {w : World} {oi : Oper} (i : Nat) (d : Option Tmp) (v : Value) (hi : ops[i]? = some oi) (hd : oi.dst = d)
  (hs : Region.noSelect ops = true) (hf : Region.free md ops listed i = true) (hr : (Region.ready md ops listed).contains i = true)
  (hQ : ∀ c a w, Q (.panic c) (a.put d v) w → Q (.panic c) a w) (hw : Region.wanted oi (yielded ops a.tmps) = true) (hy : ∀ w, S w → (execOp a.eval oi).run P w = .ok (.value v) w) (hS : S w)
  (h : wpAnyH P md ops Q S fuel (listed.setIfInBounds i true) (a.put d v) w) : wpAnyH P md ops Q S (fuel + 1) listed a w := by
 subst hd
 exact wpAnyH_take hi hs hf hr hQ (Or.inl ⟨hw, hy⟩) hS h
theorem form_of {w : World} {base e size n : Nat} {v : Value} {xs : List Value} (h : w.ownsRow base e size v n xs) (hn : v = .slice none 0 0 → False) : ∃ g c, v = .slice (some ⟨g, 0, none⟩) n c := by
 rcases Joins.ownsRow_forms h with h | h
 ·exact absurd h.1 hn
 ·exact h
theorem zRd {P : Program} {ops : Array Oper} {Q : Exit → Act → World → Prop} {md : Region.Mode} {S : World → Prop} {fuel : Nat} {listed : Array Bool} {a : Act} {w : World} (i : Nat) {o : Oper} (hr : Region.ready md ops listed = [i]) (ho : ops[i]? = some o)
  (h : ∀ K' : Act → World → Prop, Shut (∀ (a : Act) (w : World), S w → (S w → wpAnyH P md ops Q S fuel (listed.setIfInBounds i true) a w) → K' a w) → if Region.wanted o (yielded ops a.tmps) = true then Oper.wp P o a w K' Q else K' (a.put o.dst undef) w) : wpAnyH P md ops Q S (fuel + 1) listed a w := wpAnyH_ready hr (by simp) (AllReadyH.cons ho h AllReadyH.nil)
theorem zTk {P : Program} {md : Region.Mode} {ops : Array Oper} {Q : Exit → Act → World → Prop} {S : World → Prop} {fuel : Nat} {listed : Array Bool} {a : Act} {w : World} {oi : Oper} (i d : Nat) (v : Value) (hi : ops[i]? = some oi) (hy : ∀ w, S w → (execOp a.eval oi).run P w = .ok (.value v) w) (hS : S w)
  (h : wpAnyH P md ops Q S fuel (listed.setIfInBounds i true) (a.put (some d) v) w) (hd : oi.dst = some d := by rfl) (hs : Region.noSelect ops = true := by kernel_rfl) (hf : Region.free md ops listed i = true := by kernel_rfl) (hr : (Region.ready md ops listed).contains i = true := by kernel_rfl)
  (hQ : ∀ c a w, Q (.panic c) (a.put (some d) v) w → Q (.panic c) a w := by exact fun _ _ _ h => h) (hw : Region.wanted oi (yielded ops a.tmps) = true := by rfl) : wpAnyH P md ops Q S (fuel + 1) listed a w := take_held i (some d) v hi hd hs hf hr hQ hw hy hS h
section inv
variable {P : Program} {ops : Array Oper} {Q : Exit → Act → World → Prop} {md : Region.Mode} {S : World → Prop}
theorem step_call {o : Oper} {a : Act} {w : World} {K : Act → World → Prop} {E : Prop} (hg : o.guard = none) (d : Tmp) (hd : o.dst = some d) (f : FuncId) (args : Array Value) (hrun : (execOp a.eval o).run P w = .ok (.enter f args) w)
  (h : Calls P f args w (fun e w' => ∃ r, e = .returned r ∧ K (a.put (some d) r) w')) : if Region.wanted o (yielded ops a.tmps) = true then Oper.wp P o a w K Q else E := by
 rw [if_pos (by simp [Region.wanted, hg])]
 unfold Oper.wp
 rw [hrun, Oper.upon_enter, hd]
 refine h.mono fun e w'' hh => ?_
 obtain ⟨r, rfl, hk⟩ := hh
 exact hk
end inv
section late
variable {P : Program} {ops : Array Oper} {Q : Exit → Act → World → Prop} {md : Region.Mode} {S : World → Prop}
def waitsOn (md : Region.Mode) (ops : Array Oper) (j i : Nat) : Bool := (ops[j]?).any fun o => o.after.any fun e => Region.binds md e && e.on == i
def lateB (md : Region.Mode) (ops : Array Oper) (j : Nat) : Bool := (List.range ops.size).all fun i => i == j || waitsOn md ops j i || waitsOn md ops i j
theorem waits_listed {l : Array Bool} {i j : Nat} (hj : j ∈ Region.ready md ops l) (hw : waitsOn md ops j i = true) : l.getD i false = true := by
 obtain ⟨_, o, ho, h⟩ := mem_ready.1 hj
 unfold waitsOn at hw
 rw [ho] at hw
 simp only [Option.any_some, Array.any_eq_true] at hw
 obtain ⟨k, hk, hb⟩ := hw
 rw [Bool.and_eq_true, beq_iff_eq] at hb
 rw [← hb.2]
 exact h _ (Array.getElem_mem hk) hb.1
theorem ready_open {l : Array Bool} {i : Nat} (hi : i ∈ Region.ready md ops l) : l.getD i false = false := by
 have h := (mem_ready.1 hi).1
 rw [Array.getD_eq_getD_getElem?] at h ⊢
 cases hl : l[i]? with
 | none => rfl
 | some b =>
  rw [hl] at h
  exact h
theorem late_alone {l : Array Bool} {i j : Nat} (hi : i ∈ Region.ready md ops l) (hj : j ∈ Region.ready md ops l) (hne : j ≠ i) : lateB md ops j = false := by
 cases h : lateB md ops j with
 | false => rfl
 | true =>
  exfalso
  obtain ⟨_, o, ho, _⟩ := mem_ready.1 hi
  have hlt : i < ops.size := (Array.getElem?_eq_some_iff.1 ho).1
  have hk := List.all_eq_true.1 h i (List.mem_range.2 hlt)
  simp only [Bool.or_eq_true, beq_iff_eq] at hk
  rcases hk with (e | e) | e
  ·exact hne e.symm
  ·have := waits_listed hj e
   rw [ready_open hi] at this
   cases this
  ·have := waits_listed hi e
   rw [ready_open hj] at this
   cases this
def wpAnyL (P : Program) (md : Region.Mode) (ops : Array Oper) (Q : Exit → Act → World → Prop) (S : World → Prop) : Nat → Array Bool → Act → World → Prop
 | 0, l, a, w => Region.ready md ops l = [] ∧ Q .normal a w
 | f + 1, l, a, w => (Region.ready md ops l = [] → Q .normal a w) ∧ ∀ i ∈ Region.ready md ops l, wpOp P ops Q i (fun a' w' => (lateB md ops i = true ∨ S w') ∧ wpAnyL P md ops Q S f (l.setIfInBounds i true) a' w') a w
theorem wpAny_of_late : ∀ (f : Nat) (l : Array Bool) (a : Act) (w : World), wpAnyL P md ops Q S f l a w → wpAny P md ops Q f l a w
 | 0, _, _, _, h => h
 | f + 1, _, _, _, h => ⟨h.1, fun i hi => wpOp_mono (fun a' w' h' => wpAny_of_late f _ a' w' h'.2) (h.2 i hi)⟩
theorem late_first {i : Nat} {oi : Oper} {v : Value} (hi : ops[i]? = some oi) (hsel : ∀ (j : Nat) (o : Oper) cs b, ops[j]? = some o → o.op ≠ .select cs b) (hQ : ∀ c a w, Q (.panic c) (a.put oi.dst v) w → Q (.panic c) a w) :
  ∀ (f : Nat) (l : Array Bool) (a : Act) (w : World), (∀ j oj, ops[j]? = some oj → j ≠ i → l.getD j true = false → (∀ e ∈ oj.after, Region.binds md e = true → e.on ≠ i) → oi.apart ops oj = true) →
   i ∈ Region.ready md ops l → YieldsIf P ops S oi v a → S w → wpAnyL P md ops Q S f (l.setIfInBounds i true) (a.put oi.dst v) w → wpAnyL P md ops Q S (f + 1) l a w
 | 0, l, a, w, _, hr, hy, hS, H => by
  refine ⟨fun h => (by rw [h] at hr; cases hr), fun j hj => ?_⟩
  rcases Nat.decEq j i with hne | he
  ·have := ready_mono hj hne
   rw [H.1] at this
   cases this
  ·subst he
   exact hy.wpOp hi hS ⟨Or.inr hS, H⟩
 | f + 1, l, a, w, hfree, hr, hy, hS, H => by
  refine ⟨fun h => (by rw [h] at hr; cases hr), fun j hj => ?_⟩
  rcases Nat.decEq j i with hne | he
  ·obtain ⟨hun, oj, hoj, hall⟩ := mem_ready.1 hj
   have hnl := late_alone hr hj hne
   have hno : ∀ e ∈ oj.after, Region.binds md e = true → e.on ≠ i := fun e he hb heq => by
    have h1 := hall e he hb
    rw [heq, ready_open hr] at h1
    cases h1
   have h2 := wpOp_putIf hoj (hfree j oj hoj hne hun hno) (fun cs b => hsel i oi cs b hi) (fun cs b => hsel j oj cs b hoj) hQ hy (H.2 j (ready_mono hj hne))
   refine wpOp_mono (fun a' w' h3 => ?_) h2
   have hS' : S w' := h3.2.1.resolve_left (by rw [hnl]; decide)
   refine ⟨Or.inr hS', late_first hi hsel hQ f (l.setIfInBounds j true) a' w' (fun k ok hk hki hu hn => hfree k ok hk hki ?_ hn) (ready_mono hr (Ne.symm hne)) h3.1 hS' ?_⟩
   ·rcases Nat.decEq j k with hjk | hjk
    ·rw [getD_set_ne true hjk] at hu
     exact hu
    ·rw [← hjk]
     exact hun
   ·rw [Array.setIfInBounds_comm _ _ hne]
    exact h3.2.2
  ·subst he
   exact hy.wpOp hi hS ⟨Or.inr hS, H⟩
theorem late_take {f : Nat} {l : Array Bool} {a : Act} {w : World} {oi : Oper} (i : Nat) (d : Option Tmp) (v : Value) (hi : ops[i]? = some oi) (hd : oi.dst = d)
  (hs : Region.noSelect ops = true) (hf : Region.free md ops l i = true) (hr : (Region.ready md ops l).contains i = true)
  (hQ : ∀ c a w, Q (.panic c) (a.put d v) w → Q (.panic c) a w) (hw : Region.wanted oi (yielded ops a.tmps) = true) (hy : ∀ w, S w → (execOp a.eval oi).run P w = .ok (.value v) w) (hS : S w)
  (h : wpAnyL P md ops Q S f (l.setIfInBounds i true) (a.put d v) w) : wpAnyL P md ops Q S (f + 1) l a w := by
 subst hd
 exact late_first hi (Region.noSelect_spec hs) hQ f l a w (Region.free_spec hi hf) (by simpa using hr) (Or.inl ⟨hw, hy⟩) hS h
theorem late_one {f : Nat} {l : Array Bool} {a : Act} {w : World} {i : Nat} {o : Oper} (hr : Region.ready md ops l = [i]) (ho : ops[i]? = some o)
  (h : ∀ K' : Act → World → Prop, Shut (∀ a w, (lateB md ops i = true ∨ S w) → ((lateB md ops i = true ∨ S w) → wpAnyL P md ops Q S f (l.setIfInBounds i true) a w) → K' a w) → if Region.wanted o (yielded ops a.tmps) = true then Oper.wp P o a w K' Q else K' (a.put o.dst undef) w) : wpAnyL P md ops Q S (f + 1) l a w := by
 refine ⟨(fun e => by rw [hr] at e; cases e), fun j hj => ?_⟩
 rw [hr] at hj
 obtain rfl := List.mem_singleton.1 hj
 exact wpOp_step ho (fun K' hK => h K' (fun a w hS hW => hK a w ⟨hS, hW hS⟩))
theorem late_done {l : Array Bool} {a : Act} {w : World} (hr : Region.ready md ops l = []) (h : Q .normal a w) : ∀ f, wpAnyL P md ops Q S f l a w
 | 0 => ⟨hr, h⟩
 | _ + 1 => ⟨fun _ => h, by rw [hr]; simp⟩
theorem wp_region_late {id : Nat} {a : Act} {w : World} (hm : P.follows .mixedOrders = true) (hS : S w.drew)
  (h : S w.drew → wpAnyL P .any ops Q S ops.size (Array.replicate ops.size false) a w.drew) : (Code.region id ops true).wp P Q a w :=
 wp_region_any hm (wpAny_of_late _ _ _ _ (h hS))
end late
theorem zLk {P : Program} {md : Region.Mode} {ops : Array Oper} {Q : Exit → Act → World → Prop} {S : World → Prop} {fuel : Nat} {listed : Array Bool} {a : Act} {w : World} {oi : Oper} (i d : Nat) (v : Value) (hi : ops[i]? = some oi) (hy : ∀ w, S w → (execOp a.eval oi).run P w = .ok (.value v) w) (hS : S w)
  (h : wpAnyL P md ops Q S fuel (listed.setIfInBounds i true) (a.put (some d) v) w) (hd : oi.dst = some d := by rfl) (hs : Region.noSelect ops = true := by kernel_rfl) (hf : Region.free md ops listed i = true := by kernel_rfl) (hr : (Region.ready md ops listed).contains i = true := by kernel_rfl)
  (hQ : ∀ c a w, Q (.panic c) (a.put (some d) v) w → Q (.panic c) a w := by exact fun _ _ _ h => h) (hw : Region.wanted oi (yielded ops a.tmps) = true := by rfl) : wpAnyL P md ops Q S (fuel + 1) listed a w := late_take i (some d) v hi hd hs hf hr hQ hw hy hS h
end Go.Proofs.YtjbkgmbakjnlhaaGreatDoor
