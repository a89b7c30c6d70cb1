import Derived.Test.YtjbkgmbakjnlhaaGreatDoorProg
import Derived.WalkKit
import Derived.WalkSpells
import Derived.WalkLawsBesides
import Derived.Deep.QuietTactic
import Derived.BigQuiet
import Derived.Deep.OwnRows
import Derived.Lib.SmallJoins
import Derived.Deep.RegionLaw
import Derived.Deep.RegionHeld3
import Derived.Maps.AppendAt
namespace Go.Proofs.YtjbkgmbakjnlhaaGreatDoor
set_option maxRecDepth 100000
open Go.RowKit
theorem ret_int {k : IntKind} {a b : Int} (h : a = b) : Ending.returned (.int k a) = .returned (.int k b) := by rw [h]
theorem ret_bool {a b : Bool} (h : a = b) : Ending.returned (.bool a) = .returned (.bool b) := by rw [h]
def inB (n lo hi : Int) : Bool := decide (lo ≤ n) && decide (n ≤ hi)
def clampI (n lo hi : Int) : Int := if hi < (if n < lo then lo else n) then hi else (if n < lo then lo else n)
theorem clamp_eq (n lo hi : Int) (h : lo ≤ hi) : (n == clampI n lo hi) = inB n lo hi := by
 unfold clampI inB
 rw [Bool.eq_iff_iff]
 simp only [beq_iff_eq, Bool.and_eq_true, decide_eq_true_eq]
 repeat' split
 all_goals omega
set_option maxHeartbeats 400000 in
theorem l1In_any (n lo hi : Int) (w : World) :
  Calls Tryz.prog 56 #[.int .i64 n, .int .i64 lo, .int .i64 hi] w fun e w' => e = .returned (.bool (inB n lo hi)) ∧ w' = w := by
 by_cases h1 : lo ≤ n <;> by_cases h2 : n ≤ hi
 all_goals
  go_enter Tryz.func56, Tryz.ntmps56
  go_wp2
  go_ret
  refine ⟨?_, rfl⟩
  simp [inB, h1, h2]
set_option maxHeartbeats 400000 in
theorem clamp_any (n lo hi : Int) (w : World) :
  Calls Tryz.prog 37 #[.int .i64 n, .int .i64 lo, .int .i64 hi] w fun e w' => e = .returned (.int .i64 (clampI n lo hi)) ∧ w' = w := by
 go_enter Tryz.func37, Tryz.ntmps37
 go_wp2
 all_goals
  go_ret
  refine ⟨ret_int ?_, rfl⟩
  unfold clampI
  repeat' split
  all_goals first | rfl | (simp_all; done) | (simp_all; omega) | omega
def cellsOf (zs : List Int) : Array Value := (zs.map (Value.int .u8)).toArray
def cellsTo (zs : List Int) (k : Nat) : Array Value := ((zs.take k).map (Value.int .u8) ++ List.replicate (zs.length - k) (Value.int .u8 0)).toArray
theorem cellsTo_zero (zs : List Int) : cellsTo zs 0 = madeCells #[.int .u8 0] zs.length := by
 apply Array.ext_getElem?
 intro i
 by_cases h : i < zs.length
 ·simp [cellsTo, madeCells, h, Nat.mod_one]
 ·simp [cellsTo, madeCells, h]
theorem cellsTo_all (zs : List Int) : cellsTo zs zs.length = cellsOf zs := by
 simp [cellsTo, cellsOf]
theorem cellsTo_succ (zs : List Int) (k : Nat) (h : k < zs.length) : (cellsTo zs k).setIfInBounds k (.int .u8 (zs.getD k 0)) = cellsTo zs (k + 1) := by
 apply Array.ext_getElem?
 intro i
 simp only [cellsTo, List.setIfInBounds_toArray, List.getElem?_toArray]
 rw [List.getElem?_set]
 have hl : (List.map (Value.int IntKind.u8) (List.take k zs)).length = k := by simp; omega
 have hl' : (List.map (Value.int IntKind.u8) (List.take (k + 1) zs)).length = k + 1 := by simp; omega
 rcases Nat.lt_trichotomy i k with hi | hi | hi
 ·rw [if_neg (by omega), List.getElem?_append_left (by omega), List.getElem?_append_left (by omega)]
  simp [hi, show i < k + 1 by omega]
 ·subst hi
  rw [if_pos rfl, if_pos (by simp; omega), List.getElem?_append_left (by omega)]
  simp [List.getElem?_eq_getElem h]
 ·rw [if_neg (by omega), List.getElem?_append_right (by omega), List.getElem?_append_right (by omega), hl, hl']
  by_cases h2 : i < zs.length
  ·simp [show i - k < zs.length - k by omega, show i - (k + 1) < zs.length - (k + 1) by omega]
  ·simp [show ¬ i - k < zs.length - k by omega, show ¬ i - (k + 1) < zs.length - (k + 1) by omega]
theorem cellsTo_at (zs : List Int) (k : Nat) (h : k < zs.length) : (cellsTo zs k)[k]? = some (.int .u8 0) := by
 have hl : (List.map (Value.int IntKind.u8) (List.take k zs)).length = k := by simp; omega
 simp only [cellsTo, List.getElem?_toArray]
 rw [List.getElem?_append_right (by omega), hl, List.getElem?_replicate, if_pos (by omega)]
theorem Tryz.info5 : (Tryz.prog.info? 5).map (fun i => (i.zero, i.size, i.bytes)) = some (some (.int .u8 0), 1, 1) := by kernel_rfl
def RdB (w : World) (a : Option Addr) (len : Nat) (zs : List Int) : Prop :=
 zs.length = len ∧ (len = 0 ∨ ∃ b off, a = some ⟨b, off, none⟩ ∧ b < w.heap.size ∧ ∀ k, k < len → w.cell? ⟨b, off + k, none⟩ = some (.int .u8 (zs.getD k 0)))
theorem RdB.below {w w' : World} {a : Option Addr} {len : Nat} {zs : List Int} (h : RdB w a len zs) (hb : Below w.heap.size w w') : RdB w' a len zs := by
 refine ⟨h.1, h.2.imp id ?_⟩
 rintro ⟨b, off, ha, hlt, hc⟩
 exact ⟨b, off, ha, Nat.lt_of_lt_of_le hlt hb.size, fun k hk => (hb.cell (p := ⟨b, off + k, none⟩) hlt).trans (hc k hk)⟩
theorem zX {α : Type} (l : List α) (i : Nat) (a : α) : l.toArray.setIfInBounds i a = (l.set i a).toArray := List.setIfInBounds_toArray l i a
theorem zY {α : Type} (x y : α) (l : List α) : (x :: l).set 0 y = y :: l := rfl
theorem zZ {α : Type} (x y : α) (l : List α) (n : Nat) : (x :: l).set (n + 1) y = x :: l.set n y := rfl
theorem heap_new (w : World) (o : Obj) (n : Nat) (h : n = w.heap.size) : (w.alloc o).heap[n]? = some o := by
 subst h
 show (w.heap.push o)[w.heap.size]? = _
 simp
structure Pk where
 src : Int
 dst : Int
 kind : Int
 id : Int
 hops : Int
 whole : Bool
 off : Int
 more : Bool
def Pk.val (p : Pk) (v : Value) : Value := .agg #[.int .i64 p.src, .int .i64 p.dst, .int .i64 p.kind, .int .i64 p.id, .int .i64 p.hops, .bool p.whole, .int .i64 p.off, .bool p.more, v]
theorem zBa (w : World) (o : Obj) : Below w.heap.size w (w.alloc o) := Joins.below_alloc1 w o
structure Boxed (w : World) (b : Nat) (p : Pk) (v : Value) : Prop where
 lt : b < w.heap.size
 c0 : w.cell? ⟨b, 0, none⟩ = some (.int .i64 p.src)
 c1 : w.cell? ⟨b, 1, none⟩ = some (.int .i64 p.dst)
 c2 : w.cell? ⟨b, 2, none⟩ = some (.int .i64 p.kind)
 c3 : w.cell? ⟨b, 3, none⟩ = some (.int .i64 p.id)
 c4 : w.cell? ⟨b, 4, none⟩ = some (.int .i64 p.hops)
 c5 : w.cell? ⟨b, 5, none⟩ = some (.bool p.whole)
 c6 : w.cell? ⟨b, 6, none⟩ = some (.int .i64 p.off)
 c7 : w.cell? ⟨b, 7, none⟩ = some (.bool p.more)
 c8 : w.cell? ⟨b, 8, none⟩ = some v
theorem Boxed.below {w w' : World} {b : Nat} {p : Pk} {v : Value} (h : Boxed w b p v) (hb : Below w.heap.size w w') : Boxed w' b p v :=
 have e : ∀ o, w'.cell? ⟨b, o, none⟩ = w.cell? ⟨b, o, none⟩ := fun o => hb.cell (p := ⟨b, o, none⟩) h.lt
 ⟨Nat.lt_of_lt_of_le h.lt hb.size, (e 0).trans h.c0, (e 1).trans h.c1, (e 2).trans h.c2, (e 3).trans h.c3, (e 4).trans h.c4, (e 5).trans h.c5, (e 6).trans h.c6, (e 7).trans h.c7, (e 8).trans h.c8⟩
def pcells (p : Pk) (v : Value) : Array Value := #[.int .i64 p.src, .int .i64 p.dst, .int .i64 p.kind, .int .i64 p.id, .int .i64 p.hops, .bool p.whole, .int .i64 p.off, .bool p.more, v]
theorem Boxed.new (w : World) (p : Pk) (v : Value) (t : TypeId) : Boxed (w.alloc (.cells (pcells p v) t)) w.heap.size p v := by
 have e : ∀ o, (w.alloc (.cells (pcells p v) t)).cell? ⟨w.heap.size, o, none⟩ = (pcells p v)[o]? := fun o => World.cell?_alloc_at _ _ _ _ rfl
 exact ⟨by simp, e 0, e 1, e 2, e 3, e 4, e 5, e 6, e 7, e 8⟩
theorem Boxed.newAt (w : World) (n : Nat) (p : Pk) (v : Value) (t : TypeId) (h : n = w.heap.size) : Boxed (w.alloc (.cells (pcells p v) t)) n p v := by
 subst h; exact Boxed.new w p v t
theorem Boxed.upto {w w' : World} {B b : Nat} {p : Pk} {v : Value} (h : Boxed w b p v) (hb : Below B w w') (hB : b < B) : Boxed w' b p v :=
 have e : ∀ o, w'.cell? ⟨b, o, none⟩ = w.cell? ⟨b, o, none⟩ := fun o => hb.cell (p := ⟨b, o, none⟩) hB
 ⟨Nat.lt_of_lt_of_le h.lt hb.size, (e 0).trans h.c0, (e 1).trans h.c1, (e 2).trans h.c2, (e 3).trans h.c3, (e 4).trans h.c4, (e 5).trans h.c5, (e 6).trans h.c6, (e 7).trans h.c7, (e 8).trans h.c8⟩
theorem draw1 (w : World) : Below w.heap.size w w.drew := (Below.refl _ _).drew
def zeroPk : Pk := ⟨0, 0, 0, 0, 0, false, 0, false⟩
theorem bcell {B : Nat} {W w1 : World} (hb : Below B W w1) : (∀ b o, b < B → w1.cell? ⟨b, o, none⟩ = W.cell? ⟨b, o, none⟩) ∧ (∀ b o, b < B → w1.frozen? ⟨b, o, none⟩ = W.frozen? ⟨b, o, none⟩) :=
 ⟨fun b o h => hb.cell (p := ⟨b, o, none⟩) h, fun b o h => hb.frozen (p := ⟨b, o, none⟩) h⟩
theorem own9 {w : World} {base : Nat} {e : TypeId} {size n : Nat} {v : Value} {xs : List Value} {b : Nat} (h : w.ownsRow base e size v n xs) (hb : b < base) (x0 x1 x2 x3 x4 x5 x6 x7 x8 : Value) :
  (((((((((w.setCell ⟨b, 0, none⟩ x0).setCell ⟨b, 1, none⟩ x1).setCell ⟨b, 2, none⟩ x2).setCell ⟨b, 3, none⟩ x3).setCell ⟨b, 4, none⟩ x4).setCell ⟨b, 5, none⟩ x5).setCell ⟨b, 6, none⟩ x6).setCell ⟨b, 7, none⟩ x7).setCell ⟨b, 8, none⟩ x8).ownsRow base e size v n xs :=
 (ownsRow_setCell_below (ownsRow_setCell_below (ownsRow_setCell_below (ownsRow_setCell_below (ownsRow_setCell_below (ownsRow_setCell_below (ownsRow_setCell_below (ownsRow_setCell_below (ownsRow_setCell_below h hb _) hb _) hb _) hb _) hb _) hb _) hb _) hb _) hb _)
theorem below9 {B : Nat} {a w : World} {b : Nat} (h : Below B a w) (hb : B ≤ b) (x0 x1 x2 x3 x4 x5 x6 x7 x8 : Value) :
  Below B a (((((((((w.setCell ⟨b, 0, none⟩ x0).setCell ⟨b, 1, none⟩ x1).setCell ⟨b, 2, none⟩ x2).setCell ⟨b, 3, none⟩ x3).setCell ⟨b, 4, none⟩ x4).setCell ⟨b, 5, none⟩ x5).setCell ⟨b, 6, none⟩ x6).setCell ⟨b, 7, none⟩ x7).setCell ⟨b, 8, none⟩ x8) :=
 (Below.setCell (Below.setCell (Below.setCell (Below.setCell (Below.setCell (Below.setCell (Below.setCell (Below.setCell (Below.setCell h hb _) hb _) hb _) hb _) hb _) hb _) hb _) hb _) hb _)
theorem Boxed.of_block {w : World} {b : Nat} {p : Pk} {v : Value} {t : TypeId} {fr : Nat × Nat} (h : w.heap[b]? = some (.cells (pcells p v) t fr)) : Boxed w b p v := by
 have e : ∀ o, w.cell? ⟨b, o, none⟩ = (pcells p v)[o]? := fun o => Joins.cell_of_block h o
 refine ⟨?_, e 0, e 1, e 2, e 3, e 4, e 5, e 6, e 7, e 8⟩
 rcases Nat.lt_or_ge b w.heap.size with h' | h'
 ·exact h'
 ·rw [Array.getElem?_eq_none h'] at h; cases h
theorem heap9 (w : World) (b k : Nat) (h : k ≠ b) (x0 x1 x2 x3 x4 x5 x6 x7 x8 : Value) : (((((((((w.setCell ⟨b, 0, none⟩ x0).setCell ⟨b, 1, none⟩ x1).setCell ⟨b, 2, none⟩ x2).setCell ⟨b, 3, none⟩ x3).setCell ⟨b, 4, none⟩ x4).setCell ⟨b, 5, none⟩ x5).setCell ⟨b, 6, none⟩ x6).setCell ⟨b, 7, none⟩ x7).setCell ⟨b, 8, none⟩ x8).heap[k]? = w.heap[k]? :=
 ((Below.heap_setCell _ _ _ _ h).trans ((Below.heap_setCell _ _ _ _ h).trans ((Below.heap_setCell _ _ _ _ h).trans ((Below.heap_setCell _ _ _ _ h).trans ((Below.heap_setCell _ _ _ _ h).trans ((Below.heap_setCell _ _ _ _ h).trans ((Below.heap_setCell _ _ _ _ h).trans ((Below.heap_setCell _ _ _ _ h).trans (Below.heap_setCell _ _ _ _ h)))))))))
theorem zHs {w : World} {a : Addr} {u : Value} {k : Nat} (h : k ≠ a.block) : (w.setCell a u).heap[k]? = w.heap[k]? := Below.heap_setCell w a u k h
theorem grown_trans {a b c : World} {r : Option Nat} (h : a.grownBy b r) (k : b.grownBy c r) : a.grownBy c r :=
 ⟨k.os.trans h.os, k.tape.trans h.tape, k.output.trans h.output, Nat.le_trans h.size k.size, fun i hi hr => (k.block i (Nat.lt_of_lt_of_le hi h.size) hr).trans (h.block i hi hr)⟩
theorem grown_alloc (a : World) (o : Obj) (r : Option Nat) : a.grownBy (a.alloc o) r := ⟨rfl, rfl, rfl, by simp, fun k hk _ => Below.heap_alloc _ _ _ hk⟩
theorem below_grown {w w' : World} {r : Option Nat} {B : Nat} (h : w.grownBy w' r) (hB : B ≤ w.heap.size) (hr : ∀ k, r = some k → B ≤ k) : Below B w w' :=
 (Below.refl _ _).grown h hB hr
theorem zHa {w : World} {o : Obj} {k : Nat} (h : k < w.heap.size) : (w.alloc o).heap[k]? = w.heap[k]? := Below.heap_alloc w o k h
theorem Boxed.kept {w w' : World} {b : Nat} {p : Pk} {v : Value} (h : Boxed w b p v) (hs : w.heap.size ≤ w'.heap.size) (hk : w'.heap[b]? = w.heap[b]?) : Boxed w' b p v :=
 have e : ∀ o, w'.cell? ⟨b, o, none⟩ = w.cell? ⟨b, o, none⟩ := fun _ => World.cell?_of_block (w := w) hk
 ⟨Nat.lt_of_lt_of_le h.lt hs, (e 0).trans h.c0, (e 1).trans h.c1, (e 2).trans h.c2, (e 3).trans h.c3, (e 4).trans h.c4, (e 5).trans h.c5, (e 6).trans h.c6, (e 7).trans h.c7, (e 8).trans h.c8⟩
theorem own_kept {w w' : World} {base : Nat} {e : TypeId} {size n : Nat} {v : Value} {xs : List Value} (h : w.ownsRow base e size v n xs) (hk : ∀ k, v.ownBlock = some k → w'.heap[k]? = w.heap[k]?) : w'.ownsRow base e size v n xs := by
 refine ⟨h.1, h.2.imp id ?_⟩
 rintro ⟨g, cap, cur, hv, hg, hh, r⟩
 exact ⟨g, cap, cur, hv, hg, (hk g (by rw [hv]; rfl)).trans hh, r⟩
theorem own_lt {w : World} {base : Nat} {e : TypeId} {size n : Nat} {v : Value} {xs : List Value} (h : w.ownsRow base e size v n xs) : ∀ k, v.ownBlock = some k → base ≤ k ∧ k < w.heap.size := by
 intro k hk
 rcases h.2 with ⟨hv, _⟩ | ⟨g, cap, cur, hv, hg, hh, _⟩
 ·rw [hv] at hk; cases hk
 ·rw [hv] at hk
  cases hk
  refine ⟨hg, ?_⟩
  rcases Nat.lt_or_ge g w.heap.size with h' | h'
  ·exact h'
  ·rw [Array.getElem?_eq_none h'] at hh; cases hh
theorem own_below {w w' : World} {base : Nat} {e : TypeId} {size n : Nat} {v : Value} {xs : List Value} (h : w.ownsRow base e size v n xs) (hb : Below w.heap.size w w') : w'.ownsRow base e size v n xs :=
 own_kept h fun k hk => hb.block k (own_lt h k hk).2
theorem RdB.of_own {w : World} {base len cap : Nat} {ao : Option Addr} {zs : List Int} (hz : zs.length = len) (h : w.ownsRow base 5 1 (.slice ao len cap) len (zs.map (.int .u8))) : RdB w ao len zs := by
 refine ⟨hz, ?_⟩
 rcases h.2 with ⟨_, hn⟩ | ⟨g, c, cur, hv, hg, hh, _⟩
 ·exact Or.inl hn
 ·simp at hv
  obtain ⟨rfl, rfl⟩ := hv
  refine Or.inr ⟨g, 0, rfl, (own_lt h g rfl).2, fun k hk => ?_⟩
  rw [Nat.zero_add, h.cellAt k (by omega)]
  simp [List.getD, List.getElem?_eq_getElem (show k < zs.length by omega)]
theorem own_of_block {w : World} {g base : Nat} {zs : List Int} (hb : base ≤ g) (hz : zs.length ≤ maxLen) (h : w.heap[g]? = some (.cells (cellsOf zs) 5 (0, 0))) : w.ownsRow base 5 1 (.slice (some ⟨g, 0, none⟩) zs.length zs.length) zs.length (zs.map (.int .u8)) :=
 ⟨by simp, Or.inr ⟨g, zs.length, cellsOf zs, rfl, hb, h, Nat.le_refl _, hz, by simp [cellsOf], by simp only [cellsOf, Nat.mul_one]; exact List.take_of_length_le (by simp)⟩⟩
theorem zCr {w : World} {g j : Nat} {cs : Array Value} {t : TypeId} {fr : Nat × Nat} (h : w.heap[g]? = some (.cells cs t fr)) : w.cell? ⟨g, j, none⟩ = cs[j]? := cell_of_row w g j cs t fr h
theorem zUf {w : World} {g : Nat} {cs : Array Value} {t : TypeId} (h : w.heap[g]? = some (.cells cs t)) (i : Nat) : w.frozen? ⟨g, i, none⟩ = false := Joins.unfrozen_of_block h i
theorem own_caps {w : World} {base e size n c : Nat} {a : Option Addr} {xs : List Value} (h : w.ownsRow base e size (.slice a n c) n xs) : n ≤ c ∧ c ≤ 9223372036854775807 := by
 rcases h.2 with ⟨hv, h0⟩ | ⟨g, cap, cur, hv, _, _, hc, hm, _⟩
 ·simp at hv; omega
 ·simp at hv; unfold maxLen at hm; omega
theorem step_append_own {P : Program} {w : World} {ops : Array Oper} {o : Oper} {a : Act} {K : Act → World → Prop} {Q : Exit → Act → World → Prop} {E : Prop} (hgd : o.guard = none) (s x : Operand) (t : TypeId)
  (ho : o.op = .call { callee := .builtin .append, args := #[s, x], argTypes := #[t, t] })
  (base : Nat) (e : TypeId) (i : TypeInfo) (z : Value) (size bytes : Nat) (ht : P.underlying t = some (.slice e)) (hi : P.info? e = some i) (hz : i.zero = some z)
  (hsize : i.size = size) (hby : i.bytes = bytes) (hzs : z.cells.size = size) (hsz : 0 < size)
  (v : Value) (n : Nat) (xs : List Value) (hs : a.eval s = v) (hown : w.ownsRow base e size v n xs)
  (ad : Addr) (m c : Nat) (news : List Value) (hx : a.eval x = .slice (some ad) m c) (hl : news.length = m * size) (hnews : ∀ j u, news[j]? = some u → w.cell? (ad.add j) = some u) (h1 : ∀ u ∈ news, u.oneCell' = true)
  (h63 : n + m ≤ maxLen) (hbytes : (n + m) * bytes ≤ 140737488355328) (hbase : base ≤ w.heap.size)
  (h : ∀ v' w', w'.ownsRow base e size v' (n + m) (xs ++ news) → w.grownBy w' v.ownBlock → (v' = .slice none 0 0 ↔ v = .slice none 0 0 ∧ m = 0) → K (a.put o.dst v') w') :
  if Region.wanted o (yielded ops a.tmps) = true then Oper.wp P o a w K Q else E := by
 have hw : Region.wanted o (yielded ops a.tmps) = true := by simp [Region.wanted, hgd]
 rw [if_pos hw]
 exact wp_append_own w s x t ho base e i z size bytes ht hi hz hsize hby hzs hsz v n xs hs hown ad m c news hx hl hnews h1 h63 hbytes hbase h
theorem step_append_d {P : Program} {w : World} {ops : Array Oper} {o : Oper} {a : Act} {K : Act → World → Prop} {Q : Exit → Act → World → Prop} {E : Prop} (hgd : o.guard = none) (d : Option Tmp) (hd : o.dst = d) (s x : Operand) (t : TypeId)
  (ho : o.op = .call { callee := .builtin .append, args := #[s, x], argTypes := #[t, t] })
  (base : Nat) (e : TypeId) (i : TypeInfo) (z : Value) (size bytes : Nat) (ht : P.underlying t = some (.slice e)) (hi : P.info? e = some i) (hz : i.zero = some z)
  (hsize : i.size = size) (hby : i.bytes = bytes) (hzs : z.cells.size = size) (hsz : 0 < size)
  (v : Value) (n : Nat) (xs : List Value) (hs : a.eval s = v) (hown : w.ownsRow base e size v n xs)
  (ad : Addr) (m c : Nat) (news : List Value) (hx : a.eval x = .slice (some ad) m c) (hl : news.length = m * size) (hnews : ∀ j u, news[j]? = some u → w.cell? (ad.add j) = some u) (h1 : ∀ u ∈ news, u.oneCell' = true)
  (h63 : n + m ≤ maxLen) (hbytes : (n + m) * bytes ≤ 140737488355328) (hbase : base ≤ w.heap.size)
  (h : ∀ v' w', w'.ownsRow base e size v' (n + m) (xs ++ news) → w.grownBy w' v.ownBlock → (v' = .slice none 0 0 ↔ v = .slice none 0 0 ∧ m = 0) → K (a.put d v') w') :
  if Region.wanted o (yielded ops a.tmps) = true then Oper.wp P o a w K Q else E := by
 subst hd
 exact step_append_own hgd s x t ho base e i z size bytes ht hi hz hsize hby hzs hsz v n xs hs hown ad m c news hx hl hnews h1 h63 hbytes hbase h
theorem take_held {P : Program} {md : Region.Mode} {ops : Array Oper} {Q : Exit → Act → World → Prop} {S : World → Prop} {fuel : Nat} {listed : Array Bool} {a : Act} {w : World} {oi : Oper} (i : Nat) (d : Option Tmp) (v : Value) (hi : ops[i]? = some oi) (hd : oi.dst = d)
  (hs : Region.noSelect ops = true) (hf : Region.free md ops listed i = true) (hr : (Region.ready md ops listed).contains i = true)
  (hQ : ∀ c a w, Q (.panic c) (a.put d v) w → Q (.panic c) a w) (hw : Region.wanted oi (yielded ops a.tmps) = true) (hy : ∀ w, S w → (execOp a.eval oi).run P w = .ok (.value v) w) (hS : S w)
  (h : wpAnyH P md ops Q S fuel (listed.setIfInBounds i true) (a.put d v) w) : wpAnyH P md ops Q S (fuel + 1) listed a w := by
 subst hd
 exact wpAnyH_take hi hs hf hr hQ (Or.inl ⟨hw, hy⟩) hS h
theorem form_of {w : World} {base e size n : Nat} {v : Value} {xs : List Value} (h : w.ownsRow base e size v n xs) (hn : v = .slice none 0 0 → False) : ∃ g c, v = .slice (some ⟨g, 0, none⟩) n c := by
 rcases Joins.ownsRow_forms h with h | h
 ·exact absurd h.1 hn
 ·exact h
theorem zRd {P : Program} {ops : Array Oper} {Q : Exit → Act → World → Prop} {md : Region.Mode} {S : World → Prop} {fuel : Nat} {listed : Array Bool} {a : Act} {w : World} (i : Nat) {o : Oper} (hr : Region.ready md ops listed = [i]) (ho : ops[i]? = some o)
  (h : ∀ K' : Act → World → Prop, Shut (∀ (a : Act) (w : World), S w → (S w → wpAnyH P md ops Q S fuel (listed.setIfInBounds i true) a w) → K' a w) → if Region.wanted o (yielded ops a.tmps) = true then Oper.wp P o a w K' Q else K' (a.put o.dst undef) w) : wpAnyH P md ops Q S (fuel + 1) listed a w := wpAnyH_ready hr (by simp) (AllReadyH.cons ho h AllReadyH.nil)
theorem zTk {P : Program} {md : Region.Mode} {ops : Array Oper} {Q : Exit → Act → World → Prop} {S : World → Prop} {fuel : Nat} {listed : Array Bool} {a : Act} {w : World} {oi : Oper} (i d : Nat) (v : Value) (hi : ops[i]? = some oi) (hy : ∀ w, S w → (execOp a.eval oi).run P w = .ok (.value v) w) (hS : S w)
  (h : wpAnyH P md ops Q S fuel (listed.setIfInBounds i true) (a.put (some d) v) w) (hd : oi.dst = some d := by rfl) (hs : Region.noSelect ops = true := by kernel_rfl) (hf : Region.free md ops listed i = true := by kernel_rfl) (hr : (Region.ready md ops listed).contains i = true := by kernel_rfl)
  (hQ : ∀ c a w, Q (.panic c) (a.put (some d) v) w → Q (.panic c) a w := by exact fun _ _ _ h => h) (hw : Region.wanted oi (yielded ops a.tmps) = true := by rfl) : wpAnyH P md ops Q S (fuel + 1) listed a w := take_held i (some d) v hi hd hs hf hr hQ hw hy hS h
section inv
variable {P : Program} {ops : Array Oper} {Q : Exit → Act → World → Prop} {md : Region.Mode} {S : World → Prop}
theorem wpAnyH_inv (I : Nat → Array Bool → Act → World → Prop) (h0 : ∀ l a w, I 0 l a w → False)
  (h1 : ∀ f l a w, I (f + 1) l a w → Region.ready md ops l ≠ [] ∧ ∀ i ∈ Region.ready md ops l, wpOp P ops Q i (fun a' w' => S w' ∧ (I f (l.setIfInBounds i true) a' w' ∨ wpAnyH P md ops Q S f (l.setIfInBounds i true) a' w')) a w) :
  ∀ f l a w, I f l a w → wpAnyH P md ops Q S f l a w
 | 0, l, a, w, h => (h0 l a w h).elim
 | f + 1, l, a, w, h => ⟨fun e => absurd e (h1 f l a w h).1, fun i hi => wpOp_mono (fun a' w' h' => ⟨h'.1, h'.2.elim (wpAnyH_inv I h0 h1 f _ a' w') id⟩) ((h1 f l a w h).2 i hi)⟩
theorem wpOp_of {i : Nat} {o : Oper} {a : Act} {w : World} {K : Act → World → Prop} (ho : ops[i]? = some o) (hg : o.guard = none) (h : Oper.wp P o a w K Q) : wpOp P ops Q i K a w := by
 unfold wpOp
 simp only [ho]
 rw [if_pos (by simp [Region.wanted, hg])]
 exact .inl h
theorem wpOp_append {i : Nat} {o : Oper} {a : Act} {w : World} {K : Act → World → Prop} (ho : ops[i]? = some o) (hg : o.guard = none) (d : Tmp) (hd : o.dst = some d) (s x : Operand) (t : TypeId)
  (hop : o.op = .call { callee := .builtin .append, args := #[s, x], argTypes := #[t, t] })
  (base : Nat) (e : TypeId) (ti : TypeInfo) (z : Value) (size bytes : Nat) (ht : P.underlying t = some (.slice e)) (hi : P.info? e = some ti) (hz : ti.zero = some z)
  (hsize : ti.size = size) (hby : ti.bytes = bytes) (hzs : z.cells.size = size) (hsz : 0 < size)
  (v : Value) (n : Nat) (xs : List Value) (hs : a.eval s = v) (hown : w.ownsRow base e size v n xs)
  (ad : Addr) (m c : Nat) (news : List Value) (hx : a.eval x = .slice (some ad) m c) (hl : news.length = m * size) (hnews : ∀ j u, news[j]? = some u → w.cell? (ad.add j) = some u) (h1 : ∀ u ∈ news, u.oneCell' = true)
  (h63 : n + m ≤ maxLen) (hbytes : (n + m) * bytes ≤ 140737488355328) (hbase : base ≤ w.heap.size)
  (h : ∀ v' w', w'.ownsRow base e size v' (n + m) (xs ++ news) → w.grownBy w' v.ownBlock → (v' = .slice none 0 0 ↔ v = .slice none 0 0 ∧ m = 0) → (v'.ownBlock = v.ownBlock ∨ v'.ownBlock = some w.heap.size) → K (a.put (some d) v') w') : wpOp P ops Q i K a w := by
 refine wpOp_of ho hg ?_
 obtain ⟨v', w', hr, h2, h3, h4, h5⟩ := run_append_own_at (P := P) w base t o.type e ti z size bytes ht hi hz hsize hby hzs hsz v n xs hown ad m c news hl hnews h1 h63 hbytes hbase
 unfold Oper.wp execOp
 simp only [hop, resolve, invoke, builtin, Sem.run_bind, Sem.run_pure, Result.andThen_ok, List.map_toArray, List.map_cons, List.map_nil, hs, hx, hr]
 rw [← hd] at h
 exact h v' w' h2 h3 h4 h5
theorem wpOp_call {i : Nat} {o : Oper} {a : Act} {w : World} {K : Act → World → Prop} (ho : ops[i]? = some o) (hg : o.guard = none) (d : Tmp) (hd : o.dst = some d) (f : FuncId) (args : Array Value) (hrun : (execOp a.eval o).run P w = .ok (.enter f args) w)
  (h : Calls P f args w (fun e w' => ∃ r, e = .returned r ∧ K (a.put (some d) r) w')) : wpOp P ops Q i K a w := by
 refine wpOp_of ho hg ?_
 unfold Oper.wp
 rw [hrun, Oper.upon_enter, hd]
 refine h.mono fun e w'' hh => ?_
 obtain ⟨r, rfl, hk⟩ := hh
 exact hk
theorem step_call {o : Oper} {a : Act} {w : World} {K : Act → World → Prop} {E : Prop} (hg : o.guard = none) (d : Tmp) (hd : o.dst = some d) (f : FuncId) (args : Array Value) (hrun : (execOp a.eval o).run P w = .ok (.enter f args) w)
  (h : Calls P f args w (fun e w' => ∃ r, e = .returned r ∧ K (a.put (some d) r) w')) : if Region.wanted o (yielded ops a.tmps) = true then Oper.wp P o a w K Q else E := by
 rw [if_pos (by simp [Region.wanted, hg])]
 unfold Oper.wp
 rw [hrun, Oper.upon_enter, hd]
 refine h.mono fun e w'' hh => ?_
 obtain ⟨r, rfl, hk⟩ := hh
 exact hk
theorem wpOp_made {i : Nat} {o : Oper} {a : Act} {w w' : World} {v : Value} {K : Act → World → Prop} (ho : ops[i]? = some o) (hg : o.guard = none) (d : Tmp) (hd : o.dst = some d) (hrun : (execOp a.eval o).run P w = .ok (.value v) w')
  (h : K (a.put (some d) v) w') : wpOp P ops Q i K a w := by
 refine wpOp_of ho hg ?_
 unfold Oper.wp
 rw [hrun, Oper.upon_value, hd]
 exact h
end inv
def pf (b : Bool) (d : Tmp) (v : Value) (a : Act) : Act := bif b then a.put (some d) v else a
theorem pf_size (b : Bool) (d : Tmp) (v : Value) (a : Act) : (pf b d v a).tmps.size = a.tmps.size := by cases b <;> simp [pf, Act.put]
theorem pf_put {b : Bool} {d d' : Tmp} {v v' : Value} {a : Act} (h : d ≠ d') : (pf b d v a).put (some d') v' = pf b d v (a.put (some d') v') := by
 cases b
 ·rfl
 ·exact Act.put_comm a (x := some d) (y := some d') v v' (fun k hk e => h ((Option.some.inj hk).trans (Option.some.inj e).symm))
theorem pf_same {d : Tmp} {v : Value} {a : Act} (h : d < a.tmps.size) : (pf true d v a).eval (.tmp d) = v := by
 simp [pf, Act.put, Act.eval, h]
theorem pf_other {b : Bool} {d d' : Tmp} {v : Value} {a : Act} (h : d ≠ d') : (pf b d v a).eval (.tmp d') = a.eval (.tmp d') := by
 cases b
 ·rfl
 ·simp [pf, Act.put, Act.eval, Array.getElem?_setIfInBounds_ne h]
def fr (v0 v1 v2 v3 v4 v5 v6 v7 v8 v9 v10 v11 v12 v13 v14 v15 v16 v17 v18 v19 v20 : Value) (f : Nat → Value) : Act := ⟨#[v0, v1, v2, v3, v4, v5, v6, v7, v8, v9, v10, v11, v12, v13, v14, v15, v16, v17, v18, v19, v20, f 21, f 22, f 23, f 24, f 25, f 26, f 27, f 28, f 29, f 30, f 31, f 32, f 33, f 34, f 35, f 36, f 37, f 38, f 39, f 40, f 41, f 42, f 43, f 44, f 45, f 46, f 47, f 48, f 49, f 50, f 51, f 52, f 53, f 54, f 55, f 56, f 57, f 58, f 59, f 60, f 61, f 62, f 63, f 64, f 65, f 66, f 67, f 68, f 69, f 70, f 71, f 72, f 73, f 74, f 75, f 76, f 77, f 78, f 79, f 80, f 81, f 82, f 83, f 84, f 85, f 86, f 87, f 88, f 89, f 90, f 91, f 92, f 93, f 94, f 95, f 96, f 97, f 98, f 99, f 100, f 101, f 102, f 103, f 104, f 105, f 106, f 107, f 108, f 109, f 110, f 111, f 112, f 113, f 114, f 115, f 116, f 117, f 118, f 119, f 120, f 121, f 122, f 123, f 124, f 125, f 126, f 127, f 128, f 129, f 130, f 131, f 132, f 133, f 134, f 135, f 136, f 137, f 138, f 139, f 140, f 141, f 142, f 143, f 144, f 145, f 146, f 147, f 148, f 149, f 150, f 151, f 152, f 153, f 154, f 155, f 156, f 157, f 158, f 159, f 160, f 161, f 162, f 163, f 164, f 165, f 166, f 167, f 168, f 169, f 170, f 171, f 172, f 173, f 174, f 175, f 176, f 177, f 178, f 179, f 180, f 181, f 182, f 183, f 184, f 185, f 186, f 187, f 188, f 189, f 190, f 191, f 192, f 193, f 194, f 195, f 196, f 197, f 198, f 199, f 200, f 201, f 202, f 203, f 204, f 205, f 206, f 207, f 208, f 209, f 210, f 211, f 212, f 213, f 214, f 215, f 216, f 217, f 218, f 219, f 220, f 221, f 222, f 223, f 224, f 225, f 226, f 227, f 228, f 229, f 230, f 231, f 232, f 233, f 234, f 235, f 236], []⟩
def Cd.fst : Code → Code
 | .seq a _ => a
 | c => c
def Cd.snd : Code → Code
 | .seq _ b => b
 | c => c
def Cd.thn : Code → Code
 | .cond _ a _ => a
 | c => c
def Cd.inn : Code → Code
 | .block _ a => a
 | .loop a => a
 | .scope a => a
 | c => c
theorem wp_is {P : Program} {Q : Exit → Act → World → Prop} {a : Act} {w : World} {c c' : Code} (h : c = c') (g : c'.wp P Q a w) : c.wp P Q a w := h ▸ g
theorem row_of (n : Nat) (t : Array Value) (h : t.size = n) : ((List.range n).map (fun i => t.getD i undef)).toArray = t := by
 apply Array.ext
 ·simp [h]
 ·intro i h1 h2
  simp [Array.getD, h2]
def frA (v0 v1 v2 v3 v4 v5 v6 v7 v8 v9 v10 v11 : Value) (f : Nat → Value) : Act := ⟨#[v0, v1, v2, v3, v4, v5, v6, v7, v8, v9, v10, v11, f 12, f 13, f 14, f 15, f 16, f 17, f 18, f 19, f 20, f 21, f 22, f 23, f 24, f 25, f 26, f 27, f 28, f 29, f 30, f 31, f 32, f 33, f 34, f 35, f 36, f 37, f 38, f 39, f 40, f 41, f 42, f 43, f 44, f 45, f 46, f 47, f 48, f 49, f 50, f 51, f 52, f 53, f 54, f 55, f 56, f 57, f 58, f 59, f 60, f 61, f 62, f 63, f 64, f 65, f 66, f 67, f 68, f 69, f 70, f 71, f 72, f 73, f 74], []⟩
set_option maxHeartbeats 6400000 in
theorem frA_end {C : Act → Prop} {v0 v1 v2 v3 v4 v5 v6 v7 v8 v9 v10 v11 : Value} {a : Act} (hs : a.tmps.toList.length = 75) (hd : a.defers = []) (hv : a.tmps.toList.take 12 = [v0, v1, v2, v3, v4, v5, v6, v7, v8, v9, v10, v11]) (h : ∀ f, C (frA v0 v1 v2 v3 v4 v5 v6 v7 v8 v9 v10 v11 f)) : C a := by
 obtain ⟨t, d⟩ := a
 obtain rfl : d = [] := hd
 have e := row_of 75 t (by rw [← Array.length_toList]; exact hs)
 have g := h (fun i => t.getD i undef)
 have hi : ∀ (i : Nat) v, i < 12 → [v0, v1, v2, v3, v4, v5, v6, v7, v8, v9, v10, v11][i]? = some v → t.getD i undef = v := fun i v hl hx => by
  rw [← hv, List.getElem?_take_of_lt hl] at hx
  rw [Array.getD_eq_getD_getElem?, ← Array.getElem?_toList, hx]
  rfl
 obtain rfl := hi 0 v0 (by decide) rfl
 obtain rfl := hi 1 v1 (by decide) rfl
 obtain rfl := hi 2 v2 (by decide) rfl
 obtain rfl := hi 3 v3 (by decide) rfl
 obtain rfl := hi 4 v4 (by decide) rfl
 obtain rfl := hi 5 v5 (by decide) rfl
 obtain rfl := hi 6 v6 (by decide) rfl
 obtain rfl := hi 7 v7 (by decide) rfl
 obtain rfl := hi 8 v8 (by decide) rfl
 obtain rfl := hi 9 v9 (by decide) rfl
 obtain rfl := hi 10 v10 (by decide) rfl
 obtain rfl := hi 11 v11 (by decide) rfl
 have e2 : frA (t.getD 0 undef) (t.getD 1 undef) (t.getD 2 undef) (t.getD 3 undef) (t.getD 4 undef) (t.getD 5 undef) (t.getD 6 undef) (t.getD 7 undef) (t.getD 8 undef) (t.getD 9 undef) (t.getD 10 undef) (t.getD 11 undef) (fun i => t.getD i undef) = ⟨((List.range 75).map (fun i => t.getD i undef)).toArray, []⟩ := by kernel_rfl
 rw [e] at e2
 exact e2 ▸ g
def frL (v0 v1 v2 v3 v4 v5 v6 v7 v8 v9 v10 : Value) (f : Nat → Value) : Act := ⟨#[v0, v1, v2, v3, v4, v5, v6, v7, v8, v9, v10, f 11, f 12, f 13, f 14, f 15, f 16, f 17, f 18, f 19, f 20, f 21, f 22, f 23, f 24, f 25, f 26, f 27, f 28, f 29, f 30, f 31, f 32, f 33, f 34, f 35, f 36, f 37, f 38, f 39, f 40, f 41, f 42, f 43, f 44, f 45, f 46, f 47, f 48, f 49, f 50, f 51, f 52, f 53, f 54, f 55, f 56, f 57, f 58, f 59, f 60, f 61, f 62, f 63, f 64, f 65, f 66, f 67, f 68, f 69, f 70, f 71, f 72, f 73, f 74, f 75, f 76, f 77, f 78, f 79, f 80, f 81], []⟩
set_option maxHeartbeats 6400000 in
theorem frL_end {C : Act → Prop} {v0 v1 v2 v3 v4 v5 v6 v7 v8 v9 v10 : Value} {a : Act} (hs : a.tmps.toList.length = 82) (hd : a.defers = []) (hv : a.tmps.toList.take 11 = [v0, v1, v2, v3, v4, v5, v6, v7, v8, v9, v10]) (h : ∀ f, C (frL v0 v1 v2 v3 v4 v5 v6 v7 v8 v9 v10 f)) : C a := by
 obtain ⟨t, d⟩ := a
 obtain rfl : d = [] := hd
 have e := row_of 82 t (by rw [← Array.length_toList]; exact hs)
 have g := h (fun i => t.getD i undef)
 have hi : ∀ (i : Nat) v, i < 11 → [v0, v1, v2, v3, v4, v5, v6, v7, v8, v9, v10][i]? = some v → t.getD i undef = v := fun i v hl hx => by
  rw [← hv, List.getElem?_take_of_lt hl] at hx
  rw [Array.getD_eq_getD_getElem?, ← Array.getElem?_toList, hx]
  rfl
 obtain rfl := hi 0 v0 (by decide) rfl
 obtain rfl := hi 1 v1 (by decide) rfl
 obtain rfl := hi 2 v2 (by decide) rfl
 obtain rfl := hi 3 v3 (by decide) rfl
 obtain rfl := hi 4 v4 (by decide) rfl
 obtain rfl := hi 5 v5 (by decide) rfl
 obtain rfl := hi 6 v6 (by decide) rfl
 obtain rfl := hi 7 v7 (by decide) rfl
 obtain rfl := hi 8 v8 (by decide) rfl
 obtain rfl := hi 9 v9 (by decide) rfl
 obtain rfl := hi 10 v10 (by decide) rfl
 have e2 : frL (t.getD 0 undef) (t.getD 1 undef) (t.getD 2 undef) (t.getD 3 undef) (t.getD 4 undef) (t.getD 5 undef) (t.getD 6 undef) (t.getD 7 undef) (t.getD 8 undef) (t.getD 9 undef) (t.getD 10 undef) (fun i => t.getD i undef) = ⟨((List.range 82).map (fun i => t.getD i undef)).toArray, []⟩ := by kernel_rfl
 rw [e] at e2
 exact e2 ▸ g
section late
variable {P : Program} {ops : Array Oper} {Q : Exit → Act → World → Prop} {md : Region.Mode} {S : World → Prop}
end late
end Go.Proofs.YtjbkgmbakjnlhaaGreatDoor
