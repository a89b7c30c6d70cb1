/- Contracts of the leaves: l1In, clamp, szByteS, toByteS, eqByteS at equal bytes. -/
import Derived.Test.YtjbkgmbakjnlhaaProg
import Derived.WalkKit
import Derived.WalkSpells
import Derived.WalkLawsBesides
import Derived.Deep.QuietTactic
import Derived.BigQuiet
import Derived.Deep.OwnRows
import Derived.Lib.SmallJoins
import Derived.Laws.AppendOwnNone
namespace Go.Proofs.Ytjbkgmbakjnlhaa
open Go.RowKit

theorem ret_int {k : IntKind} {a b : Int} (h : a = b) : Ending.returned (.int k a) = .returned (.int k b) := by rw [h]
theorem ret_bool {a b : Bool} (h : a = b) : Ending.returned (.bool a) = .returned (.bool b) := by rw [h]

def inB (n lo hi : Int) : Bool := decide (lo ≤ n) && decide (n ≤ hi)
def clampI (n lo hi : Int) : Int := if hi < (if n < lo then lo else n) then hi else (if n < lo then lo else n)

theorem clamp_eq (n lo hi : Int) (h : lo ≤ hi) : (n == clampI n lo hi) = inB n lo hi := by
  unfold clampI inB
  rw [Bool.eq_iff_iff]
  simp only [beq_iff_eq, Bool.and_eq_true, decide_eq_true_eq]
  repeat' split
  all_goals omega

set_option maxHeartbeats 400000 in
theorem l1In_any (n lo hi : Int) (w : World) :
    Calls Try.prog 54 #[.int .i64 n, .int .i64 lo, .int .i64 hi] w fun e w' => e = .returned (.bool (inB n lo hi)) ∧ w' = w := by
  by_cases h1 : lo ≤ n <;> by_cases h2 : n ≤ hi
  all_goals
    go_enter Try.func54, Try.ntmps54
    go_wp2
    go_ret
    refine ⟨?_, rfl⟩
    simp [inB, h1, h2]

set_option maxHeartbeats 400000 in
theorem clamp_any (n lo hi : Int) (w : World) :
    Calls Try.prog 89 #[.int .i64 n, .int .i64 lo, .int .i64 hi] w fun e w' => e = .returned (.int .i64 (clampI n lo hi)) ∧ w' = w := by
  go_enter Try.func89, Try.ntmps89
  go_wp2
  all_goals
    go_ret
    refine ⟨ret_int ?_, rfl⟩
    unfold clampI
    repeat' split
    all_goals first | rfl | (simp_all; done) | (simp_all; omega) | omega

set_option maxHeartbeats 400000 in
theorem szByteS_any (a : Option Addr) (len cap : Nat) (left : Int) (w : World) (h0 : 0 ≤ left) (h1 : left ≤ 1048576) (hl : (len : Int) ≤ 9223372036854775807) :
    Calls Try.prog 57 #[.slice a len cap, .int .i64 left] w fun e w' => e = .returned (.int .i64 (if left < len then -1 else left - len)) ∧ w' = w := by
  by_cases h : left < len
  all_goals
    go_enter Try.func57, Try.ntmps57
    go_wp2
    go_ret
    exact ⟨rfl, rfl⟩

/-- the cells of a row of bytes -/
def cellsOf (zs : List Int) : Array Value := (zs.map (Value.int .u8)).toArray
/-- the cells behind k rounds of a copy -/
def cellsTo (zs : List Int) (k : Nat) : Array Value := ((zs.take k).map (Value.int .u8) ++ List.replicate (zs.length - k) (Value.int .u8 0)).toArray

theorem cellsTo_zero (zs : List Int) : cellsTo zs 0 = madeCells #[.int .u8 0] zs.length := by
  apply Array.ext_getElem?
  intro i
  by_cases h : i < zs.length
  · simp [cellsTo, madeCells, h, Nat.mod_one]
  · simp [cellsTo, madeCells, h]
theorem cellsTo_all (zs : List Int) : cellsTo zs zs.length = cellsOf zs := by
  simp [cellsTo, cellsOf]
theorem cellsTo_succ (zs : List Int) (k : Nat) (h : k < zs.length) : (cellsTo zs k).setIfInBounds k (.int .u8 (zs.getD k 0)) = cellsTo zs (k + 1) := by
  apply Array.ext_getElem?
  intro i
  simp only [cellsTo, List.setIfInBounds_toArray, List.getElem?_toArray]
  rw [List.getElem?_set]
  have hl : (List.map (Value.int IntKind.u8) (List.take k zs)).length = k := by simp; omega
  have hl' : (List.map (Value.int IntKind.u8) (List.take (k + 1) zs)).length = k + 1 := by simp; omega
  rcases Nat.lt_trichotomy i k with hi | hi | hi
  · rw [if_neg (by omega), List.getElem?_append_left (by omega), List.getElem?_append_left (by omega)]
    simp [hi, show i < k + 1 by omega]
  · subst hi
    rw [if_pos rfl, if_pos (by simp; omega), List.getElem?_append_left (by omega)]
    simp [List.getElem?_eq_getElem h]
  · rw [if_neg (by omega), List.getElem?_append_right (by omega), List.getElem?_append_right (by omega), hl, hl']
    by_cases h2 : i < zs.length
    · simp [show i - k < zs.length - k by omega, show i - (k + 1) < zs.length - (k + 1) by omega]
    · simp [show ¬ i - k < zs.length - k by omega, show ¬ i - (k + 1) < zs.length - (k + 1) by omega]
theorem cellsTo_at (zs : List Int) (k : Nat) (h : k < zs.length) : (cellsTo zs k)[k]? = some (.int .u8 0) := by
  have hl : (List.map (Value.int IntKind.u8) (List.take k zs)).length = k := by simp; omega
  simp only [cellsTo, List.getElem?_toArray]
  rw [List.getElem?_append_right (by omega), hl, List.getElem?_replicate, if_pos (by omega)]
theorem cellsTo_size (zs : List Int) (k : Nat) (h : k ≤ zs.length) : (cellsTo zs k).size = zs.length := by
  simp [cellsTo]; omega

theorem Try.info5 : (Try.prog.info? 5).map (fun i => (i.zero, i.size, i.bytes)) = some (some (.int .u8 0), 1, 1) := by kernel_rfl

/-- WHAT A SLICE OF BYTES HOLDS: so many numbers, from its address on. -/
def RdB (w : World) (a : Option Addr) (len : Nat) (zs : List Int) : Prop :=
  zs.length = len ∧ (len = 0 ∨ ∃ b off, a = some ⟨b, off, none⟩ ∧ b < w.heap.size ∧ ∀ k, k < len → w.cell? ⟨b, off + k, none⟩ = some (.int .u8 (zs.getD k 0)))
theorem RdB.below {w w' : World} {a : Option Addr} {len : Nat} {zs : List Int} (h : RdB w a len zs) (hb : Below w.heap.size w w') : RdB w' a len zs := by
  refine ⟨h.1, h.2.imp id ?_⟩
  rintro ⟨b, off, ha, hlt, hc⟩
  exact ⟨b, off, ha, Nat.lt_of_lt_of_le hlt hb.size, fun k hk => (hb.cell (p := ⟨b, off + k, none⟩) hlt).trans (hc k hk)⟩
theorem RdB.of_block {w : World} {g : Nat} {zs : List Int} {t : TypeId} {fr : Nat × Nat} (h : w.heap[g]? = some (.cells (cellsOf zs) t fr)) : RdB w (some ⟨g, 0, none⟩) zs.length zs := by
  refine ⟨rfl, Or.inr ⟨g, 0, rfl, ?_, fun k hk => ?_⟩⟩
  · rcases Nat.lt_or_ge g w.heap.size with h' | h'
    · exact h'
    · rw [Array.getElem?_eq_none h'] at h; cases h
  · simp [World.cell?, h, cellsOf, List.getElem?_eq_getElem hk]

set_option maxHeartbeats 800000 in
theorem toByteS_any (a : Option Addr) (len cap : Nat) (zs : List Int) (w : World) (hr : RdB w a len zs) (hl : len ≤ 1048576) :
    Calls Try.prog 58 #[.slice a len cap] w fun e w' => e = .returned (.slice (some ⟨w.heap.size, 0, none⟩) len len) ∧ w' = w.alloc (.cells (cellsOf zs) 5) := by
  obtain ⟨hz, hc⟩ := hr
  subst hz
  have hmk := run_make_row' (P := Try.prog) 22 5 (.int .u8 0) 1 Try.underlying22 Try.info5 rfl .i64 .i64 zs.length (by omega) (by omega)
  rw [← cellsTo_zero] at hmk
  rcases hc with h0 | ⟨b, off, rfl, hb, hc⟩
  · have hnil : zs = [] := List.length_eq_zero_iff.1 h0
    subst hnil
    have hmk' : ∀ w : World, (Instr.makeSlice 22 (.int .i64 0) (.int .i64 0)).run Try.prog w = .ok (.slice (some ⟨w.heap.size, 0, none⟩) 0 0) (w.alloc (.cells (cellsTo [] 0) 5)) := hmk
    clear hmk
    go_enter Try.func58, Try.ntmps58
    go_wp2
    refine wp_loop_rounds 1 ?_
    rw [rounds_succ]
    go_wp2
    go_ret
    exact ⟨rfl, rfl⟩
  · go_enter Try.func58, Try.ntmps58
    go_wp2
    go_loopw [4] (fun i wr => ∃ k : Nat, k ≤ zs.length ∧ i = .int .i64 k ∧ wr = w.alloc (.cells (cellsTo zs k) 5)) (fun i _ => zs.length - (intOf i).toNat)
    case atStart => exact ⟨0, Nat.zero_le _, rfl, rfl⟩
    case round =>
      obtain ⟨k, hk, rfl, rfl⟩ := hrel
      by_cases hlt : k < zs.length
      · have hcell := hc k hlt
        have hck := cellsTo_at zs k hlt
        have h := cellsTo_succ zs k hlt
        simp only [List.getD, List.getElem?_eq_getElem hlt, Option.getD_some] at h
        have HS : Hid ((cellsTo zs k).setIfInBounds k (.int .u8 zs[k]) = cellsTo zs (k + 1)) := h
        clear h
        clear hc hmk
        go_wp2
        go_roundw
        case rel => exact ⟨k + 1, by omega, by go_num, by rw [HS.out]⟩
        case measure => simp [intOf]; omega
      · go_wp2
        go_ret
        have e : k = zs.length := by omega
        subst e
        exact ⟨rfl, by rw [cellsTo_all]⟩

set_option maxHeartbeats 800000 in
theorem eqByteS_same (a1 a2 : Option Addr) (len cap1 cap2 : Nat) (zs : List Int) (w : World) (hr1 : RdB w a1 len zs) (hr2 : RdB w a2 len zs) (hl : len ≤ 1048576) :
    Calls Try.prog 59 #[.slice a1 len cap1, .slice a2 len cap2] w fun e w' => e = .returned (.bool true) ∧ ∃ n, w' = w.drewN n := by
  obtain ⟨hz, hc1⟩ := hr1
  obtain ⟨_, hc2⟩ := hr2
  subst hz
  have hone : ((zs.length : Int) != (zs.length : Int)) = false := by simp
  by_cases h0 : zs.length = 0
  · have hnil : zs = [] := List.length_eq_zero_iff.1 h0
    subst hnil
    clear hc1 hc2 hone
    go_enter Try.func59, Try.ntmps59
    go_wp2
    refine wp_loop_rounds 1 ?_
    rw [rounds_succ]
    go_wp2
    go_ret
    exact ⟨rfl, 0, rfl⟩
  · obtain ⟨b1, off1, rfl, hb1, hc1⟩ := hc1.resolve_left h0
    obtain ⟨b2, off2, rfl, hb2, hc2⟩ := hc2.resolve_left h0
    go_enter Try.func59, Try.ntmps59
    go_wp2
    go_loopw [5] (fun i wr => ∃ k n : Nat, k ≤ zs.length ∧ i = .int .i64 k ∧ wr = w.drewN n) (fun i _ => zs.length - (intOf i).toNat)
    case atStart => exact ⟨0, 0, Nat.zero_le _, rfl, rfl⟩
    case round =>
      obtain ⟨k, n, hk, rfl, rfl⟩ := hrel
      by_cases hlt : k < zs.length
      · have hcell1 := hc1 k hlt
        have hcell2 := hc2 k hlt
        have hi : (k : Int) < (zs.length : Int) := by omega
        clear hc1 hc2
        go_wp2
        go_quiet (fail)
        go_wp2
        go_roundw
        case rel => exact ⟨k + 1, n + nq, by omega, by go_num, rfl⟩
        case measure => simp [intOf]; omega
      · go_wp2
        go_ret
        exact ⟨rfl, n, rfl⟩
end Go.Proofs.Ytjbkgmbakjnlhaa

/- Contracts of szFragPacket, toFragPacket, eqFragPacket at equal packets. -/
namespace Go.Proofs.Ytjbkgmbakjnlhaa
open Go.RowKit

theorem heap_new (w : World) (o : Obj) (n : Nat) (h : n = w.heap.size) : (w.alloc o).heap[n]? = some o := by
  subst h
  show (w.heap.push o)[w.heap.size]? = _
  simp

/-- the plain fields of a packet -/
structure Pk where
  src : Int
  dst : Int
  kind : Int
  id : Int
  hops : Int
  whole : Bool
  off : Int
  more : Bool

/-- a packet as a value -/
def Pk.val (p : Pk) (v : Value) : Value := .agg #[.int .i64 p.src, .int .i64 p.dst, .int .i64 p.kind, .int .i64 p.id, .int .i64 p.hops, .bool p.whole, .int .i64 p.off, .bool p.more, v]

set_option maxHeartbeats 400000 in
theorem szFragPacket_any (p : Pk) (a : Option Addr) (len cap : Nat) (left : Int) (w : World) (h0 : 0 ≤ left) (h1 : left ≤ 1048576) (hl : (len : Int) ≤ 9223372036854775807) :
    Calls Try.prog 21 #[p.val (.slice a len cap), .int .i64 left] w fun e w' => e = .returned (.int .i64 (if left < len then -1 else left - len)) ∧ Below w.heap.size w w' := by
  unfold Pk.val
  by_cases h : left < len
  · have hi : (if left < (len : Int) then (-1 : Int) else left - len) = -1 := if_pos h
    rw [hi]
    have HI : Hid ((if left < (len : Int) then (-1 : Int) else left - len) = -1) := hi
    clear hi
    go_enter Try.func21, Try.ntmps21
    go_wp2_with (go_at_call 57; refine (szByteS_any _ _ _ _ _ h0 h1 hl).mono ?_; rw [HI.out]; rintro e w' ⟨rfl, rfl⟩)
    go_ret
    exact ⟨rfl, (Below.refl _ _).alloc (Nat.le_refl _) _⟩
  · have hi : (if left < (len : Int) then (-1 : Int) else left - len) = left - len := if_neg h
    rw [hi]
    have HI : Hid ((if left < (len : Int) then (-1 : Int) else left - len) = left - len) := hi
    clear hi
    go_enter Try.func21, Try.ntmps21
    go_wp2_with (go_at_call 57; refine (szByteS_any _ _ _ _ _ h0 h1 hl).mono ?_; rw [HI.out]; rintro e w' ⟨rfl, rfl⟩)
    go_ret
    exact ⟨rfl, (Below.refl _ _).alloc (Nat.le_refl _) _⟩

set_option maxHeartbeats 800000 in
theorem toFragPacket_any (p : Pk) (a : Option Addr) (len cap : Nat) (zs : List Int) (w : World) (hr : RdB w a len zs) (hl : len ≤ 1048576) :
    Calls Try.prog 22 #[p.val (.slice a len cap)] w fun e w' => ∃ g, e = .returned (p.val (.slice (some ⟨g, 0, none⟩) len len)) ∧ w.heap.size ≤ g ∧ w'.heap[g]? = some (.cells (cellsOf zs) 5 (0, 0)) ∧ Below w.heap.size w w' := by
  unfold Pk.val
  go_enter Try.func22, Try.ntmps22
  go_wp2_with fail
  refine (toByteS_any a len cap zs _ (hr.below (Joins.below_alloc3 _ _ _ _)) hl).mono ?_
  rintro e w' ⟨rfl, rfl⟩
  go_wp2
  refine bodyPost_ret (v := .agg #[.int .i64 p.src, .int .i64 p.dst, .int .i64 p.kind, .int .i64 p.id, .int .i64 p.hops, .bool p.whole, .int .i64 p.off, .bool p.more, .slice (some ⟨w.heap.size + 3, 0, none⟩) len len]) (by simp [results, Try.results22, go_sem]) rfl ⟨w.heap.size + 3, rfl, by omega, ?_, ?_⟩
  · exact heap_new _ _ _ (by simp)
  · exact (Joins.below_alloc3 _ _ _ _).alloc (by simp; omega) _

set_option maxHeartbeats 1600000 in
theorem eqFragPacket_same (p : Pk) (a1 a2 : Option Addr) (len cap1 cap2 : Nat) (zs : List Int) (w : World) (hr1 : RdB w a1 len zs) (hr2 : RdB w a2 len zs) (hl : len ≤ 1048576) :
    Calls Try.prog 23 #[p.val (.slice a1 len cap1), p.val (.slice a2 len cap2)] w fun e w' => e = .returned (.bool true) ∧ Below w.heap.size w w' := by
  unfold Pk.val
  have hn : ∀ x : Int, (x != x) = false := fun x => by simp
  have hb : ∀ x : Bool, (x != x) = false := fun x => by simp
  go_enter Try.func23, Try.ntmps23
  go_wp2_with fail
  refine (eqByteS_same a1 a2 len cap1 cap2 zs _ (hr1.below (Joins.below_alloc2 _ _ _)) (hr2.below (Joins.below_alloc2 _ _ _)) hl).mono ?_
  rintro e w' ⟨rfl, n, rfl⟩
  go_wp2
  go_ret
  exact ⟨rfl, (Joins.below_alloc2 _ _ _).trans (Joins.below_draws _ _ _)⟩

end Go.Proofs.Ytjbkgmbakjnlhaa

/- A packet in a box in memory; what a call leaves of it. -/
namespace Go.Proofs.Ytjbkgmbakjnlhaa
open Go.RowKit

/-- a packet lies in a box -/
structure Boxed (w : World) (b : Nat) (p : Pk) (v : Value) : Prop where
  lt : b < w.heap.size
  c0 : w.cell? ⟨b, 0, none⟩ = some (.int .i64 p.src)
  c1 : w.cell? ⟨b, 1, none⟩ = some (.int .i64 p.dst)
  c2 : w.cell? ⟨b, 2, none⟩ = some (.int .i64 p.kind)
  c3 : w.cell? ⟨b, 3, none⟩ = some (.int .i64 p.id)
  c4 : w.cell? ⟨b, 4, none⟩ = some (.int .i64 p.hops)
  c5 : w.cell? ⟨b, 5, none⟩ = some (.bool p.whole)
  c6 : w.cell? ⟨b, 6, none⟩ = some (.int .i64 p.off)
  c7 : w.cell? ⟨b, 7, none⟩ = some (.bool p.more)
  c8 : w.cell? ⟨b, 8, none⟩ = some v
theorem Boxed.below {w w' : World} {b : Nat} {p : Pk} {v : Value} (h : Boxed w b p v) (hb : Below w.heap.size w w') : Boxed w' b p v :=
  have e : ∀ o, w'.cell? ⟨b, o, none⟩ = w.cell? ⟨b, o, none⟩ := fun o => hb.cell (p := ⟨b, o, none⟩) h.lt
  ⟨Nat.lt_of_lt_of_le h.lt hb.size, (e 0).trans h.c0, (e 1).trans h.c1, (e 2).trans h.c2, (e 3).trans h.c3, (e 4).trans h.c4, (e 5).trans h.c5, (e 6).trans h.c6, (e 7).trans h.c7, (e 8).trans h.c8⟩
/-- a packet's cells -/
def pcells (p : Pk) (v : Value) : Array Value := #[.int .i64 p.src, .int .i64 p.dst, .int .i64 p.kind, .int .i64 p.id, .int .i64 p.hops, .bool p.whole, .int .i64 p.off, .bool p.more, v]
theorem Boxed.new (w : World) (p : Pk) (v : Value) (t : TypeId) : Boxed (w.alloc (.cells (pcells p v) t)) w.heap.size p v := by
  have e : ∀ o, (w.alloc (.cells (pcells p v) t)).cell? ⟨w.heap.size, o, none⟩ = (pcells p v)[o]? := fun o => World.cell?_alloc_at _ _ _ _ rfl
  exact ⟨by simp, e 0, e 1, e 2, e 3, e 4, e 5, e 6, e 7, e 8⟩
theorem Boxed.newAt (w : World) (n : Nat) (p : Pk) (v : Value) (t : TypeId) (h : n = w.heap.size) : Boxed (w.alloc (.cells (pcells p v) t)) n p v := by
  subst h; exact Boxed.new w p v t
theorem Boxed.upto {w w' : World} {B b : Nat} {p : Pk} {v : Value} (h : Boxed w b p v) (hb : Below B w w') (hB : b < B) : Boxed w' b p v :=
  have e : ∀ o, w'.cell? ⟨b, o, none⟩ = w.cell? ⟨b, o, none⟩ := fun o => hb.cell (p := ⟨b, o, none⟩) hB
  ⟨Nat.lt_of_lt_of_le h.lt hb.size, (e 0).trans h.c0, (e 1).trans h.c1, (e 2).trans h.c2, (e 3).trans h.c3, (e 4).trans h.c4, (e 5).trans h.c5, (e 6).trans h.c6, (e 7).trans h.c7, (e 8).trans h.c8⟩
theorem draw1 (w : World) : Below w.heap.size w w.drew := (Below.refl _ _).drew

/-- the packet of zeros -/
def zeroPk : Pk := ⟨0, 0, 0, 0, 0, false, 0, false⟩
theorem bcell {B : Nat} {W w1 : World} (hb : Below B W w1) : (∀ b o, b < B → w1.cell? ⟨b, o, none⟩ = W.cell? ⟨b, o, none⟩) ∧ (∀ b o, b < B → w1.frozen? ⟨b, o, none⟩ = W.frozen? ⟨b, o, none⟩) :=
  ⟨fun b o h => hb.cell (p := ⟨b, o, none⟩) h, fun b o h => hb.frozen (p := ⟨b, o, none⟩) h⟩
theorem own9 {w : World} {base : Nat} {e : TypeId} {size n : Nat} {v : Value} {xs : List Value} {b : Nat} (h : w.ownsRow base e size v n xs) (hb : b < base) (x0 x1 x2 x3 x4 x5 x6 x7 x8 : Value) :
    (((((((((w.setCell ⟨b, 0, none⟩ x0).setCell ⟨b, 1, none⟩ x1).setCell ⟨b, 2, none⟩ x2).setCell ⟨b, 3, none⟩ x3).setCell ⟨b, 4, none⟩ x4).setCell ⟨b, 5, none⟩ x5).setCell ⟨b, 6, none⟩ x6).setCell ⟨b, 7, none⟩ x7).setCell ⟨b, 8, none⟩ x8).ownsRow base e size v n xs :=
  (ownsRow_setCell_below (ownsRow_setCell_below (ownsRow_setCell_below (ownsRow_setCell_below (ownsRow_setCell_below (ownsRow_setCell_below (ownsRow_setCell_below (ownsRow_setCell_below (ownsRow_setCell_below h hb _) hb _) hb _) hb _) hb _) hb _) hb _) hb _) hb _)
theorem below9 {B : Nat} {a w : World} {b : Nat} (h : Below B a w) (hb : B ≤ b) (x0 x1 x2 x3 x4 x5 x6 x7 x8 : Value) :
    Below B a (((((((((w.setCell ⟨b, 0, none⟩ x0).setCell ⟨b, 1, none⟩ x1).setCell ⟨b, 2, none⟩ x2).setCell ⟨b, 3, none⟩ x3).setCell ⟨b, 4, none⟩ x4).setCell ⟨b, 5, none⟩ x5).setCell ⟨b, 6, none⟩ x6).setCell ⟨b, 7, none⟩ x7).setCell ⟨b, 8, none⟩ x8) :=
  (Below.setCell (Below.setCell (Below.setCell (Below.setCell (Below.setCell (Below.setCell (Below.setCell (Below.setCell (Below.setCell h hb _) hb _) hb _) hb _) hb _) hb _) hb _) hb _) hb _)
theorem Boxed.of_block {w : World} {b : Nat} {p : Pk} {v : Value} {t : TypeId} {fr : Nat × Nat} (h : w.heap[b]? = some (.cells (pcells p v) t fr)) : Boxed w b p v := by
  have e : ∀ o, w.cell? ⟨b, o, none⟩ = (pcells p v)[o]? := fun o => Joins.cell_of_block h o
  refine ⟨?_, e 0, e 1, e 2, e 3, e 4, e 5, e 6, e 7, e 8⟩
  rcases Nat.lt_or_ge b w.heap.size with h' | h'
  · exact h'
  · rw [Array.getElem?_eq_none h'] at h; cases h
theorem heap9 (w : World) (b k : Nat) (h : k ≠ b) (x0 x1 x2 x3 x4 x5 x6 x7 x8 : Value) : (((((((((w.setCell ⟨b, 0, none⟩ x0).setCell ⟨b, 1, none⟩ x1).setCell ⟨b, 2, none⟩ x2).setCell ⟨b, 3, none⟩ x3).setCell ⟨b, 4, none⟩ x4).setCell ⟨b, 5, none⟩ x5).setCell ⟨b, 6, none⟩ x6).setCell ⟨b, 7, none⟩ x7).setCell ⟨b, 8, none⟩ x8).heap[k]? = w.heap[k]? :=
  ((Below.heap_setCell _ _ _ _ h).trans ((Below.heap_setCell _ _ _ _ h).trans ((Below.heap_setCell _ _ _ _ h).trans ((Below.heap_setCell _ _ _ _ h).trans ((Below.heap_setCell _ _ _ _ h).trans ((Below.heap_setCell _ _ _ _ h).trans ((Below.heap_setCell _ _ _ _ h).trans ((Below.heap_setCell _ _ _ _ h).trans (Below.heap_setCell _ _ _ _ h)))))))))
end Go.Proofs.Ytjbkgmbakjnlhaa

/- Contracts of the two copies of a packet, and of the two FragHop. -/
namespace Go.Proofs.Ytjbkgmbakjnlhaa
open Go.RowKit

theorem add_none (b off j : Nat) : (Addr.mk b off none).add j = ⟨b, off + j, none⟩ := by
  unfold Addr.add
  split <;> simp_all
theorem cells_rdb {w : World} {ad : Addr} {len : Nat} {zs : List Int} (hr : RdB w (some ad) len zs) : ∀ j u, (zs.map (Value.int .u8))[j]? = some u → w.cell? (ad.add j) = some u := by
  intro j u hu
  obtain ⟨hz, h0 | ⟨b, off, ha, _, hc⟩⟩ := hr
  · subst hz
    rw [List.length_eq_zero_iff.1 h0] at hu
    simp at hu
  · cases ha
    have hj : j < zs.length := by
      rcases Nat.lt_or_ge j zs.length with h | h
      · exact h
      · rw [List.getElem?_eq_none (by simpa using h)] at hu; cases hu
    have := hc j (by omega)
    simp [List.getElem?_eq_getElem hj] at hu
    subst hu
    have h2 : w.cell? ⟨b, off + j, none⟩ = some (.int .u8 zs[j]) := by simpa [List.getD, List.getElem?_eq_getElem hj] using this
    rw [add_none]
    exact h2
theorem own_empty (w : World) (n base : Nat) (h : n = w.heap.size) (hb : base ≤ n) : (w.alloc (.cells #[] 5)).ownsRow base 5 1 (.slice (some ⟨n, 0, none⟩) 0 0) 0 [] :=
  ⟨rfl, Or.inr ⟨n, 0, #[], rfl, hb, heap_new _ _ _ h, Nat.le_refl _, by unfold maxLen; omega, rfl, rfl⟩⟩
theorem one_u8 (zs : List Int) : ∀ u ∈ zs.map (Value.int .u8), u.oneCell' = true := by
  intro u hu
  obtain ⟨x, _, rfl⟩ := List.mem_map.1 hu
  rfl

set_option maxHeartbeats 800000 in
theorem l1Copy_any (p : Pk) (ad : Addr) (len cap : Nat) (zs : List Int) (w : World) (hr : RdB w (some ad) len zs) (hl : len ≤ 1048576) :
    Calls Try.prog 56 #[p.val (.slice (some ad) len cap)] w fun e w' => ∃ g c, e = .returned (p.val (.slice (some ⟨g, 0, none⟩) len c)) ∧ w'.ownsRow w.heap.size 5 1 (.slice (some ⟨g, 0, none⟩) len c) len (zs.map (.int .u8)) ∧ Below w.heap.size w w' := by
  unfold Pk.val
  obtain ⟨i0, hi, hz0, hz1, hz2⟩ := info_parts Try.info5
  go_enter Try.func56, Try.ntmps56
  go_wp2_with (at_builtin; refine wpList_append_own _ rfl _ _ 22 rfl (w.heap.size + 2) 5 i0 (.int .u8 0) 1 1 Try.underlying22 hi hz0 hz1 hz2 rfl (by decide) (.slice (some ⟨w.heap.size + 2, 0, none⟩) 0 0) 0 [] rfl ?h1 ad len cap (zs.map (.int .u8)) rfl ?h2 ?h3 (one_u8 zs) ?h4 ?h5 ?h6 ?_)
  case h1 => exact own_empty _ _ _ (by simp) (by omega)
  case h2 => simp [hr.1]
  case h3 => exact cells_rdb (hr.below (Joins.below_alloc3 _ _ _ _))
  case h4 => unfold maxLen; omega
  case h5 => omega
  case h6 => simp
  intro v1 w1 hown hgrow hnil
  obtain ⟨g, c, rfl⟩ : ∃ g c, v1 = .slice (some ⟨g, 0, none⟩) len c := by
    rcases Joins.ownsRow_forms hown with h | h
    · exact absurd h.1 hnil
    · exact h
  have hb : Below (w.heap.size + 2) _ w1 := (Below.refl _ _).grown hgrow (by simp) (by intro k hk; simp [Value.ownBlock] at hk; omega)
  have hlt : w.heap.size + 2 < w1.heap.size := Nat.lt_of_lt_of_le (by simp) hb.size
  have hlt0 : w.heap.size < w1.heap.size := by omega
  have hlt1 : w.heap.size + 1 < w1.heap.size := by omega
  have hf := (bcell hb).2
  have X : Boxed w1 w.heap.size p (.slice (some ad) len cap) := (((Boxed.new w p (.slice (some ad) len cap) 24).below (Joins.below_alloc1 _ _)).below (Joins.below_alloc1 _ _)).upto hb (by omega)
  have Z : Boxed w1 (w.heap.size + 1) zeroPk (.slice none 0 0) := ((Boxed.newAt (w.alloc _) (w.heap.size + 1) zeroPk (.slice none 0 0) 24 (by simp)).below (Joins.below_alloc1 _ _)).upto hb (by omega)
  obtain ⟨_, c0, c1, c2, c3, c4, c5, c6, c7, c8⟩ := X
  obtain ⟨_, z0, z1, z2, z3, z4, z5, z6, z7, z8⟩ := Z
  have HB : Hid (Below w.heap.size w w1) := (Joins.below_alloc3 _ _ _ _).trans (hb.mono (by omega))
  have HO : Hid (w1.ownsRow (w.heap.size + 2) 5 1 (.slice (some ⟨g, 0, none⟩) len c) len (zs.map (.int .u8))) := hown
  clear hown hgrow hnil hb
  go_wp2
  refine bodyPost_ret (v := .agg #[.int .i64 p.src, .int .i64 p.dst, .int .i64 p.kind, .int .i64 p.id, .int .i64 p.hops, .bool p.whole, .int .i64 p.off, .bool p.more, .slice (some ⟨g, 0, none⟩) len c]) (by simp [results, Try.results56, go_sem, z0, z1, z2, z3, z4, z5, z6, z7, z8]) rfl ⟨g, c, rfl, ?_, ?_⟩
  · exact Joins.ownsRow_le (own9 (ownsRow_setCell_below HO.out (by simp) _) (by omega) _ _ _ _ _ _ _ _ _) (by omega)
  · exact below9 (Below.setCell HB.out (by simp) _) (by omega) _ _ _ _ _ _ _ _ _

set_option maxHeartbeats 800000 in
theorem clone_any (ad : Addr) (len cap : Nat) (zs : List Int) (w : World) (hr : RdB w (some ad) len zs) (hl : len ≤ 1048576) :
    Calls Try.prog 83 #[.slice (some ad) len cap] w fun e w' => ∃ g c, e = .returned (.slice (some ⟨g, 0, none⟩) len c) ∧ w'.ownsRow w.heap.size 5 1 (.slice (some ⟨g, 0, none⟩) len c) len (zs.map (.int .u8)) ∧ Below w.heap.size w w' := by
  obtain ⟨i0, hi, hz0, hz1, hz2⟩ := info_parts Try.info5
  have hq := fun (w : World) => Lib.run_eql_slice_nil (P := Try.prog) w 22 5 (some ad) len cap 0 0 Try.underlying22
  go_enter Try.func83, Try.ntmps83
  go_wp2_with (at_builtin; refine wpList_append_own _ rfl _ _ 22 rfl w.heap.size 5 i0 (.int .u8 0) 1 1 Try.underlying22 hi hz0 hz1 hz2 rfl (by decide) (.slice (some ⟨w.heap.size, 0, none⟩) 0 0) 0 [] rfl ?h1 ad len cap (zs.map (.int .u8)) rfl ?h2 ?h3 (one_u8 zs) ?h4 ?h5 ?h6 ?_)
  case h1 => exact own_empty _ _ _ (by simp) (by omega)
  case h2 => simp [hr.1]
  case h3 => exact cells_rdb (hr.below (Joins.below_alloc1 _ _))
  case h4 => unfold maxLen; omega
  case h5 => omega
  case h6 => simp
  intro v1 w1 hown hgrow hnil
  obtain ⟨g, c, rfl⟩ : ∃ g c, v1 = .slice (some ⟨g, 0, none⟩) len c := by
    rcases Joins.ownsRow_forms hown with h | h
    · exact absurd h.1 hnil
    · exact h
  have hb : Below w.heap.size _ w1 := (Below.refl _ _).grown hgrow (by simp) (by intro k hk; simp [Value.ownBlock] at hk; omega)
  have HB : Hid (Below w.heap.size w w1) := (Joins.below_alloc1 _ _).trans hb
  have HO : Hid (w1.ownsRow w.heap.size 5 1 (.slice (some ⟨g, 0, none⟩) len c) len (zs.map (.int .u8))) := by simpa [Hid] using hown
  clear hown hgrow hnil hb
  go_wp2
  go_ret
  exact ⟨g, c, rfl, HO.out, HB.out⟩
end Go.Proofs.Ytjbkgmbakjnlhaa
