/- Contracts of the leaves: l1In, clamp, szByteS, toByteS, eqByteS at equal bytes. -/
import Derived.Test.YtjbkgmbakjnlhabGreatDoorProg
import Derived.WalkKit
import Derived.WalkSpells
import Derived.WalkLawsBesides
import Derived.Deep.QuietTactic
import Derived.BigQuiet
import Derived.Deep.OwnRows
import Derived.Lib.SmallJoins
import Derived.ProofKit
import Derived.OpenShut
namespace Go.Proofs.YtjbkgmbakjnlhabGreatDoor
set_option maxRecDepth 100000
open Go.RowKit

theorem ret_int {k : IntKind} {a b : Int} (h : a = b) : Ending.returned (.int k a) = .returned (.int k b) := by rw [h]
theorem ret_bool {a b : Bool} (h : a = b) : Ending.returned (.bool a) = .returned (.bool b) := by rw [h]

def inB (n lo hi : Int) : Bool := decide (lo ≤ n) && decide (n ≤ hi)
def clampI (n lo hi : Int) : Int := if hi < (if n < lo then lo else n) then hi else (if n < lo then lo else n)

theorem clamp_eq (n lo hi : Int) (h : lo ≤ hi) : (n == clampI n lo hi) = inB n lo hi := by
  unfold clampI inB
  rw [Bool.eq_iff_iff]
  simp only [beq_iff_eq, Bool.and_eq_true, decide_eq_true_eq]
  repeat' split
  all_goals omega

set_option maxHeartbeats 400000 in
theorem l1In_any (n lo hi : Int) (w : World) :
    Calls Tryz.prog 42 #[.int .i64 n, .int .i64 lo, .int .i64 hi] w fun e w' => e = .returned (.bool (inB n lo hi)) ∧ w' = w := by
  by_cases h1 : lo ≤ n <;> by_cases h2 : n ≤ hi
  all_goals
    go_enter Tryz.func42, Tryz.ntmps42
    go_wp2
    go_ret
    refine ⟨?_, rfl⟩
    simp [inB, h1, h2]

set_option maxHeartbeats 400000 in
theorem clamp_any (n lo hi : Int) (w : World) :
    Calls Tryz.prog 72 #[.int .i64 n, .int .i64 lo, .int .i64 hi] w fun e w' => e = .returned (.int .i64 (clampI n lo hi)) ∧ w' = w := by
  go_enter Tryz.func72, Tryz.ntmps72
  go_wp2
  all_goals
    go_ret
    refine ⟨ret_int ?_, rfl⟩
    unfold clampI
    repeat' split
    all_goals first | rfl | (simp_all; done) | (simp_all; omega) | omega

set_option maxHeartbeats 400000 in
theorem szByteS_any (a : Option Addr) (len cap : Nat) (left : Int) (w : World) (h0 : 0 ≤ left) (h1 : left ≤ 1048576) (hl : (len : Int) ≤ 9223372036854775807) :
    Calls Tryz.prog 20 #[.slice a len cap, .int .i64 left] w fun e w' => e = .returned (.int .i64 (if left < len then -1 else left - len)) ∧ w' = w := by
  by_cases h : left < len
  all_goals
    go_enter Tryz.func20, Tryz.ntmps20
    go_wp2
    go_ret
    exact ⟨rfl, rfl⟩

/-- the cells of a row of bytes -/
def cellsOf (zs : List Int) : Array Value := (zs.map (Value.int .u8)).toArray
/-- the cells behind k rounds of a copy -/
def cellsTo (zs : List Int) (k : Nat) : Array Value := ((zs.take k).map (Value.int .u8) ++ List.replicate (zs.length - k) (Value.int .u8 0)).toArray

theorem cellsTo_zero (zs : List Int) : cellsTo zs 0 = madeCells #[.int .u8 0] zs.length := by
  apply Array.ext_getElem?
  intro i
  by_cases h : i < zs.length
  · simp [cellsTo, madeCells, h, Nat.mod_one]
  · simp [cellsTo, madeCells, h]
theorem cellsTo_all (zs : List Int) : cellsTo zs zs.length = cellsOf zs := by
  simp [cellsTo, cellsOf]
theorem cellsTo_succ (zs : List Int) (k : Nat) (h : k < zs.length) : (cellsTo zs k).setIfInBounds k (.int .u8 (zs.getD k 0)) = cellsTo zs (k + 1) := by
  apply Array.ext_getElem?
  intro i
  simp only [cellsTo, List.setIfInBounds_toArray, List.getElem?_toArray]
  rw [List.getElem?_set]
  have hl : (List.map (Value.int IntKind.u8) (List.take k zs)).length = k := by simp; omega
  have hl' : (List.map (Value.int IntKind.u8) (List.take (k + 1) zs)).length = k + 1 := by simp; omega
  rcases Nat.lt_trichotomy i k with hi | hi | hi
  · rw [if_neg (by omega), List.getElem?_append_left (by omega), List.getElem?_append_left (by omega)]
    simp [hi, show i < k + 1 by omega]
  · subst hi
    rw [if_pos rfl, if_pos (by simp; omega), List.getElem?_append_left (by omega)]
    simp [List.getElem?_eq_getElem h]
  · rw [if_neg (by omega), List.getElem?_append_right (by omega), List.getElem?_append_right (by omega), hl, hl']
    by_cases h2 : i < zs.length
    · simp [show i - k < zs.length - k by omega, show i - (k + 1) < zs.length - (k + 1) by omega]
    · simp [show ¬ i - k < zs.length - k by omega, show ¬ i - (k + 1) < zs.length - (k + 1) by omega]
theorem cellsTo_at (zs : List Int) (k : Nat) (h : k < zs.length) : (cellsTo zs k)[k]? = some (.int .u8 0) := by
  have hl : (List.map (Value.int IntKind.u8) (List.take k zs)).length = k := by simp; omega
  simp only [cellsTo, List.getElem?_toArray]
  rw [List.getElem?_append_right (by omega), hl, List.getElem?_replicate, if_pos (by omega)]
theorem cellsTo_size (zs : List Int) (k : Nat) (h : k ≤ zs.length) : (cellsTo zs k).size = zs.length := by
  simp [cellsTo]; omega

theorem Tryz.info5 : (Tryz.prog.info? 5).map (fun i => (i.zero, i.size, i.bytes)) = some (some (.int .u8 0), 1, 1) := by kernel_rfl

/-- WHAT A SLICE OF BYTES HOLDS: so many numbers, from its address on. -/
def RdB (w : World) (a : Option Addr) (len : Nat) (zs : List Int) : Prop :=
  zs.length = len ∧ (len = 0 ∨ ∃ b off, a = some ⟨b, off, none⟩ ∧ b < w.heap.size ∧ ∀ k, k < len → w.cell? ⟨b, off + k, none⟩ = some (.int .u8 (zs.getD k 0)))
theorem RdB.below {w w' : World} {a : Option Addr} {len : Nat} {zs : List Int} (h : RdB w a len zs) (hb : Below w.heap.size w w') : RdB w' a len zs := by
  refine ⟨h.1, h.2.imp id ?_⟩
  rintro ⟨b, off, ha, hlt, hc⟩
  exact ⟨b, off, ha, Nat.lt_of_lt_of_le hlt hb.size, fun k hk => (hb.cell (p := ⟨b, off + k, none⟩) hlt).trans (hc k hk)⟩
theorem RdB.of_block {w : World} {g : Nat} {zs : List Int} {t : TypeId} {fr : Nat × Nat} (h : w.heap[g]? = some (.cells (cellsOf zs) t fr)) : RdB w (some ⟨g, 0, none⟩) zs.length zs := by
  refine ⟨rfl, Or.inr ⟨g, 0, rfl, ?_, fun k hk => ?_⟩⟩
  · rcases Nat.lt_or_ge g w.heap.size with h' | h'
    · exact h'
    · rw [Array.getElem?_eq_none h'] at h; cases h
  · simp [World.cell?, h, cellsOf, List.getElem?_eq_getElem hk]

set_option maxHeartbeats 800000 in
theorem toByteS_any (a : Option Addr) (len cap : Nat) (zs : List Int) (w : World) (hr : RdB w a len zs) (hl : len ≤ 1048576) :
    Calls Tryz.prog 29 #[.slice a len cap] w fun e w' => e = .returned (.slice (some ⟨w.heap.size, 0, none⟩) len len) ∧ w' = w.alloc (.cells (cellsOf zs) 5) := by
  obtain ⟨hz, hc⟩ := hr
  subst hz
  have hmk := run_make_row' (P := Tryz.prog) 25 5 (.int .u8 0) 1 Tryz.underlying25 Tryz.info5 rfl .i64 .i64 zs.length (by omega) (by omega)
  rw [← cellsTo_zero] at hmk
  rcases hc with h0 | ⟨b, off, rfl, hb, hc⟩
  · have hnil : zs = [] := List.length_eq_zero_iff.1 h0
    subst hnil
    have hmk' : ∀ w : World, (Instr.makeSlice 25 (.int .i64 0) (.int .i64 0)).run Tryz.prog w = .ok (.slice (some ⟨w.heap.size, 0, none⟩) 0 0) (w.alloc (.cells (cellsTo [] 0) 5)) := hmk
    clear hmk
    go_enter Tryz.func29, Tryz.ntmps29
    go_wp2
    refine wp_loop_rounds 1 ?_
    rw [rounds_succ]
    go_wp2
    go_ret
    exact ⟨rfl, rfl⟩
  · go_enter Tryz.func29, Tryz.ntmps29
    go_wp2
    go_loopw [4] (fun i wr => ∃ k : Nat, k ≤ zs.length ∧ i = .int .i64 k ∧ wr = w.alloc (.cells (cellsTo zs k) 5)) (fun i _ => zs.length - (intOf i).toNat)
    case atStart => exact ⟨0, Nat.zero_le _, rfl, rfl⟩
    case round =>
      obtain ⟨k, hk, rfl, rfl⟩ := hrel
      by_cases hlt : k < zs.length
      · have hcell := hc k hlt
        have hck := cellsTo_at zs k hlt
        have h := cellsTo_succ zs k hlt
        simp only [List.getD, List.getElem?_eq_getElem hlt, Option.getD_some] at h
        have HS : Hid ((cellsTo zs k).setIfInBounds k (.int .u8 zs[k]) = cellsTo zs (k + 1)) := h
        clear h
        clear hc hmk
        go_wp2
        go_roundw
        case rel => exact ⟨k + 1, by omega, by go_num, by rw [HS.out]⟩
        case measure => simp [intOf]; omega
      · go_wp2
        go_ret
        have e : k = zs.length := by omega
        subst e
        exact ⟨rfl, by rw [cellsTo_all]⟩

set_option maxHeartbeats 800000 in
theorem eqByteS_same (a1 a2 : Option Addr) (len cap1 cap2 : Nat) (zs : List Int) (w : World) (hr1 : RdB w a1 len zs) (hr2 : RdB w a2 len zs) (hl : len ≤ 1048576) :
    Calls Tryz.prog 35 #[.slice a1 len cap1, .slice a2 len cap2] w fun e w' => e = .returned (.bool true) ∧ ∃ n, w' = w.drewN n := by
  obtain ⟨hz, hc1⟩ := hr1
  obtain ⟨_, hc2⟩ := hr2
  subst hz
  have hone : ((zs.length : Int) != (zs.length : Int)) = false := by simp
  by_cases h0 : zs.length = 0
  · have hnil : zs = [] := List.length_eq_zero_iff.1 h0
    subst hnil
    clear hc1 hc2 hone
    go_enter Tryz.func35, Tryz.ntmps35
    go_wp2
    refine wp_loop_rounds 1 ?_
    rw [rounds_succ]
    go_wp2
    go_ret
    exact ⟨rfl, 0, rfl⟩
  · obtain ⟨b1, off1, rfl, hb1, hc1⟩ := hc1.resolve_left h0
    obtain ⟨b2, off2, rfl, hb2, hc2⟩ := hc2.resolve_left h0
    go_enter Tryz.func35, Tryz.ntmps35
    go_wp2
    go_loopw [5] (fun i wr => ∃ k n : Nat, k ≤ zs.length ∧ i = .int .i64 k ∧ wr = w.drewN n) (fun i _ => zs.length - (intOf i).toNat)
    case atStart => exact ⟨0, 0, Nat.zero_le _, rfl, rfl⟩
    case round =>
      obtain ⟨k, n, hk, rfl, rfl⟩ := hrel
      by_cases hlt : k < zs.length
      · have hcell1 := hc1 k hlt
        have hcell2 := hc2 k hlt
        have hi : (k : Int) < (zs.length : Int) := by omega
        clear hc1 hc2
        go_wp2
        go_quiet (fail)
        go_wp2
        go_roundw
        case rel => exact ⟨k + 1, n + nq, by omega, by go_num, rfl⟩
        case measure => simp [intOf]; omega
      · go_wp2
        go_ret
        exact ⟨rfl, n, rfl⟩
end Go.Proofs.YtjbkgmbakjnlhabGreatDoor

/- Contracts of szFragPacket, toFragPacket, eqFragPacket at equal packets. -/
namespace Go.Proofs.YtjbkgmbakjnlhabGreatDoor
set_option maxRecDepth 100000
open Go.RowKit

theorem heap_new (w : World) (o : Obj) (n : Nat) (h : n = w.heap.size) : (w.alloc o).heap[n]? = some o := by
  subst h
  show (w.heap.push o)[w.heap.size]? = _
  simp

/-- the plain fields of a packet -/
structure Pk where
  src : Int
  dst : Int
  kind : Int
  id : Int
  hops : Int
  whole : Bool
  off : Int
  more : Bool

/-- a packet as a value -/
def Pk.val (p : Pk) (v : Value) : Value := .agg #[.int .i64 p.src, .int .i64 p.dst, .int .i64 p.kind, .int .i64 p.id, .int .i64 p.hops, .bool p.whole, .int .i64 p.off, .bool p.more, v]

set_option maxHeartbeats 400000 in
theorem szFragPacket_any (p : Pk) (a : Option Addr) (len cap : Nat) (left : Int) (w : World) (h0 : 0 ≤ left) (h1 : left ≤ 1048576) (hl : (len : Int) ≤ 9223372036854775807) :
    Calls Tryz.prog 6 #[p.val (.slice a len cap), .int .i64 left] w fun e w' => e = .returned (.int .i64 (if left < len then -1 else left - len)) ∧ Below w.heap.size w w' := by
  unfold Pk.val
  by_cases h : left < len
  · have hi : (if left < (len : Int) then (-1 : Int) else left - len) = -1 := if_pos h
    rw [hi]
    have HI : Hid ((if left < (len : Int) then (-1 : Int) else left - len) = -1) := hi
    clear hi
    go_enter Tryz.func6, Tryz.ntmps6
    go_wp2_with (go_at_call 20; refine (szByteS_any _ _ _ _ _ h0 h1 hl).mono ?_; rw [HI.out]; rintro e w' ⟨rfl, rfl⟩)
    go_ret
    exact ⟨rfl, (Below.refl _ _).alloc (Nat.le_refl _) _⟩
  · have hi : (if left < (len : Int) then (-1 : Int) else left - len) = left - len := if_neg h
    rw [hi]
    have HI : Hid ((if left < (len : Int) then (-1 : Int) else left - len) = left - len) := hi
    clear hi
    go_enter Tryz.func6, Tryz.ntmps6
    go_wp2_with (go_at_call 20; refine (szByteS_any _ _ _ _ _ h0 h1 hl).mono ?_; rw [HI.out]; rintro e w' ⟨rfl, rfl⟩)
    go_ret
    exact ⟨rfl, (Below.refl _ _).alloc (Nat.le_refl _) _⟩

set_option maxHeartbeats 800000 in
theorem toFragPacket_any (p : Pk) (a : Option Addr) (len cap : Nat) (zs : List Int) (w : World) (hr : RdB w a len zs) (hl : len ≤ 1048576) :
    Calls Tryz.prog 9 #[p.val (.slice a len cap)] w fun e w' => ∃ g, e = .returned (p.val (.slice (some ⟨g, 0, none⟩) len len)) ∧ w.heap.size ≤ g ∧ w'.heap[g]? = some (.cells (cellsOf zs) 5 (0, 0)) ∧ Below w.heap.size w w' := by
  unfold Pk.val
  go_enter Tryz.func9, Tryz.ntmps9
  go_wp2_with fail
  refine (toByteS_any a len cap zs _ (hr.below (Joins.below_alloc3 _ _ _ _)) hl).mono ?_
  rintro e w' ⟨rfl, rfl⟩
  go_wp2
  refine bodyPost_ret (v := .agg #[.int .i64 p.src, .int .i64 p.dst, .int .i64 p.kind, .int .i64 p.id, .int .i64 p.hops, .bool p.whole, .int .i64 p.off, .bool p.more, .slice (some ⟨w.heap.size + 3, 0, none⟩) len len]) (by simp [results, Tryz.results9, go_sem]) rfl ⟨w.heap.size + 3, rfl, by omega, ?_, ?_⟩
  · exact heap_new _ _ _ (by simp)
  · exact (Joins.below_alloc3 _ _ _ _).alloc (by simp; omega) _

set_option maxHeartbeats 1600000 in
theorem eqFragPacket_same (p : Pk) (a1 a2 : Option Addr) (len cap1 cap2 : Nat) (zs : List Int) (w : World) (hr1 : RdB w a1 len zs) (hr2 : RdB w a2 len zs) (hl : len ≤ 1048576) :
    Calls Tryz.prog 12 #[p.val (.slice a1 len cap1), p.val (.slice a2 len cap2)] w fun e w' => e = .returned (.bool true) ∧ Below w.heap.size w w' := by
  unfold Pk.val
  have hn : ∀ x : Int, (x != x) = false := fun x => by simp
  have hb : ∀ x : Bool, (x != x) = false := fun x => by simp
  go_enter Tryz.func12, Tryz.ntmps12
  go_wp2_with fail
  refine (eqByteS_same a1 a2 len cap1 cap2 zs _ (hr1.below (Joins.below_alloc2 _ _ _)) (hr2.below (Joins.below_alloc2 _ _ _)) hl).mono ?_
  rintro e w' ⟨rfl, n, rfl⟩
  go_wp2
  go_ret
  exact ⟨rfl, (Joins.below_alloc2 _ _ _).trans (Joins.below_draws _ _ _)⟩

end Go.Proofs.YtjbkgmbakjnlhabGreatDoor

/- A packet that came in as an argument, opened. -/
namespace Go.Proofs.YtjbkgmbakjnlhabGreatDoor
set_option maxRecDepth 100000
open Go.ChangeShapes Go.WideShapes Go.ChangeAt Go.RowKit

theorem array9 {α : Type} {cs : Array α} (h : cs.size = 9) : ∃ c0 c1 c2 c3 c4 c5 c6 c7 c8, cs = #[c0, c1, c2, c3, c4, c5, c6, c7, c8] := by
  obtain ⟨l⟩ := cs
  match l, h with
  | [c0, c1, c2, c3, c4, c5, c6, c7, c8], _ => exact ⟨c0, c1, c2, c3, c4, c5, c6, c7, c8, rfl⟩
theorem list9 {α : Type} {l : List α} (h : l.length = 9) : ∃ c0 c1 c2 c3 c4 c5 c6 c7 c8, l = [c0, c1, c2, c3, c4, c5, c6, c7, c8] := by
  match l, h with
  | [c0, c1, c2, c3, c4, c5, c6, c7, c8], _ => exact ⟨c0, c1, c2, c3, c4, c5, c6, c7, c8, rfl⟩

theorem Tryz.cells27 : Tryz.prog.cellsOf 27 = 9 := by kernel_rfl
theorem Tryz.cells3 : Tryz.prog.cellsOf 3 = 1 := by kernel_rfl
theorem Tryz.cells4 : Tryz.prog.cellsOf 4 = 1 := by kernel_rfl
theorem Tryz.cells5 : Tryz.prog.cellsOf 5 = 1 := by kernel_rfl
theorem Tryz.cells25 : Tryz.prog.cellsOf 25 = 1 := by kernel_rfl

/-- a whole number of 64 bits -/
def I64 (x : Int) : Prop := -9223372036854775808 ≤ x ∧ x ≤ 9223372036854775807
/-- a packet's numbers are of 64 bits -/
structure PkOk (p : Pk) : Prop where
  src : I64 p.src
  dst : I64 p.dst
  kind : I64 p.kind
  id : I64 p.id
  hops : I64 p.hops
  off : I64 p.off

theorem open_bytes {H : Type} {enc : TypeId × Value → H} {W : World} {fuel : Nat} {c : Value} {x : DataW H × List MemPlace} (h : DataW.trod enc Tryz.prog W 0 (fun _ => true) true fuel 25 [c] = some x) :
    ∃ a len cap zs, c = .slice a len cap ∧ RdB W a len zs ∧ len ≤ 9223372036854775807 ∧ ∀ z ∈ zs, 0 ≤ z ∧ z ≤ 255 := by
  rcases open_ints Tryz.underlying25 Tryz.underlying5 Tryz.cells5 h with ⟨hcs, _⟩ | ⟨x, l, cp, zs, hcs, _, hl, hm, hz, _, hcell, hwz⟩
  · simp at hcs
    exact ⟨none, 0, 0, [], hcs, ⟨rfl, Or.inl rfl⟩, by omega, by simp⟩
  · simp at hcs
    unfold maxLen at hm
    have hz' : zs.length = cp := by simpa using hz
    refine ⟨some x, l, cp, zs.take l, hcs, ⟨by simp; omega, ?_⟩, by omega, fun z hz1 => ?_⟩
    · by_cases h0 : l = 0
      · exact Or.inl h0
      · right
        obtain ⟨b, off, rfl, hc⟩ := ints_at hcell (show 0 < zs.length by omega)
        have hk : ∀ k, k < l → W.cell? ⟨b, off + k, none⟩ = some (.int .u8 ((zs.take l).getD k 0)) := fun k hk => by
          rw [Joins.getD_take_lt _ _ _ _ hk]
          exact hc k (by omega)
        exact ⟨b, off, rfl, World.block_lt_of_cell? W _ (hk 0 (by omega)), hk⟩
    · have := hwz z (List.mem_of_mem_take hz1)
      simpa [Lit.wf, IntKind.min, IntKind.max, IntKind.signed, IntKind.bits] using this

set_option maxRecDepth 100000 in
theorem open_packet {H : Type} {enc : TypeId × Value → H} {W : World} {r : Reach} {b0 : Nat} {v : Value} {d : DataW H} {ps : List MemPlace}
    (hv : Value.okWide Tryz.prog W r b0 27 v) (h : DataW.Trod enc Tryz.prog W 0 (fun _ => true) true 27 v d ps) :
    ∃ (p : Pk) (a : Option Addr) (len cap : Nat) (zs : List Int), v = p.val (.slice a len cap) ∧ RdB W a len zs ∧ len ≤ 9223372036854775807 ∧ (∀ z ∈ zs, 0 ≤ z ∧ z ≤ 255) ∧ PkOk p := by
  obtain ⟨cs, rfl, hsz⟩ := okWide_struct Tryz.underlying27 hv
  obtain ⟨c0, c1, c2, c3, c4, c5, c6, c7, c8, rfl⟩ := array9 (hsz.trans Tryz.cells27)
  obtain ⟨fuel, hf⟩ := h
  obtain ⟨xs, n, _, _, _, hlen, hx⟩ := DataW.trod_struct Tryz.underlying27 hf
  obtain ⟨y0, y1, y2, y3, y4, y5, y6, y7, y8, rfl⟩ := list9 hlen
  have f0 : DataW.trod enc Tryz.prog W 0 (fun _ => true) true n 3 [c0] = some y0 := by simpa [Value.cells, Tryz.cells3] using hx 0 _ rfl
  have f1 : DataW.trod enc Tryz.prog W 0 (fun _ => true) true n 3 [c1] = some y1 := by simpa [Value.cells, Tryz.cells3] using hx 1 _ rfl
  have f2 : DataW.trod enc Tryz.prog W 0 (fun _ => true) true n 3 [c2] = some y2 := by simpa [Value.cells, Tryz.cells3] using hx 2 _ rfl
  have f3 : DataW.trod enc Tryz.prog W 0 (fun _ => true) true n 3 [c3] = some y3 := by simpa [Value.cells, Tryz.cells3] using hx 3 _ rfl
  have f4 : DataW.trod enc Tryz.prog W 0 (fun _ => true) true n 3 [c4] = some y4 := by simpa [Value.cells, Tryz.cells3] using hx 4 _ rfl
  have f5 : DataW.trod enc Tryz.prog W 0 (fun _ => true) true n 4 [c5] = some y5 := by simpa [Value.cells, Tryz.cells4] using hx 5 _ rfl
  have f6 : DataW.trod enc Tryz.prog W 0 (fun _ => true) true n 3 [c6] = some y6 := by simpa [Value.cells, Tryz.cells3] using hx 6 _ rfl
  have f7 : DataW.trod enc Tryz.prog W 0 (fun _ => true) true n 4 [c7] = some y7 := by simpa [Value.cells, Tryz.cells4] using hx 7 _ rfl
  have f8 : DataW.trod enc Tryz.prog W 0 (fun _ => true) true n 25 [c8] = some y8 := by simpa [Value.cells, Tryz.cells25] using hx 8 _ rfl
  obtain ⟨s, e0, _, w0⟩ := DataW.trod_int Tryz.underlying3 f0
  obtain ⟨t, e1, _, w1⟩ := DataW.trod_int Tryz.underlying3 f1
  obtain ⟨k, e2, _, w2⟩ := DataW.trod_int Tryz.underlying3 f2
  obtain ⟨i, e3, _, w3⟩ := DataW.trod_int Tryz.underlying3 f3
  obtain ⟨o, e4, _, w4⟩ := DataW.trod_int Tryz.underlying3 f4
  obtain ⟨b, e5, _⟩ := DataW.trod_bool Tryz.underlying4 f5
  obtain ⟨f, e6, _, w6⟩ := DataW.trod_int Tryz.underlying3 f6
  obtain ⟨m, e7, _⟩ := DataW.trod_bool Tryz.underlying4 f7
  obtain ⟨a, len, cap, zs, e8, hr, hl, hz⟩ := open_bytes f8
  simp at e0 e1 e2 e3 e4 e5 e6 e7
  subst e0 e1 e2 e3 e4 e5 e6 e7 e8
  exact ⟨⟨s, t, k, i, o, b, f, m⟩, a, len, cap, zs, rfl, hr, hl, hz, ⟨Joins.in64_of_wf w0, Joins.in64_of_wf w1, Joins.in64_of_wf w2, Joins.in64_of_wf w3, Joins.in64_of_wf w4, Joins.in64_of_wf w6⟩⟩
end Go.Proofs.YtjbkgmbakjnlhabGreatDoor

/- The contract of the specification's FragOk. -/
namespace Go.Proofs.YtjbkgmbakjnlhabGreatDoor
set_option maxRecDepth 100000
open Go.RowKit

def headB (p : Pk) : Bool := inB p.src 0 65535 && inB p.dst 0 65535 && inB p.kind 1 7 && inB p.id 0 255 && inB p.hops 1 64
def offB (p : Pk) (len : Nat) : Bool := inB p.off 0 128 && (p.off % 4 == 0) && decide ((len : Int) ≤ 128 - p.off)
def moreB (p : Pk) (len : Nat) : Bool := !p.more || (!((len : Int) == 0) && ((len : Int) % 4 == 0))
def wholeB (p : Pk) : Bool := !p.whole || ((p.off == 0) && !p.more)
/-- A packet with so many bytes is ok. -/
def okB (p : Pk) (len : Nat) : Bool := headB p && offB p len && moreB p len && wholeB p

/-- the same, in the walk's own forms -/
def offS (p : Pk) (len : Nat) : Bool := inB p.off 0 128 && (p.off.tmod 4 == 0) && decide ((len : Int) ≤ wrap64 (128 - p.off))
def okS (p : Pk) (len : Nat) : Bool := headB p && offS p len && moreB p len && wholeB p
theorem offS_eq (p : Pk) (len : Nat) : offS p len = offB p len := by
  unfold offS offB
  by_cases h : inB p.off 0 128 = true
  · have hb : 0 ≤ p.off ∧ p.off ≤ 128 := by simpa [inB] using h
    have e1 : p.off.tmod 4 = p.off % 4 := Int.tmod_eq_emod_of_nonneg hb.1
    have e2 : wrap64 (128 - p.off) = 128 - p.off := by unfold wrap64; omega
    rw [e1, e2]
  · have h' : inB p.off 0 128 = false := by simpa using h
    simp [h']
theorem okS_eq (p : Pk) (len : Nat) : okS p len = okB p len := by
  unfold okS okB
  rw [offS_eq]

set_option maxHeartbeats 1600000 in
theorem specOk_any (p : Pk) (a : Option Addr) (len cap : Nat) (w : World) (_hl : len ≤ 1048576) :
    Calls Tryz.prog 23 #[p.val (.slice a len cap)] w fun e w' => e = .returned (.bool (okB p len)) ∧ Below w.heap.size w w' := by
  unfold Pk.val
  rw [← okS_eq]
  go_enter Tryz.func23, Tryz.ntmps23
  go_wp2_with (go_at_call 42; refine (l1In_any _ _ _ _).mono ?_; rintro e w' ⟨rfl, rfl⟩)
  all_goals
    go_ret
    refine ⟨ret_bool ?_, Joins.below_alloc1 _ _⟩
    first | (simp_all [okS, headB, offS, moreB, wholeB]; done) | (simp_all [okS, headB, offS, moreB, wholeB]; intros; omega)
end Go.Proofs.YtjbkgmbakjnlhabGreatDoor

/- A packet in a box in memory; what a call leaves of it. -/
namespace Go.Proofs.YtjbkgmbakjnlhabGreatDoor
set_option maxRecDepth 100000
open Go.RowKit

/-- a packet lies in a box -/
structure Boxed (w : World) (b : Nat) (p : Pk) (v : Value) : Prop where
  lt : b < w.heap.size
  c0 : w.cell? ⟨b, 0, none⟩ = some (.int .i64 p.src)
  c1 : w.cell? ⟨b, 1, none⟩ = some (.int .i64 p.dst)
  c2 : w.cell? ⟨b, 2, none⟩ = some (.int .i64 p.kind)
  c3 : w.cell? ⟨b, 3, none⟩ = some (.int .i64 p.id)
  c4 : w.cell? ⟨b, 4, none⟩ = some (.int .i64 p.hops)
  c5 : w.cell? ⟨b, 5, none⟩ = some (.bool p.whole)
  c6 : w.cell? ⟨b, 6, none⟩ = some (.int .i64 p.off)
  c7 : w.cell? ⟨b, 7, none⟩ = some (.bool p.more)
  c8 : w.cell? ⟨b, 8, none⟩ = some v
theorem Boxed.below {w w' : World} {b : Nat} {p : Pk} {v : Value} (h : Boxed w b p v) (hb : Below w.heap.size w w') : Boxed w' b p v :=
  have e : ∀ o, w'.cell? ⟨b, o, none⟩ = w.cell? ⟨b, o, none⟩ := fun o => hb.cell (p := ⟨b, o, none⟩) h.lt
  ⟨Nat.lt_of_lt_of_le h.lt hb.size, (e 0).trans h.c0, (e 1).trans h.c1, (e 2).trans h.c2, (e 3).trans h.c3, (e 4).trans h.c4, (e 5).trans h.c5, (e 6).trans h.c6, (e 7).trans h.c7, (e 8).trans h.c8⟩
/-- a packet's cells -/
def pcells (p : Pk) (v : Value) : Array Value := #[.int .i64 p.src, .int .i64 p.dst, .int .i64 p.kind, .int .i64 p.id, .int .i64 p.hops, .bool p.whole, .int .i64 p.off, .bool p.more, v]
theorem Boxed.new (w : World) (p : Pk) (v : Value) (t : TypeId) : Boxed (w.alloc (.cells (pcells p v) t)) w.heap.size p v := by
  have e : ∀ o, (w.alloc (.cells (pcells p v) t)).cell? ⟨w.heap.size, o, none⟩ = (pcells p v)[o]? := fun o => World.cell?_alloc_at _ _ _ _ rfl
  exact ⟨by simp, e 0, e 1, e 2, e 3, e 4, e 5, e 6, e 7, e 8⟩
theorem Boxed.newAt (w : World) (n : Nat) (p : Pk) (v : Value) (t : TypeId) (h : n = w.heap.size) : Boxed (w.alloc (.cells (pcells p v) t)) n p v := by
  subst h; exact Boxed.new w p v t
theorem Boxed.upto {w w' : World} {B b : Nat} {p : Pk} {v : Value} (h : Boxed w b p v) (hb : Below B w w') (hB : b < B) : Boxed w' b p v :=
  have e : ∀ o, w'.cell? ⟨b, o, none⟩ = w.cell? ⟨b, o, none⟩ := fun o => hb.cell (p := ⟨b, o, none⟩) hB
  ⟨Nat.lt_of_lt_of_le h.lt hb.size, (e 0).trans h.c0, (e 1).trans h.c1, (e 2).trans h.c2, (e 3).trans h.c3, (e 4).trans h.c4, (e 5).trans h.c5, (e 6).trans h.c6, (e 7).trans h.c7, (e 8).trans h.c8⟩
theorem draw1 (w : World) : Below w.heap.size w w.drew := (Below.refl _ _).drew

/-- the packet of zeros -/
def zeroPk : Pk := ⟨0, 0, 0, 0, 0, false, 0, false⟩
theorem bcell {B : Nat} {W w1 : World} (hb : Below B W w1) : (∀ b o, b < B → w1.cell? ⟨b, o, none⟩ = W.cell? ⟨b, o, none⟩) ∧ (∀ b o, b < B → w1.frozen? ⟨b, o, none⟩ = W.frozen? ⟨b, o, none⟩) :=
  ⟨fun b o h => hb.cell (p := ⟨b, o, none⟩) h, fun b o h => hb.frozen (p := ⟨b, o, none⟩) h⟩
theorem own9 {w : World} {base : Nat} {e : TypeId} {size n : Nat} {v : Value} {xs : List Value} {b : Nat} (h : w.ownsRow base e size v n xs) (hb : b < base) (x0 x1 x2 x3 x4 x5 x6 x7 x8 : Value) :
    (((((((((w.setCell ⟨b, 0, none⟩ x0).setCell ⟨b, 1, none⟩ x1).setCell ⟨b, 2, none⟩ x2).setCell ⟨b, 3, none⟩ x3).setCell ⟨b, 4, none⟩ x4).setCell ⟨b, 5, none⟩ x5).setCell ⟨b, 6, none⟩ x6).setCell ⟨b, 7, none⟩ x7).setCell ⟨b, 8, none⟩ x8).ownsRow base e size v n xs :=
  (ownsRow_setCell_below (ownsRow_setCell_below (ownsRow_setCell_below (ownsRow_setCell_below (ownsRow_setCell_below (ownsRow_setCell_below (ownsRow_setCell_below (ownsRow_setCell_below (ownsRow_setCell_below h hb _) hb _) hb _) hb _) hb _) hb _) hb _) hb _) hb _)
theorem below9 {B : Nat} {a w : World} {b : Nat} (h : Below B a w) (hb : B ≤ b) (x0 x1 x2 x3 x4 x5 x6 x7 x8 : Value) :
    Below B a (((((((((w.setCell ⟨b, 0, none⟩ x0).setCell ⟨b, 1, none⟩ x1).setCell ⟨b, 2, none⟩ x2).setCell ⟨b, 3, none⟩ x3).setCell ⟨b, 4, none⟩ x4).setCell ⟨b, 5, none⟩ x5).setCell ⟨b, 6, none⟩ x6).setCell ⟨b, 7, none⟩ x7).setCell ⟨b, 8, none⟩ x8) :=
  (Below.setCell (Below.setCell (Below.setCell (Below.setCell (Below.setCell (Below.setCell (Below.setCell (Below.setCell (Below.setCell h hb _) hb _) hb _) hb _) hb _) hb _) hb _) hb _) hb _)
theorem Boxed.of_block {w : World} {b : Nat} {p : Pk} {v : Value} {t : TypeId} {fr : Nat × Nat} (h : w.heap[b]? = some (.cells (pcells p v) t fr)) : Boxed w b p v := by
  have e : ∀ o, w.cell? ⟨b, o, none⟩ = (pcells p v)[o]? := fun o => Joins.cell_of_block h o
  refine ⟨?_, e 0, e 1, e 2, e 3, e 4, e 5, e 6, e 7, e 8⟩
  rcases Nat.lt_or_ge b w.heap.size with h' | h'
  · exact h'
  · rw [Array.getElem?_eq_none h'] at h; cases h
theorem heap9 (w : World) (b k : Nat) (h : k ≠ b) (x0 x1 x2 x3 x4 x5 x6 x7 x8 : Value) : (((((((((w.setCell ⟨b, 0, none⟩ x0).setCell ⟨b, 1, none⟩ x1).setCell ⟨b, 2, none⟩ x2).setCell ⟨b, 3, none⟩ x3).setCell ⟨b, 4, none⟩ x4).setCell ⟨b, 5, none⟩ x5).setCell ⟨b, 6, none⟩ x6).setCell ⟨b, 7, none⟩ x7).setCell ⟨b, 8, none⟩ x8).heap[k]? = w.heap[k]? :=
  ((Below.heap_setCell _ _ _ _ h).trans ((Below.heap_setCell _ _ _ _ h).trans ((Below.heap_setCell _ _ _ _ h).trans ((Below.heap_setCell _ _ _ _ h).trans ((Below.heap_setCell _ _ _ _ h).trans ((Below.heap_setCell _ _ _ _ h).trans ((Below.heap_setCell _ _ _ _ h).trans ((Below.heap_setCell _ _ _ _ h).trans (Below.heap_setCell _ _ _ _ h)))))))))
end Go.Proofs.YtjbkgmbakjnlhabGreatDoor

/- Joining, as plain functions. -/
namespace Go.Proofs.YtjbkgmbakjnlhabGreatDoor
set_option maxRecDepth 100000

/-- a packet with its bytes -/
abbrev PB := Pk × List Int
def endOf (x : PB) : Int := x.1.off + (x.2.length : Int)
def hasB (x : PB) (j : Int) : Bool := decide (x.1.off ≤ j) && decide (j < endOf x)
def byteAt (x : PB) (j : Int) : Int := x.2.getD (j - x.1.off).toNat 0
def alikeB (x y : PB) : Bool := okB x.1 x.2.length && okB y.1 y.2.length && (x.1.src == y.1.src) && (x.1.dst == y.1.dst) && (x.1.kind == y.1.kind) && (x.1.id == y.1.id)
/-- what one says is against what another one says: a byte, or the end -/
def againstB (x y : PB) : Bool :=
  (List.range x.2.length).any (fun t => hasB y (x.1.off + t) && (byteAt x (x.1.off + t) != byteAt y (x.1.off + t))) ||
  (!x.1.more && (decide (endOf x < endOf y) || (!y.1.more && (endOf y != endOf x))))
def alikeL : List PB → Bool
  | [] => false
  | x :: r => decide (r.length + 1 ≤ 40) && (x :: r).all (alikeB x)
def disagreeL (L : List PB) : Bool := L.any fun x => L.any fun y => againstB x y
def endL (L : List PB) : Option Int := (L.find? fun x => !x.1.more).map endOf
/-- the bytes at all places ahead of the end -/
def bytesL (L : List PB) : Nat → Option (List Int)
  | 0 => some []
  | n + 1 => match bytesL L n, L.find? (fun x => hasB x n) with
    | some bs, some x => some (bs ++ [byteAt x n])
    | _, _ => none
/-- the packet without its bytes -/
def headL : List PB → Pk
  | [] => zeroPk
  | x :: r => ⟨x.1.src, x.1.dst, x.1.kind, x.1.id, (x :: r).foldl (fun h y => if y.1.hops < h then y.1.hops else h) x.1.hops, (x :: r).any (fun y => y.1.whole), 0, false⟩
/-- the code, and what is joined -/
def joinL (L : List PB) : Int × PB :=
  if alikeL L = true then
    if disagreeL L = true then (2, (zeroPk, []))
    else match endL L with
      | none => (3, (zeroPk, []))
      | some e => match bytesL L e.toNat with
        | none => (3, (zeroPk, []))
        | some bs => (0, (headL L, bs))
  else (1, (zeroPk, []))

end Go.Proofs.YtjbkgmbakjnlhabGreatDoor
