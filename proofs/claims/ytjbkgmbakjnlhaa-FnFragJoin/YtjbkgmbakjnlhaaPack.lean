/- Contracts of szFragPacket, toFragPacket, eqFragPacket at equal packets. -/
import Derived.Test.YtjbkgmbakjnlhaaLeaf
import Derived.Lib.SmallJoins
namespace Go.Proofs.Ytjbkgmbakjnlhaa
open Go.RowKit

theorem heap_new (w : World) (o : Obj) (n : Nat) (h : n = w.heap.size) : (w.alloc o).heap[n]? = some o := by
  subst h
  show (w.heap.push o)[w.heap.size]? = _
  simp

/-- the plain fields of a packet -/
structure Pk where
  src : Int
  dst : Int
  kind : Int
  id : Int
  hops : Int
  whole : Bool
  off : Int
  more : Bool

/-- a packet as a value -/
def Pk.val (p : Pk) (v : Value) : Value := .agg #[.int .i64 p.src, .int .i64 p.dst, .int .i64 p.kind, .int .i64 p.id, .int .i64 p.hops, .bool p.whole, .int .i64 p.off, .bool p.more, v]

set_option maxHeartbeats 400000 in
theorem szFragPacket_any (p : Pk) (a : Option Addr) (len cap : Nat) (left : Int) (w : World) (h0 : 0 ≤ left) (h1 : left ≤ 1048576) (hl : (len : Int) ≤ 9223372036854775807) :
    Calls Try.prog 21 #[p.val (.slice a len cap), .int .i64 left] w fun e w' => e = .returned (.int .i64 (if left < len then -1 else left - len)) ∧ Below w.heap.size w w' := by
  unfold Pk.val
  by_cases h : left < len
  · have hi : (if left < (len : Int) then (-1 : Int) else left - len) = -1 := if_pos h
    rw [hi]
    have HI : Hid ((if left < (len : Int) then (-1 : Int) else left - len) = -1) := hi
    clear hi
    go_enter Try.func21, Try.ntmps21
    go_wp2_with (go_at_call 57; refine (szByteS_any _ _ _ _ _ h0 h1 hl).mono ?_; rw [HI.out]; rintro e w' ⟨rfl, rfl⟩)
    go_ret
    exact ⟨rfl, (Below.refl _ _).alloc (Nat.le_refl _) _⟩
  · have hi : (if left < (len : Int) then (-1 : Int) else left - len) = left - len := if_neg h
    rw [hi]
    have HI : Hid ((if left < (len : Int) then (-1 : Int) else left - len) = left - len) := hi
    clear hi
    go_enter Try.func21, Try.ntmps21
    go_wp2_with (go_at_call 57; refine (szByteS_any _ _ _ _ _ h0 h1 hl).mono ?_; rw [HI.out]; rintro e w' ⟨rfl, rfl⟩)
    go_ret
    exact ⟨rfl, (Below.refl _ _).alloc (Nat.le_refl _) _⟩

set_option maxHeartbeats 800000 in
theorem toFragPacket_any (p : Pk) (a : Option Addr) (len cap : Nat) (zs : List Int) (w : World) (hr : RdB w a len zs) (hl : len ≤ 1048576) :
    Calls Try.prog 22 #[p.val (.slice a len cap)] w fun e w' => ∃ g, e = .returned (p.val (.slice (some ⟨g, 0, none⟩) len len)) ∧ w.heap.size ≤ g ∧ w'.heap[g]? = some (.cells (cellsOf zs) 5 (0, 0)) ∧ Below w.heap.size w w' := by
  unfold Pk.val
  go_enter Try.func22, Try.ntmps22
  go_wp2_with fail
  refine (toByteS_any a len cap zs _ (hr.below (Joins.below_alloc3 _ _ _ _)) hl).mono ?_
  rintro e w' ⟨rfl, rfl⟩
  go_wp2
  refine bodyPost_ret (v := .agg #[.int .i64 p.src, .int .i64 p.dst, .int .i64 p.kind, .int .i64 p.id, .int .i64 p.hops, .bool p.whole, .int .i64 p.off, .bool p.more, .slice (some ⟨w.heap.size + 3, 0, none⟩) len len]) (by simp [results, Try.results22, go_sem]) rfl ⟨w.heap.size + 3, rfl, by omega, ?_, ?_⟩
  · exact heap_new _ _ _ (by simp)
  · exact (Joins.below_alloc3 _ _ _ _).alloc (by simp; omega) _

set_option maxHeartbeats 1600000 in
theorem eqFragPacket_same (p : Pk) (a1 a2 : Option Addr) (len cap1 cap2 : Nat) (zs : List Int) (w : World) (hr1 : RdB w a1 len zs) (hr2 : RdB w a2 len zs) (hl : len ≤ 1048576) :
    Calls Try.prog 23 #[p.val (.slice a1 len cap1), p.val (.slice a2 len cap2)] w fun e w' => e = .returned (.bool true) ∧ Below w.heap.size w w' := by
  unfold Pk.val
  have hn : ∀ x : Int, (x != x) = false := fun x => by simp
  have hb : ∀ x : Bool, (x != x) = false := fun x => by simp
  go_enter Try.func23, Try.ntmps23
  go_wp2_with fail
  refine (eqByteS_same a1 a2 len cap1 cap2 zs _ (hr1.below (Joins.below_alloc2 _ _ _)) (hr2.below (Joins.below_alloc2 _ _ _)) hl).mono ?_
  rintro e w' ⟨rfl, n, rfl⟩
  go_wp2
  go_ret
  exact ⟨rfl, (Joins.below_alloc2 _ _ _).trans (Joins.below_draws _ _ _)⟩

end Go.Proofs.Ytjbkgmbakjnlhaa
