/- Contracts of markByteS, heldByteS, markFragPacket, heldFragPacket over bytes of the call's own. -/
import Derived.Test.YtjbkgmbakjnlhaaBox
namespace Go.Proofs.Ytjbkgmbakjnlhaa
open Go.RowKit

/-- so many marks from a number on -/
def marks (k : Int) (n : Nat) : List Int := (List.range n).map (fun i : Nat => (k + (i : Int)) % 256)
theorem marks_length (k : Int) (n : Nat) : (marks k n).length = n := by simp [marks]
theorem marks_getD (k : Int) (n i : Nat) (h : i < n) : (marks k n).getD i 0 = (k + (i : Int)) % 256 := by
  simp [marks, List.getD, h]
theorem marks_get (k : Int) (n i : Nat) (h : i < n) : ((marks k n).map (Value.int .u8))[i]? = some (.int .u8 ((k + (i : Int)) % 256)) := by
  simp [marks, h]
/-- what the cells hold behind i marks -/
def marked (k : Int) (zs : List Int) (i : Nat) : List Value := (marks k i).map (Value.int .u8) ++ (zs.drop i).map (Value.int .u8)
theorem marked_zero (k : Int) (zs : List Int) : marked k zs 0 = zs.map (Value.int .u8) := by simp [marked, marks]
theorem marked_all (k : Int) (zs : List Int) : marked k zs zs.length = (marks k zs.length).map (Value.int .u8) := by simp [marked]
theorem marked_at (k : Int) (zs : List Int) (i : Nat) (h : i < zs.length) : (marked k zs i)[i]? = some (.int .u8 (zs.getD i 0)) := by
  have hl : ((marks k i).map (Value.int .u8)).length = i := by simp [marks_length]
  rw [marked, List.getElem?_append_right (by omega), hl]
  simp [List.getD, List.getElem?_eq_getElem h]
theorem marked_succ (k : Int) (zs : List Int) (i : Nat) (h : i < zs.length) : (marked k zs i).set i (.int .u8 ((k + (i : Int)) % 256)) = marked k zs (i + 1) := by
  have hl : ((marks k i).map (Value.int .u8)).length = i := by simp [marks_length]
  rw [marked, List.set_append_right _ _ (by omega), hl, Nat.sub_self, marked]
  have e1 : (zs.drop i).map (Value.int .u8) = .int .u8 zs[i] :: (zs.drop (i + 1)).map (Value.int .u8) := by
    rw [List.drop_eq_getElem_cons h]; rfl
  have e2 : marks k (i + 1) = marks k i ++ [(k + (i : Int)) % 256] := by simp [marks, List.range_succ]
  rw [e1, e2]
  simp

theorem grown_trans {a b c : World} {r : Option Nat} (h : a.grownBy b r) (k : b.grownBy c r) : a.grownBy c r :=
  ⟨k.os.trans h.os, k.tape.trans h.tape, k.output.trans h.output, Nat.le_trans h.size k.size, fun i hi hr => (k.block i (Nat.lt_of_lt_of_le hi h.size) hr).trans (h.block i hi hr)⟩
theorem grown_alloc (a : World) (o : Obj) (r : Option Nat) : a.grownBy (a.alloc o) r := ⟨rfl, rfl, rfl, by simp, fun k hk _ => Below.heap_alloc _ _ _ hk⟩
theorem grown_refl (a : World) (r : Option Nat) : a.grownBy a r := ⟨rfl, rfl, rfl, Nat.le_refl _, fun _ _ _ => rfl⟩

set_option maxHeartbeats 800000 in
theorem markByteS_any (ao : Option Addr) (len cap base : Nat) (k : Int) (zs : List Int) (w : World) (hz : zs.length = len) (ho : w.ownsRow base 5 1 (.slice ao len cap) len (zs.map (.int .u8))) (h0 : 0 ≤ k) (h1 : k ≤ 1099511627776) (hl : len ≤ 1048576) :
    Calls Try.prog 60 #[.slice ao len cap, .int .i64 k] w fun e w' => e = .returned (.int .i64 (k + len)) ∧ w'.ownsRow base 5 1 (.slice ao len cap) len ((marks k len).map (.int .u8)) ∧ w.grownBy w' (Value.slice ao len cap).ownBlock := by
  subst hz
  rcases Joins.ownsRow_forms ho with ⟨hv, hn⟩ | ⟨g, c, hv⟩
  · have hnil : zs = [] := List.length_eq_zero_iff.1 hn
    subst hnil
    simp at hv
    obtain ⟨rfl, rfl⟩ := hv
    have HO : Hid (w.ownsRow base 5 1 (.slice none 0 0) 0 ((marks k 0).map (.int .u8))) := World.ownsRow_nil _ _ _ _
    clear ho
    go_enter Try.func60, Try.ntmps60
    go_wp2
    refine wp_loop_rounds 1 ?_
    rw [rounds_succ]
    go_wp2
    go_ret
    exact ⟨ret_int (by simp), HO.out, grown_refl _ _⟩
  · simp at hv
    obtain ⟨rfl, rfl⟩ := hv
    have HO : Hid (w.ownsRow base 5 1 (.slice (some ⟨g, 0, none⟩) zs.length cap) zs.length (zs.map (.int .u8))) := ho
    clear ho
    go_enter Try.func60, Try.ntmps60
    go_wp2
    go_loopw [1, 5] (fun t i wr => ∃ j : Nat, j ≤ zs.length ∧ i = .int .i64 j ∧ t = .int .i64 (k + j) ∧ Hid (wr.ownsRow base 5 1 (.slice (some ⟨g, 0, none⟩) zs.length cap) zs.length (marked k zs j)) ∧ Hid (w.grownBy wr (some g))) (fun _ i _ => zs.length - (intOf i).toNat)
    case atStart => exact ⟨0, Nat.zero_le _, rfl, by simp, by rw [marked_zero]; exact HO.out, grown_refl _ _⟩
    case round =>
      obtain ⟨j, hj, rfl, rfl, HJ, HG⟩ := hrel
      by_cases hlt : j < zs.length
      · have hcell : wr.cell? ⟨g, j, none⟩ = some (.int .u8 (zs.getD j 0)) := by rw [HJ.out.cellAt j (by omega)]; exact marked_at k zs j hlt
        have hfr := HJ.out.frozenAt j
        go_wp2
        go_roundw
        case rel =>
          refine ⟨j + 1, by omega, by go_num, by go_num, ?_, grown_trans HG.out (HJ.out.stored j _).2⟩
          have h := (HJ.out.stored j (.int .u8 ((k + (j : Int)) % 256))).1
          rw [marked_succ k zs j hlt] at h
          exact h
        case measure => simp [intOf]; omega
      · go_wp2
        go_ret
        have e : j = zs.length := by omega
        subst e
        refine ⟨rfl, ?_, HG.out⟩
        rw [← marked_all]; exact HJ.out

set_option maxHeartbeats 800000 in
theorem heldByteS_any (ao : Option Addr) (len cap base : Nat) (k : Int) (w : World) (ho : w.ownsRow base 5 1 (.slice ao len cap) len ((marks k len).map (.int .u8))) (h0 : 0 ≤ k) (h1 : k ≤ 1099511627776) (hl : len ≤ 1048576) :
    Calls Try.prog 61 #[.slice ao len cap, .int .i64 k] w fun e w' => e = .returned (.int .i64 (k + len)) ∧ w' = w := by
  rcases Joins.ownsRow_forms ho with ⟨hv, hn⟩ | ⟨g, c, hv⟩
  · subst hn
    simp at hv
    obtain ⟨rfl, rfl⟩ := hv
    clear ho
    go_enter Try.func61, Try.ntmps61
    go_wp2
    refine wp_loop_rounds 1 ?_
    rw [rounds_succ]
    go_wp2
    go_ret
    exact ⟨ret_int (by simp), rfl⟩
  · simp at hv
    obtain ⟨rfl, rfl⟩ := hv
    have hc : ∀ j, j < len → w.cell? ⟨g, j, none⟩ = some (.int .u8 ((k + (j : Int)) % 256)) := fun j hj => by
      rw [ho.cellAt j (by omega)]; exact marks_get k len j hj
    have hne : ∀ x : Int, (x != x) = false := fun x => by simp
    clear ho
    go_enter Try.func61, Try.ntmps61
    go_wp2
    go_loop [1, 5] (fun t i => ∃ j : Nat, j ≤ len ∧ i = .int .i64 j ∧ t = .int .i64 (k + j)) (fun _ i => len - (intOf i).toNat)
    case atStart => exact ⟨0, Nat.zero_le _, rfl, by simp⟩
    case round =>
      obtain ⟨j, hj, rfl, rfl⟩ := hrel
      by_cases hlt : j < len
      · have hcell := hc j hlt
        clear hc
        go_wp2
        go_round
        case rel => exact ⟨j + 1, by omega, by go_num, by go_num⟩
        case measure => simp [intOf]; omega
      · go_wp2
        go_ret
        have e : j = len := by omega
        subst e
        exact ⟨rfl, rfl⟩

/-- 'grownBy' from below: what is below a block stays as it was -/
theorem below_grown {w w' : World} {r : Option Nat} {B : Nat} (h : w.grownBy w' r) (hB : B ≤ w.heap.size) (hr : ∀ k, r = some k → B ≤ k) : Below B w w' :=
  (Below.refl _ _).grown h hB hr

set_option maxHeartbeats 800000 in
theorem markFragPacket_any (p : Pk) (ao : Option Addr) (len cap base : Nat) (k : Int) (zs : List Int) (w : World) (hz : zs.length = len) (ho : w.ownsRow base 5 1 (.slice ao len cap) len (zs.map (.int .u8))) (h0 : 0 ≤ k) (h1 : k ≤ 1099511627776) (hl : len ≤ 1048576) :
    Calls Try.prog 26 #[p.val (.slice ao len cap), .int .i64 k] w fun e w' => e = .returned (.int .i64 (k + len)) ∧ w'.ownsRow base 5 1 (.slice ao len cap) len ((marks k len).map (.int .u8)) ∧ w.grownBy w' (Value.slice ao len cap).ownBlock := by
  unfold Pk.val
  go_enter Try.func26, Try.ntmps26
  go_wp2_with fail
  refine (markByteS_any ao len cap base k zs _ hz (ho.alloc _) h0 h1 hl).mono ?_
  rintro e w1 ⟨rfl, ho1, hg1⟩
  have HO : Hid (w1.ownsRow base 5 1 (.slice ao len cap) len ((marks k len).map (.int .u8))) := ho1
  have HG : Hid (w.grownBy w1 (Value.slice ao len cap).ownBlock) := grown_trans (grown_alloc _ _ _) hg1
  clear ho1 hg1
  go_wp2
  go_ret
  exact ⟨rfl, HO.out, HG.out⟩

set_option maxHeartbeats 800000 in
theorem heldFragPacket_any (p : Pk) (ao : Option Addr) (len cap base : Nat) (k : Int) (w : World) (ho : w.ownsRow base 5 1 (.slice ao len cap) len ((marks k len).map (.int .u8))) (h0 : 0 ≤ k) (h1 : k ≤ 1099511627776) (hl : len ≤ 1048576) :
    Calls Try.prog 27 #[p.val (.slice ao len cap), .int .i64 k] w fun e w' => e = .returned (.int .i64 (k + len)) ∧ Below w.heap.size w w' := by
  unfold Pk.val
  go_enter Try.func27, Try.ntmps27
  go_wp2_with fail
  refine (heldByteS_any ao len cap base k _ (ho.alloc _) h0 h1 hl).mono ?_
  rintro e w1 ⟨rfl, rfl⟩
  go_wp2
  go_ret
  exact ⟨rfl, Joins.below_alloc1 _ _⟩
end Go.Proofs.Ytjbkgmbakjnlhaa
