/- Contracts of markByteS, heldByteS, markFragPacket, heldFragPacket over bytes of the call's own. -/
import Derived.Test.YtjbkgmbakjnlhaaPartAa
namespace Go.Proofs.Ytjbkgmbakjnlhaa
open Go.RowKit

/-- so many marks from a number on -/
def marks (k : Int) (n : Nat) : List Int := (List.range n).map (fun i : Nat => (k + (i : Int)) % 256)
theorem marks_length (k : Int) (n : Nat) : (marks k n).length = n := by simp [marks]
theorem marks_getD (k : Int) (n i : Nat) (h : i < n) : (marks k n).getD i 0 = (k + (i : Int)) % 256 := by
  simp [marks, List.getD, h]
theorem marks_get (k : Int) (n i : Nat) (h : i < n) : ((marks k n).map (Value.int .u8))[i]? = some (.int .u8 ((k + (i : Int)) % 256)) := by
  simp [marks, h]
/-- what the cells hold behind i marks -/
def marked (k : Int) (zs : List Int) (i : Nat) : List Value := (marks k i).map (Value.int .u8) ++ (zs.drop i).map (Value.int .u8)
theorem marked_zero (k : Int) (zs : List Int) : marked k zs 0 = zs.map (Value.int .u8) := by simp [marked, marks]
theorem marked_all (k : Int) (zs : List Int) : marked k zs zs.length = (marks k zs.length).map (Value.int .u8) := by simp [marked]
theorem marked_at (k : Int) (zs : List Int) (i : Nat) (h : i < zs.length) : (marked k zs i)[i]? = some (.int .u8 (zs.getD i 0)) := by
  have hl : ((marks k i).map (Value.int .u8)).length = i := by simp [marks_length]
  rw [marked, List.getElem?_append_right (by omega), hl]
  simp [List.getD, List.getElem?_eq_getElem h]
theorem marked_succ (k : Int) (zs : List Int) (i : Nat) (h : i < zs.length) : (marked k zs i).set i (.int .u8 ((k + (i : Int)) % 256)) = marked k zs (i + 1) := by
  have hl : ((marks k i).map (Value.int .u8)).length = i := by simp [marks_length]
  rw [marked, List.set_append_right _ _ (by omega), hl, Nat.sub_self, marked]
  have e1 : (zs.drop i).map (Value.int .u8) = .int .u8 zs[i] :: (zs.drop (i + 1)).map (Value.int .u8) := by
    rw [List.drop_eq_getElem_cons h]; rfl
  have e2 : marks k (i + 1) = marks k i ++ [(k + (i : Int)) % 256] := by simp [marks, List.range_succ]
  rw [e1, e2]
  simp

theorem grown_trans {a b c : World} {r : Option Nat} (h : a.grownBy b r) (k : b.grownBy c r) : a.grownBy c r :=
  ⟨k.os.trans h.os, k.tape.trans h.tape, k.output.trans h.output, Nat.le_trans h.size k.size, fun i hi hr => (k.block i (Nat.lt_of_lt_of_le hi h.size) hr).trans (h.block i hi hr)⟩
theorem grown_alloc (a : World) (o : Obj) (r : Option Nat) : a.grownBy (a.alloc o) r := ⟨rfl, rfl, rfl, by simp, fun k hk _ => Below.heap_alloc _ _ _ hk⟩
theorem grown_refl (a : World) (r : Option Nat) : a.grownBy a r := ⟨rfl, rfl, rfl, Nat.le_refl _, fun _ _ _ => rfl⟩

set_option maxHeartbeats 800000 in
theorem markByteS_any (ao : Option Addr) (len cap base : Nat) (k : Int) (zs : List Int) (w : World) (hz : zs.length = len) (ho : w.ownsRow base 5 1 (.slice ao len cap) len (zs.map (.int .u8))) (h0 : 0 ≤ k) (h1 : k ≤ 1099511627776) (hl : len ≤ 1048576) :
    Calls Try.prog 60 #[.slice ao len cap, .int .i64 k] w fun e w' => e = .returned (.int .i64 (k + len)) ∧ w'.ownsRow base 5 1 (.slice ao len cap) len ((marks k len).map (.int .u8)) ∧ w.grownBy w' (Value.slice ao len cap).ownBlock := by
  subst hz
  rcases Joins.ownsRow_forms ho with ⟨hv, hn⟩ | ⟨g, c, hv⟩
  · have hnil : zs = [] := List.length_eq_zero_iff.1 hn
    subst hnil
    simp at hv
    obtain ⟨rfl, rfl⟩ := hv
    have HO : Hid (w.ownsRow base 5 1 (.slice none 0 0) 0 ((marks k 0).map (.int .u8))) := World.ownsRow_nil _ _ _ _
    clear ho
    go_enter Try.func60, Try.ntmps60
    go_wp2
    refine wp_loop_rounds 1 ?_
    rw [rounds_succ]
    go_wp2
    go_ret
    exact ⟨ret_int (by simp), HO.out, grown_refl _ _⟩
  · simp at hv
    obtain ⟨rfl, rfl⟩ := hv
    have HO : Hid (w.ownsRow base 5 1 (.slice (some ⟨g, 0, none⟩) zs.length cap) zs.length (zs.map (.int .u8))) := ho
    clear ho
    go_enter Try.func60, Try.ntmps60
    go_wp2
    go_loopw [1, 5] (fun t i wr => ∃ j : Nat, j ≤ zs.length ∧ i = .int .i64 j ∧ t = .int .i64 (k + j) ∧ Hid (wr.ownsRow base 5 1 (.slice (some ⟨g, 0, none⟩) zs.length cap) zs.length (marked k zs j)) ∧ Hid (w.grownBy wr (some g))) (fun _ i _ => zs.length - (intOf i).toNat)
    case atStart => exact ⟨0, Nat.zero_le _, rfl, by simp, by rw [marked_zero]; exact HO.out, grown_refl _ _⟩
    case round =>
      obtain ⟨j, hj, rfl, rfl, HJ, HG⟩ := hrel
      by_cases hlt : j < zs.length
      · have hcell : wr.cell? ⟨g, j, none⟩ = some (.int .u8 (zs.getD j 0)) := by rw [HJ.out.cellAt j (by omega)]; exact marked_at k zs j hlt
        have hfr := HJ.out.frozenAt j
        go_wp2
        go_roundw
        case rel =>
          refine ⟨j + 1, by omega, by go_num, by go_num, ?_, grown_trans HG.out (HJ.out.stored j _).2⟩
          have h := (HJ.out.stored j (.int .u8 ((k + (j : Int)) % 256))).1
          rw [marked_succ k zs j hlt] at h
          exact h
        case measure => simp [intOf]; omega
      · go_wp2
        go_ret
        have e : j = zs.length := by omega
        subst e
        refine ⟨rfl, ?_, HG.out⟩
        rw [← marked_all]; exact HJ.out

set_option maxHeartbeats 800000 in
theorem heldByteS_any (ao : Option Addr) (len cap base : Nat) (k : Int) (w : World) (ho : w.ownsRow base 5 1 (.slice ao len cap) len ((marks k len).map (.int .u8))) (h0 : 0 ≤ k) (h1 : k ≤ 1099511627776) (hl : len ≤ 1048576) :
    Calls Try.prog 61 #[.slice ao len cap, .int .i64 k] w fun e w' => e = .returned (.int .i64 (k + len)) ∧ w' = w := by
  rcases Joins.ownsRow_forms ho with ⟨hv, hn⟩ | ⟨g, c, hv⟩
  · subst hn
    simp at hv
    obtain ⟨rfl, rfl⟩ := hv
    clear ho
    go_enter Try.func61, Try.ntmps61
    go_wp2
    refine wp_loop_rounds 1 ?_
    rw [rounds_succ]
    go_wp2
    go_ret
    exact ⟨ret_int (by simp), rfl⟩
  · simp at hv
    obtain ⟨rfl, rfl⟩ := hv
    have hc : ∀ j, j < len → w.cell? ⟨g, j, none⟩ = some (.int .u8 ((k + (j : Int)) % 256)) := fun j hj => by
      rw [ho.cellAt j (by omega)]; exact marks_get k len j hj
    have hne : ∀ x : Int, (x != x) = false := fun x => by simp
    clear ho
    go_enter Try.func61, Try.ntmps61
    go_wp2
    go_loop [1, 5] (fun t i => ∃ j : Nat, j ≤ len ∧ i = .int .i64 j ∧ t = .int .i64 (k + j)) (fun _ i => len - (intOf i).toNat)
    case atStart => exact ⟨0, Nat.zero_le _, rfl, by simp⟩
    case round =>
      obtain ⟨j, hj, rfl, rfl⟩ := hrel
      by_cases hlt : j < len
      · have hcell := hc j hlt
        clear hc
        go_wp2
        go_round
        case rel => exact ⟨j + 1, by omega, by go_num, by go_num⟩
        case measure => simp [intOf]; omega
      · go_wp2
        go_ret
        have e : j = len := by omega
        subst e
        exact ⟨rfl, rfl⟩

/-- 'grownBy' from below: what is below a block stays as it was -/
theorem below_grown {w w' : World} {r : Option Nat} {B : Nat} (h : w.grownBy w' r) (hB : B ≤ w.heap.size) (hr : ∀ k, r = some k → B ≤ k) : Below B w w' :=
  (Below.refl _ _).grown h hB hr

set_option maxHeartbeats 800000 in
theorem markFragPacket_any (p : Pk) (ao : Option Addr) (len cap base : Nat) (k : Int) (zs : List Int) (w : World) (hz : zs.length = len) (ho : w.ownsRow base 5 1 (.slice ao len cap) len (zs.map (.int .u8))) (h0 : 0 ≤ k) (h1 : k ≤ 1099511627776) (hl : len ≤ 1048576) :
    Calls Try.prog 26 #[p.val (.slice ao len cap), .int .i64 k] w fun e w' => e = .returned (.int .i64 (k + len)) ∧ w'.ownsRow base 5 1 (.slice ao len cap) len ((marks k len).map (.int .u8)) ∧ w.grownBy w' (Value.slice ao len cap).ownBlock := by
  unfold Pk.val
  go_enter Try.func26, Try.ntmps26
  go_wp2_with fail
  refine (markByteS_any ao len cap base k zs _ hz (ho.alloc _) h0 h1 hl).mono ?_
  rintro e w1 ⟨rfl, ho1, hg1⟩
  have HO : Hid (w1.ownsRow base 5 1 (.slice ao len cap) len ((marks k len).map (.int .u8))) := ho1
  have HG : Hid (w.grownBy w1 (Value.slice ao len cap).ownBlock) := grown_trans (grown_alloc _ _ _) hg1
  clear ho1 hg1
  go_wp2
  go_ret
  exact ⟨rfl, HO.out, HG.out⟩

set_option maxHeartbeats 800000 in
theorem heldFragPacket_any (p : Pk) (ao : Option Addr) (len cap base : Nat) (k : Int) (w : World) (ho : w.ownsRow base 5 1 (.slice ao len cap) len ((marks k len).map (.int .u8))) (h0 : 0 ≤ k) (h1 : k ≤ 1099511627776) (hl : len ≤ 1048576) :
    Calls Try.prog 27 #[p.val (.slice ao len cap), .int .i64 k] w fun e w' => e = .returned (.int .i64 (k + len)) ∧ Below w.heap.size w w' := by
  unfold Pk.val
  go_enter Try.func27, Try.ntmps27
  go_wp2_with fail
  refine (heldByteS_any ao len cap base k _ (ho.alloc _) h0 h1 hl).mono ?_
  rintro e w1 ⟨rfl, rfl⟩
  go_wp2
  go_ret
  exact ⟨rfl, Joins.below_alloc1 _ _⟩
end Go.Proofs.Ytjbkgmbakjnlhaa

/- What is kept in memory where one block alone is written. -/
namespace Go.Proofs.Ytjbkgmbakjnlhaa
open Go.RowKit

theorem Boxed.kept {w w' : World} {b : Nat} {p : Pk} {v : Value} (h : Boxed w b p v) (hs : w.heap.size ≤ w'.heap.size) (hk : w'.heap[b]? = w.heap[b]?) : Boxed w' b p v :=
  have e : ∀ o, w'.cell? ⟨b, o, none⟩ = w.cell? ⟨b, o, none⟩ := fun _ => World.cell?_of_block (w := w) hk
  ⟨Nat.lt_of_lt_of_le h.lt hs, (e 0).trans h.c0, (e 1).trans h.c1, (e 2).trans h.c2, (e 3).trans h.c3, (e 4).trans h.c4, (e 5).trans h.c5, (e 6).trans h.c6, (e 7).trans h.c7, (e 8).trans h.c8⟩

theorem own_kept {w w' : World} {base : Nat} {e : TypeId} {size n : Nat} {v : Value} {xs : List Value} (h : w.ownsRow base e size v n xs) (hk : ∀ k, v.ownBlock = some k → w'.heap[k]? = w.heap[k]?) : w'.ownsRow base e size v n xs := by
  refine ⟨h.1, h.2.imp id ?_⟩
  rintro ⟨g, cap, cur, hv, hg, hh, r⟩
  exact ⟨g, cap, cur, hv, hg, (hk g (by rw [hv]; rfl)).trans hh, r⟩
theorem own_lt {w : World} {base : Nat} {e : TypeId} {size n : Nat} {v : Value} {xs : List Value} (h : w.ownsRow base e size v n xs) : ∀ k, v.ownBlock = some k → base ≤ k ∧ k < w.heap.size := by
  intro k hk
  rcases h.2 with ⟨hv, _⟩ | ⟨g, cap, cur, hv, hg, hh, _⟩
  · rw [hv] at hk; cases hk
  · rw [hv] at hk
    cases hk
    refine ⟨hg, ?_⟩
    rcases Nat.lt_or_ge g w.heap.size with h' | h'
    · exact h'
    · rw [Array.getElem?_eq_none h'] at hh; cases hh
theorem own_below {w w' : World} {base : Nat} {e : TypeId} {size n : Nat} {v : Value} {xs : List Value} (h : w.ownsRow base e size v n xs) (hb : Below w.heap.size w w') : w'.ownsRow base e size v n xs :=
  own_kept h fun k hk => hb.block k (own_lt h k hk).2
/-- what is owned reads as bytes -/
theorem RdB.of_own {w : World} {base len cap : Nat} {ao : Option Addr} {zs : List Int} (hz : zs.length = len) (h : w.ownsRow base 5 1 (.slice ao len cap) len (zs.map (.int .u8))) : RdB w ao len zs := by
  refine ⟨hz, ?_⟩
  rcases h.2 with ⟨_, hn⟩ | ⟨g, c, cur, hv, hg, hh, _⟩
  · exact Or.inl hn
  · simp at hv
    obtain ⟨rfl, rfl⟩ := hv
    refine Or.inr ⟨g, 0, rfl, (own_lt h g rfl).2, fun k hk => ?_⟩
    rw [Nat.zero_add, h.cellAt k (by omega)]
    simp [List.getD, List.getElem?_eq_getElem (show k < zs.length by omega)]
/-- a new row of bytes is owned -/
theorem own_of_block {w : World} {g base : Nat} {zs : List Int} (hb : base ≤ g) (hz : zs.length ≤ maxLen) (h : w.heap[g]? = some (.cells (cellsOf zs) 5 (0, 0))) : w.ownsRow base 5 1 (.slice (some ⟨g, 0, none⟩) zs.length zs.length) zs.length (zs.map (.int .u8)) :=
  ⟨by simp, Or.inr ⟨g, zs.length, cellsOf zs, rfl, hb, h, Nat.le_refl _, hz, by simp [cellsOf], by simp only [cellsOf, Nat.mul_one]; exact List.take_of_length_le (by simp)⟩⟩
end Go.Proofs.Ytjbkgmbakjnlhaa

/- The contract of the specification's l2Piece. -/
namespace Go.Proofs.Ytjbkgmbakjnlhaa
open Go.RowKit

/-- the piece of a packet from a place on, of at most so many bytes -/
def pieceP (p : Pk) (len m n : Nat) : Pk := ⟨p.src, p.dst, p.kind, p.id, p.hops, p.whole, p.off + m, if m + n < len then true else p.more⟩
def pieceD (zs : List Int) (m n : Nat) : List Int := (zs.drop m).take n

theorem own_cap {w : World} {base e size n c : Nat} {a : Option Addr} {xs : List Value} (h : w.ownsRow base e size (.slice a n c) n xs) : n ≤ c ∨ n = 0 := by
  rcases h.2 with ⟨_, h0⟩ | ⟨g, cap, cur, hv, _, _, hc, _⟩
  · exact Or.inr h0
  · simp at hv; exact Or.inl (by omega)

theorem below_alloc4 (w : World) (o1 o2 o3 o4 : Obj) : Below w.heap.size w ((((w.alloc o1).alloc o2).alloc o3).alloc o4) := (Joins.below_alloc3 w o1 o2 o3).alloc (by simp; omega) o4
theorem RdB.piece {w : World} {b off len : Nat} {zs : List Int} (h : RdB w (some ⟨b, off, none⟩) len zs) (m n : Nat) : RdB w (some ⟨b, off + m, none⟩) (pieceD zs m n).length (pieceD zs m n) := by
  refine ⟨rfl, ?_⟩
  by_cases h0 : (pieceD zs m n).length = 0
  · exact Or.inl h0
  · right
    have hl : (pieceD zs m n).length ≤ zs.length - m := by simp [pieceD]; omega
    obtain ⟨b', off', ha, hb, hc⟩ := h.2.resolve_left (by have := h.1; omega)
    cases ha
    refine ⟨b, off + m, rfl, hb, fun k hk => ?_⟩
    have e : (pieceD zs m n).getD k 0 = zs.getD (m + k) 0 := by
      have hk2 : k < n := by simp [pieceD] at hk; omega
      simp [pieceD, List.getD, hk2]
    rw [e, show off + m + k = off + (m + k) by omega]
    exact hc (m + k) (by have := h.1; omega)

set_option maxRecDepth 100000 in
set_option maxHeartbeats 1600000 in
theorem l2Piece_any (p : Pk) (ad : Addr) (len cap m n : Nat) (zs : List Int) (w : World) (hr : RdB w (some ad) len zs) (hl : len ≤ 1048576) (hc : len ≤ cap) (hcm : cap ≤ 9223372036854775807) (hm : m < len) (hn : n ≤ 1048576) (h0 : 0 ≤ p.off) (h1 : p.off ≤ 1048576) :
    Calls Try.prog 62 #[p.val (.slice (some ad) len cap), .int .i64 m, .int .i64 n] w fun e w' => ∃ g c, e = .returned ((pieceP p len m n).val (.slice (some ⟨g, 0, none⟩) (pieceD zs m n).length c)) ∧ w'.ownsRow w.heap.size 5 1 (.slice (some ⟨g, 0, none⟩) (pieceD zs m n).length c) (pieceD zs m n).length ((pieceD zs m n).map (.int .u8)) ∧ Below w.heap.size w w' := by
  unfold Pk.val
  obtain ⟨b, off, had, hb, hcell⟩ := hr.2.resolve_left (by omega)
  cases had
  obtain ⟨i0, hi, hz0, hz1, hz2⟩ := info_parts Try.info5
  by_cases hc1 : m + n < len
  · have hPe : pieceP p len m n = ⟨p.src, p.dst, p.kind, p.id, p.hops, p.whole, p.off + m, true⟩ := by unfold pieceP; rw [if_pos hc1]
    have hDl : (pieceD zs m n).length = n := by have := hr.1; simp [pieceD]; omega
    rw [hPe, hDl]
    have hi1 : (m : Int) + (n : Int) < (len : Int) := by omega
    have hi2 : (m : Int) + (n : Int) ≤ (cap : Int) := by omega
    go_enter Try.func62, Try.ntmps62
    go_wp2_with (at_builtin; refine wpList_append_own _ rfl _ _ 22 rfl (w.heap.size + 3) 5 i0 (.int .u8 0) 1 1 Try.underlying22 hi hz0 hz1 hz2 rfl (by decide) (.slice (some ⟨w.heap.size + 3, 0, none⟩) 0 0) 0 [] rfl ?h1 ⟨b, off + m, none⟩ (m + n - m) (cap - m) ((pieceD zs m n).map (.int .u8)) rfl ?h2 ?h3 (one_u8 _) ?h4 ?h5 ?h6 ?_)
    case h1 => exact own_empty _ _ _ (by simp) (by omega)
    case h2 => simp [hDl]; try omega
    case h3 => exact cells_rdb ((hr.piece m n).below (below_alloc4 _ _ _ _ _))
    case h4 => unfold maxLen; omega
    case h5 => omega
    case h6 => simp
    intro v1 w1 hown hgrow hnil
    obtain ⟨g, c, rfl⟩ : ∃ g c, v1 = .slice (some ⟨g, 0, none⟩) (n) c := by
      rcases Joins.ownsRow_forms hown with h | ⟨g, c, h⟩
      · exact absurd h.1 hnil
      · exact ⟨g, c, h⟩
    have hb4 : Below (w.heap.size + 3) _ w1 := (Below.refl _ _).grown hgrow (by simp) (by intro k hk; simp [Value.ownBlock] at hk; omega)
    have hlt0 : w.heap.size + 2 < w1.heap.size := Nat.lt_of_lt_of_le (by simp) hb4.size
    have hlt1 : w.heap.size + 1 < w1.heap.size := by omega
    have hf := (bcell hb4).2
    have f1 : ∀ o, w1.frozen? ⟨w.heap.size + 1, o, none⟩ = false := fun o => by rw [hf _ _ (by omega)]; go_simp
    have f2 : ∀ o, w1.frozen? ⟨w.heap.size + 1 + 1, o, none⟩ = false := fun o => by rw [hf _ _ (by omega)]; go_simp
    have Z : Boxed w1 (w.heap.size + 1) zeroPk (.slice none 0 0) := (((Boxed.newAt (w.alloc _) (w.heap.size + 1) zeroPk (.slice none 0 0) 24 (by simp)).below (Joins.below_alloc1 _ _)).below (Joins.below_alloc1 _ _)).upto hb4 (by omega)
    have Q : Boxed w1 (w.heap.size + 1 + 1) ⟨p.src, p.dst, p.kind, p.id, p.hops, p.whole, p.off + m, true⟩ (.slice (some ⟨b, off, none⟩) len cap) := ((Boxed.newAt ((w.alloc _).alloc _) (w.heap.size + 1 + 1) ⟨p.src, p.dst, p.kind, p.id, p.hops, p.whole, p.off + m, true⟩ (.slice (some ⟨b, off, none⟩) len cap) 24 (by simp)).below (Joins.below_alloc1 _ _)).upto hb4 (by omega)
    obtain ⟨_, z0, z1, z2, z3, z4, z5, z6, z7, z8⟩ := Z
    obtain ⟨_, c0, c1, c2, c3, c4, c5, c6, c7, c8⟩ := Q
    have HB : Hid (Below w.heap.size w w1) := (below_alloc4 _ _ _ _ _).trans (hb4.mono (by omega))
    have HO : Hid (w1.ownsRow (w.heap.size + 3) 5 1 (.slice (some ⟨g, 0, none⟩) (n) c) (n) ((pieceD zs m n).map (.int .u8))) := by simpa [Hid] using hown
    clear hown hgrow hnil hb4 hf hcell
    go_wp2
    refine bodyPost_ret (v := .agg #[.int .i64 p.src, .int .i64 p.dst, .int .i64 p.kind, .int .i64 p.id, .int .i64 p.hops, .bool p.whole, .int .i64 (p.off + m), .bool true, .slice (some ⟨g, 0, none⟩) (n) c]) (by simp [results, Try.results62, go_sem, z0, z1, z2, z3, z4, z5, z6, z7, z8]) rfl ⟨g, c, rfl, ?_, ?_⟩
    · exact Joins.ownsRow_le (own9 (ownsRow_setCell_below HO.out (by simp) _) (by omega) _ _ _ _ _ _ _ _ _) (by omega)
    · exact below9 (Below.setCell HB.out (by simp; omega) _) (by omega) _ _ _ _ _ _ _ _ _
  · have hPe : pieceP p len m n = ⟨p.src, p.dst, p.kind, p.id, p.hops, p.whole, p.off + m, p.more⟩ := by unfold pieceP; rw [if_neg hc1]
    have hDl : (pieceD zs m n).length = len - m := by have := hr.1; simp [pieceD]; omega
    rw [hPe, hDl]
    have hi1 : (len : Int) ≤ (m : Int) + (n : Int) := by omega
    have hi2 : (m : Int) ≤ (len : Int) := by omega
    have hi3 : (len : Int) ≤ (cap : Int) := by omega
    go_enter Try.func62, Try.ntmps62
    go_wp2_with (at_builtin; refine wpList_append_own _ rfl _ _ 22 rfl (w.heap.size + 3) 5 i0 (.int .u8 0) 1 1 Try.underlying22 hi hz0 hz1 hz2 rfl (by decide) (.slice (some ⟨w.heap.size + 3, 0, none⟩) 0 0) 0 [] rfl ?h1 ⟨b, off + m, none⟩ (len - m) (cap - m) ((pieceD zs m n).map (.int .u8)) rfl ?h2 ?h3 (one_u8 _) ?h4 ?h5 ?h6 ?_)
    case h1 => exact own_empty _ _ _ (by simp) (by omega)
    case h2 => simp [hDl]; try omega
    case h3 => exact cells_rdb ((hr.piece m n).below (below_alloc4 _ _ _ _ _))
    case h4 => unfold maxLen; omega
    case h5 => omega
    case h6 => simp
    intro v1 w1 hown hgrow hnil
    obtain ⟨g, c, rfl⟩ : ∃ g c, v1 = .slice (some ⟨g, 0, none⟩) (len - m) c := by
      rcases Joins.ownsRow_forms hown with h | ⟨g, c, h⟩
      · exact absurd h.1 hnil
      · exact ⟨g, c, h⟩
    have hb4 : Below (w.heap.size + 3) _ w1 := (Below.refl _ _).grown hgrow (by simp) (by intro k hk; simp [Value.ownBlock] at hk; omega)
    have hlt0 : w.heap.size + 2 < w1.heap.size := Nat.lt_of_lt_of_le (by simp) hb4.size
    have hlt1 : w.heap.size + 1 < w1.heap.size := by omega
    have hf := (bcell hb4).2
    have f1 : ∀ o, w1.frozen? ⟨w.heap.size + 1, o, none⟩ = false := fun o => by rw [hf _ _ (by omega)]; go_simp
    have f2 : ∀ o, w1.frozen? ⟨w.heap.size + 1 + 1, o, none⟩ = false := fun o => by rw [hf _ _ (by omega)]; go_simp
    have Z : Boxed w1 (w.heap.size + 1) zeroPk (.slice none 0 0) := (((Boxed.newAt (w.alloc _) (w.heap.size + 1) zeroPk (.slice none 0 0) 24 (by simp)).below (Joins.below_alloc1 _ _)).below (Joins.below_alloc1 _ _)).upto hb4 (by omega)
    have Q : Boxed w1 (w.heap.size + 1 + 1) ⟨p.src, p.dst, p.kind, p.id, p.hops, p.whole, p.off + m, p.more⟩ (.slice (some ⟨b, off, none⟩) len cap) := ((Boxed.newAt ((w.alloc _).alloc _) (w.heap.size + 1 + 1) ⟨p.src, p.dst, p.kind, p.id, p.hops, p.whole, p.off + m, p.more⟩ (.slice (some ⟨b, off, none⟩) len cap) 24 (by simp)).below (Joins.below_alloc1 _ _)).upto hb4 (by omega)
    obtain ⟨_, z0, z1, z2, z3, z4, z5, z6, z7, z8⟩ := Z
    obtain ⟨_, c0, c1, c2, c3, c4, c5, c6, c7, c8⟩ := Q
    have HB : Hid (Below w.heap.size w w1) := (below_alloc4 _ _ _ _ _).trans (hb4.mono (by omega))
    have HO : Hid (w1.ownsRow (w.heap.size + 3) 5 1 (.slice (some ⟨g, 0, none⟩) (len - m) c) (len - m) ((pieceD zs m n).map (.int .u8))) := by simpa [Hid] using hown
    clear hown hgrow hnil hb4 hf hcell
    go_wp2
    refine bodyPost_ret (v := .agg #[.int .i64 p.src, .int .i64 p.dst, .int .i64 p.kind, .int .i64 p.id, .int .i64 p.hops, .bool p.whole, .int .i64 (p.off + m), .bool p.more, .slice (some ⟨g, 0, none⟩) (len - m) c]) (by simp [results, Try.results62, go_sem, z0, z1, z2, z3, z4, z5, z6, z7, z8]) rfl ⟨g, c, rfl, ?_, ?_⟩
    · exact Joins.ownsRow_le (own9 (ownsRow_setCell_below HO.out (by simp) _) (by omega) _ _ _ _ _ _ _ _ _) (by omega)
    · exact below9 (Below.setCell HB.out (by simp; omega) _) (by omega) _ _ _ _ _ _ _ _ _
end Go.Proofs.Ytjbkgmbakjnlhaa
