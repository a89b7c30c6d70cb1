/- Lists of packets of the laws: their copy. -/
import Derived.Test.YtjbkgmbakjnlhabGreatDoorPartAc
import Derived.Deep.WholeRow
namespace Go.Proofs.YtjbkgmbakjnlhabGreatDoor
set_option maxRecDepth 100000
open Go.RowKit

/-- what a block of packets holds in its first places -/
structure LB (w : World) (lo gL n : Nat) (ys : List RV) : Prop where
  low : lo ≤ gL
  blk : ∃ cur : Array Value, w.heap[gL]? = some (.cells cur 33 (0, 0)) ∧ cur.size = n * 9 ∧ ∀ (i : Nat) y, ys[i]? = some y → ∀ j, j < 9 → cur[i * 9 + j]? = (pcells y.p (.slice y.a y.zs.length y.c))[j]?
  each : ∀ y ∈ ys, ∃ gy, y.a = some ⟨gy, 0, none⟩ ∧ y.c = y.zs.length ∧ lo ≤ gy ∧ w.heap[gy]? = some (.cells (cellsOf y.zs) 5 (0, 0)) ∧ y.zs.length ≤ 1048576 ∧ ∀ z ∈ y.zs, 0 ≤ z ∧ z ≤ 255
theorem LB.lt {w : World} {lo gL n : Nat} {ys : List RV} (h : LB w lo gL n ys) : gL < w.heap.size := by
  obtain ⟨cur, hc, _⟩ := h.blk
  exact lt_of_block hc
theorem LB.kept {w w' : World} {lo gL n : Nat} {ys : List RV} (h : LB w lo gL n ys) (hk : ∀ b, lo ≤ b → b < w.heap.size → w'.heap[b]? = w.heap[b]?) : LB w' lo gL n ys := by
  refine ⟨h.low, ?_, fun y hy => ?_⟩
  · obtain ⟨cur, hc, r⟩ := h.blk
    exact ⟨cur, (hk _ h.low (lt_of_block hc)).trans hc, r⟩
  · obtain ⟨gy, h1, h2, h3, h4, r⟩ := h.each y hy
    exact ⟨gy, h1, h2, h3, (hk _ h3 (lt_of_block h4)).trans h4, r⟩
theorem LB.below {w w' : World} {lo gL n : Nat} {ys : List RV} (h : LB w lo gL n ys) (hb : Below w.heap.size w w') : LB w' lo gL n ys := h.kept fun b _ hl => hb.block b hl
theorem LB.rl {w : World} {lo gL n : Nat} {ys : List RV} (h : LB w lo gL n ys) : RL w gL ys := by
  refine ⟨h.lt, fun k x hx => ?_, fun y hy => ?_⟩
  · obtain ⟨cur, hc, _, r⟩ := h.blk
    have e : ∀ j, j < 9 → w.cell? ⟨gL, k * 9 + j, none⟩ = (pcells x.p (.slice x.a x.zs.length x.c))[j]? := fun j hj => by rw [cell_of_row _ _ _ _ _ _ hc]; exact r k x hx j hj
    exact ⟨e 0 (by omega), e 1 (by omega), e 2 (by omega), e 3 (by omega), e 4 (by omega), e 5 (by omega), e 6 (by omega), e 7 (by omega), e 8 (by omega)⟩
  · obtain ⟨gy, h1, h2, h3, h4, h5, h6⟩ := h.each y hy
    exact ⟨by rw [h1]; exact RdB.of_block h4, h5, by omega, by omega, h6⟩
theorem set_at {w : World} {g o : Nat} {cur : Array Value} {t : TypeId} {v : Value} (h : w.heap[g]? = some (.cells cur t (0, 0))) : (w.setCell ⟨g, o, none⟩ v).heap[g]? = some (.cells (cur.setIfInBounds o v) t (0, 0)) := by
  rw [setCell_eq_setRow w g o _ _ _ _ h, setRow_heap _ _ _ _ _ _ h]
/-- the cells of a block, nine of them written anew -/
def put9 (cur : Array Value) (o : Nat) (x0 x1 x2 x3 x4 x5 x6 x7 x8 : Value) : Array Value := ((((((((cur.setIfInBounds o x0).setIfInBounds (o + 1) x1).setIfInBounds (o + 2) x2).setIfInBounds (o + 3) x3).setIfInBounds (o + 4) x4).setIfInBounds (o + 5) x5).setIfInBounds (o + 6) x6).setIfInBounds (o + 7) x7).setIfInBounds (o + 8) x8
theorem put9_size (cur : Array Value) (o : Nat) (x0 x1 x2 x3 x4 x5 x6 x7 x8 : Value) : (put9 cur o x0 x1 x2 x3 x4 x5 x6 x7 x8).size = cur.size := by simp [put9]
theorem put9_far {cur : Array Value} {o q : Nat} (x0 x1 x2 x3 x4 x5 x6 x7 x8 : Value) (h : q < o ∨ o + 9 ≤ q) : (put9 cur o x0 x1 x2 x3 x4 x5 x6 x7 x8)[q]? = cur[q]? := by
  unfold put9
  simp only [Array.getElem?_setIfInBounds]
  repeat rw [if_neg (by omega)]
theorem put9_at {cur : Array Value} {o j : Nat} (x0 x1 x2 x3 x4 x5 x6 x7 x8 : Value) (hs : o + 9 ≤ cur.size) (hj : j < 9) : (put9 cur o x0 x1 x2 x3 x4 x5 x6 x7 x8)[o + j]? = #[x0, x1, x2, x3, x4, x5, x6, x7, x8][j]? := by
  unfold put9
  simp only [Array.getElem?_setIfInBounds, Array.size_setIfInBounds]
  rcases (show j = 0 ∨ j = 1 ∨ j = 2 ∨ j = 3 ∨ j = 4 ∨ j = 5 ∨ j = 6 ∨ j = 7 ∨ j = 8 by omega) with rfl | rfl | rfl | rfl | rfl | rfl | rfl | rfl | rfl
  all_goals
    simp
    try omega
theorem heap_put9 {w : World} {g o : Nat} {cur : Array Value} {t : TypeId} (h : w.heap[g]? = some (.cells cur t (0, 0))) (x0 x1 x2 x3 x4 x5 x6 x7 x8 : Value) :
    (((((((((w.setCell ⟨g, o, none⟩ x0).setCell ⟨g, o + 1, none⟩ x1).setCell ⟨g, o + 2, none⟩ x2).setCell ⟨g, o + 3, none⟩ x3).setCell ⟨g, o + 4, none⟩ x4).setCell ⟨g, o + 5, none⟩ x5).setCell ⟨g, o + 6, none⟩ x6).setCell ⟨g, o + 7, none⟩ x7).setCell ⟨g, o + 8, none⟩ x8).heap[g]? = some (.cells (put9 cur o x0 x1 x2 x3 x4 x5 x6 x7 x8) t (0, 0)) :=
  set_at (set_at (set_at (set_at (set_at (set_at (set_at (set_at (set_at h))))))))
theorem heap_far9 (w : World) (g o k : Nat) (h : k ≠ g) (x0 x1 x2 x3 x4 x5 x6 x7 x8 : Value) :
    (((((((((w.setCell ⟨g, o, none⟩ x0).setCell ⟨g, o + 1, none⟩ x1).setCell ⟨g, o + 2, none⟩ x2).setCell ⟨g, o + 3, none⟩ x3).setCell ⟨g, o + 4, none⟩ x4).setCell ⟨g, o + 5, none⟩ x5).setCell ⟨g, o + 6, none⟩ x6).setCell ⟨g, o + 7, none⟩ x7).setCell ⟨g, o + 8, none⟩ x8).heap[k]? = w.heap[k]? :=
  ((Below.heap_setCell _ _ _ _ h).trans ((Below.heap_setCell _ _ _ _ h).trans ((Below.heap_setCell _ _ _ _ h).trans ((Below.heap_setCell _ _ _ _ h).trans ((Below.heap_setCell _ _ _ _ h).trans ((Below.heap_setCell _ _ _ _ h).trans ((Below.heap_setCell _ _ _ _ h).trans ((Below.heap_setCell _ _ _ _ h).trans (Below.heap_setCell _ _ _ _ h)))))))))
theorem below_far9 {B : Nat} {a w : World} {g o : Nat} (h : Below B a w) (hb : B ≤ g) (x0 x1 x2 x3 x4 x5 x6 x7 x8 : Value) :
    Below B a (((((((((w.setCell ⟨g, o, none⟩ x0).setCell ⟨g, o + 1, none⟩ x1).setCell ⟨g, o + 2, none⟩ x2).setCell ⟨g, o + 3, none⟩ x3).setCell ⟨g, o + 4, none⟩ x4).setCell ⟨g, o + 5, none⟩ x5).setCell ⟨g, o + 6, none⟩ x6).setCell ⟨g, o + 7, none⟩ x7).setCell ⟨g, o + 8, none⟩ x8) :=
  (Below.setCell (Below.setCell (Below.setCell (Below.setCell (Below.setCell (Below.setCell (Below.setCell (Below.setCell (Below.setCell h hb _) hb _) hb _) hb _) hb _) hb _) hb _) hb _) hb _)
/-- one more packet in a block -/
theorem LB.put {w : World} {lo gL n gy : Nat} {ys : List RV} {p : Pk} {zs : List Int} (h : LB w lo gL n ys) (hn : ys.length < n) (hlo : lo ≤ gy) (hd : w.heap[gy]? = some (.cells (cellsOf zs) 5 (0, 0))) (hl : zs.length ≤ 1048576) (hz : ∀ z ∈ zs, 0 ≤ z ∧ z ≤ 255) :
    LB (((((((((w.setCell ⟨gL, ys.length * 9, none⟩ (.int .i64 p.src)).setCell ⟨gL, ys.length * 9 + 1, none⟩ (.int .i64 p.dst)).setCell ⟨gL, ys.length * 9 + 2, none⟩ (.int .i64 p.kind)).setCell ⟨gL, ys.length * 9 + 3, none⟩ (.int .i64 p.id)).setCell ⟨gL, ys.length * 9 + 4, none⟩ (.int .i64 p.hops)).setCell ⟨gL, ys.length * 9 + 5, none⟩ (.bool p.whole)).setCell ⟨gL, ys.length * 9 + 6, none⟩ (.int .i64 p.off)).setCell ⟨gL, ys.length * 9 + 7, none⟩ (.bool p.more)).setCell ⟨gL, ys.length * 9 + 8, none⟩ (.slice (some ⟨gy, 0, none⟩) zs.length zs.length))
      lo gL n (ys ++ [⟨p, some ⟨gy, 0, none⟩, zs.length, zs⟩]) := by
  obtain ⟨cur, hc, hs, r⟩ := h.blk
  have nt : ∀ b zs', w.heap[b]? = some (.cells (cellsOf zs') 5 (0, 0)) → b ≠ gL := fun b zs' e e' => by
    rw [e', hc] at e
    cases e
  refine ⟨h.low, ⟨_, heap_put9 hc _ _ _ _ _ _ _ _ _, by rw [put9_size]; exact hs, fun i y hy j hj => ?_⟩, fun y hy => ?_⟩
  · rcases Nat.lt_or_ge i ys.length with hi | hi
    · rw [List.getElem?_append_left hi] at hy
      rw [put9_far _ _ _ _ _ _ _ _ _ (Or.inl (by omega))]
      exact r i y hy j hj
    · rw [List.getElem?_append_right hi] at hy
      have e : i - ys.length = 0 := by
        rcases Nat.eq_zero_or_pos (i - ys.length) with h0 | h0
        · exact h0
        · rw [List.getElem?_eq_none (by simp; omega)] at hy; cases hy
      rw [e] at hy
      simp at hy
      subst hy
      obtain rfl : i = ys.length := by omega
      rw [put9_at _ _ _ _ _ _ _ _ _ (by omega) hj]
      rfl
  · rcases List.mem_append.1 hy with h1 | h1
    · obtain ⟨g', a1, a2, a3, a4, r⟩ := h.each y h1
      exact ⟨g', a1, a2, a3, (heap_far9 _ _ _ _ (nt g' _ a4) _ _ _ _ _ _ _ _ _).trans a4, r⟩
    · obtain rfl := List.mem_singleton.1 h1
      exact ⟨gy, rfl, rfl, hlo, (heap_far9 _ _ _ _ (nt gy _ hd) _ _ _ _ _ _ _ _ _).trans hd, hl, hz⟩
theorem Tryz.info9 : (Tryz.prog.info? 33).map (fun i => (i.zero, i.size, i.bytes)) = some (some (.agg #[.int .i64 0, .int .i64 0, .int .i64 0, .int .i64 0, .int .i64 0, .bool false, .int .i64 0, .bool false, .slice none 0 0]), 9, 88) := by kernel_rfl
theorem cells_there {cur : Array Value} {o : Nat} (h : o < cur.size) : ∃ v, cur[o]? = some v := ⟨_, Array.getElem?_eq_getElem h⟩

set_option maxRecDepth 100000 in
set_option maxHeartbeats 3200000 in
theorem toFragPacketS_any (a : Option Addr) (cl : Nat) (xs : List RV) (w : World) (hL : RLo w a xs) (hm : xs.length + sumLen xs ≤ 1048576) :
    Calls Tryz.prog 71 #[.slice a xs.length cl] w fun e w' => ∃ gL ys, e = .returned (.slice (some ⟨gL, 0, none⟩) xs.length xs.length) ∧ LB w' w.heap.size gL xs.length ys ∧ ys.map RV.key = xs.map RV.key ∧ Below w.heap.size w w' := by
  obtain ⟨i0, hi0, hz0, hz1, hz2⟩ := info_parts Tryz.info9
  have hmk : ∀ W : World, (Instr.makeSlice 69 (.int .i64 (xs.length : Int)) (.int .i64 (xs.length : Int))).run Tryz.prog W = .ok (.slice (some ⟨W.heap.size, 0, none⟩) xs.length xs.length) (W.alloc (.cells (madeCells (Value.agg #[.int .i64 0, .int .i64 0, .int .i64 0, .int .i64 0, .int .i64 0, .bool false, .int .i64 0, .bool false, .slice none 0 0]).cells (xs.length * 9)) 33)) := fun W => by
    have h := run_make (P := Tryz.prog) W 69 33 i0 _ Tryz.underlying69 hi0 hz0 .i64 .i64 (xs.length : Int) (xs.length : Int) (by omega) (Int.le_refl _) (by rw [hz2]; omega) (by omega)
    rw [Int.toNat_natCast, hz1] at h
    exact h
  obtain ⟨C0, hC0⟩ : ∃ C0, madeCells (Value.agg #[.int .i64 0, .int .i64 0, .int .i64 0, .int .i64 0, .int .i64 0, .bool false, .int .i64 0, .bool false, .slice none 0 0]).cells (xs.length * 9) = C0 := ⟨_, rfl⟩
  have hCs : C0.size = xs.length * 9 := by rw [← hC0]; exact size_madeCells _ _
  rw [hC0] at hmk
  have L0 : Hid (LB (w.alloc (.cells C0 33)) w.heap.size w.heap.size xs.length []) := ⟨Nat.le_refl _, ⟨C0, heap_new _ _ _ rfl, hCs, fun i y hy => by simp at hy⟩, fun y hy => by cases hy⟩
  have HL : Hid (RLo w a xs) := hL
  clear hL hi0 hz0 hz1 hz2 hC0 hCs
  go_enter Tryz.func71, Tryz.ntmps71
  go_wp2
  go_loopw [4] (fun i wr => ∃ (k : Nat) (ys : List RV), k ≤ xs.length ∧ i = .int .i64 k ∧ Hid (ys.length = k) ∧ Hid (LB wr w.heap.size w.heap.size xs.length ys) ∧ Hid (ys.map RV.key = (xs.take k).map RV.key) ∧ Hid (Below w.heap.size w wr)) (fun i _ => xs.length - (intOf i).toNat)
  case atStart => exact ⟨0, [], by omega, rfl, rfl, L0.out, rfl, Joins.below_alloc1 _ _⟩
  case round =>
    obtain ⟨k, ys, hk, rfl, HY, HB, HK, HW⟩ := hrel
    have hsz := HW.out.size
    by_cases hlt : k < xs.length
    · obtain ⟨x, hx⟩ := get_of_lt hlt
      have hi : (k : Int) < (xs.length : Int) := by omega
      have Lr := HL.out.below HW.out
      rcases Lr.at_ with h0 | ⟨g, off, rfl, hgr, he⟩
      · rw [h0] at hlt; simp at hlt
      have Hk := he k x hx
      have hR := Lr.each x (List.mem_of_getElem? hx)
      have hsl := sumLen_mem (List.mem_of_getElem? hx)
      have HX : Hid (xs[k]? = some x) := hx
      have HR : Hid (RArg wr x) := hR
      clear hx Lr he hR
      obtain ⟨c0, c1, c2, c3, c4, c5, c6, c7, c8⟩ := Hk
      have KT : Hid (∀ W : World, RdB W x.a x.zs.length x.zs → Calls Tryz.prog 9 #[.agg #[.int .i64 x.p.src, .int .i64 x.p.dst, .int .i64 x.p.kind, .int .i64 x.p.id, .int .i64 x.p.hops, .bool x.p.whole, .int .i64 x.p.off, .bool x.p.more, .slice x.a x.zs.length x.c]] W fun e w' => ∃ g, e = .returned (.agg #[.int .i64 x.p.src, .int .i64 x.p.dst, .int .i64 x.p.kind, .int .i64 x.p.id, .int .i64 x.p.hops, .bool x.p.whole, .int .i64 x.p.off, .bool x.p.more, .slice (some ⟨g, 0, none⟩) x.zs.length x.zs.length]) ∧ W.heap.size ≤ g ∧ w'.heap[g]? = some (.cells (cellsOf x.zs) 5 (0, 0)) ∧ Below W.heap.size W w') := fun W hW => toFragPacket_any x.p x.a x.zs.length x.c x.zs W hW (by omega)
      go_wp2_with fail
      refine (KT.out _ HR.out.rd).mono ?_
      rintro e w1 ⟨gy, rfl, hgy, hd, b1⟩
      have L1 : Hid (LB w1 w.heap.size w.heap.size xs.length ys) := HB.out.below b1
      have W1 : Hid (Below w.heap.size w w1) := HW.out.trans (b1.mono hsz)
      have HD : Hid (w1.heap[gy]? = some (.cells (cellsOf x.zs) 5 (0, 0))) := hd
      obtain ⟨cur, hc, hcs, -⟩ := L1.out.blk
      have hL1 := L1.out.lt
      have fz : ∀ o, w1.frozen? ⟨w.heap.size, o, none⟩ = false := fun o => Joins.unfrozen_of_block hc o
      have ce : ∀ o, w1.cell? ⟨w.heap.size, o, none⟩ = cur[o]? := fun o => cell_of_row _ _ _ _ _ _ hc
      obtain ⟨u0, h0⟩ := cells_there (cur := cur) (o := k * 9) (by omega)
      obtain ⟨u1, h1⟩ := cells_there (cur := cur) (o := k * 9 + 1) (by omega)
      obtain ⟨u2, h2⟩ := cells_there (cur := cur) (o := k * 9 + 2) (by omega)
      obtain ⟨u3, h3⟩ := cells_there (cur := cur) (o := k * 9 + 3) (by omega)
      obtain ⟨u4, h4⟩ := cells_there (cur := cur) (o := k * 9 + 4) (by omega)
      obtain ⟨u5, h5⟩ := cells_there (cur := cur) (o := k * 9 + 5) (by omega)
      obtain ⟨u6, h6⟩ := cells_there (cur := cur) (o := k * 9 + 6) (by omega)
      obtain ⟨u7, h7⟩ := cells_there (cur := cur) (o := k * 9 + 7) (by omega)
      obtain ⟨u8, h8⟩ := cells_there (cur := cur) (o := k * 9 + 8) (by omega)
      have q0 := (ce _).trans h0
      have q1 := (ce _).trans h1
      have q2 := (ce _).trans h2
      have q3 := (ce _).trans h3
      have q4 := (ce _).trans h4
      have q5 := (ce _).trans h5
      have q6 := (ce _).trans h6
      have q7 := (ce _).trans h7
      have q8 := (ce _).trans h8
      clear h0 h1 h2 h3 h4 h5 h6 h7 h8 ce hc hcs hd b1 c0 c1 c2 c3 c4 c5 c6 c7 c8 hmk
      go_wp2
      go_roundw
      case rel =>
        have hyk := HY.out
        have P := L1.out.put (p := x.p) (by omega) (show w.heap.size ≤ gy by omega) HD.out (by omega) HR.out.byte
        rw [hyk] at P
        refine ⟨k + 1, ys ++ [(⟨x.p, some ⟨gy, 0, none⟩, x.zs.length, x.zs⟩ : RV)], by omega, by go_num, (show _ = _ by rw [List.length_append, hyk]; rfl), P, (show _ = _ by rw [List.map_append, HK.out, List.take_add_one, HX.out]; simp [RV.key]), below_far9 W1.out (Nat.le_refl _) _ _ _ _ _ _ _ _ _⟩
      case measure => simp [intOf]; omega
    · obtain rfl : k = xs.length := by omega
      go_wp2
      go_ret
      exact ⟨w.heap.size, ys, rfl, HB.out, by rw [HK.out, List.take_length], HW.out⟩
end Go.Proofs.YtjbkgmbakjnlhabGreatDoor
