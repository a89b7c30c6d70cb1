import Derived.Test.YtjbkgmbakjnlhaaGreatDoorPartAd
import Derived.Deep.WholeRow
import Derived.Test.YtjbkgmbakjnlhaaGreatDoorPartAb
namespace Go.Proofs.YtjbkgmbakjnlhaaGreatDoor
set_option maxRecDepth 100000
open Go.RowKit
theorem put9_take {cur : Array Value} {o : Nat} {xs : List Value} (x0 x1 x2 x3 x4 x5 x6 x7 x8 : Value) (hs : o + 9 ≤ cur.size) (h : cur.toList.take o = xs) :
  (put9 cur o x0 x1 x2 x3 x4 x5 x6 x7 x8).toList.take (o + 9) = xs ++ [x0, x1, x2, x3, x4, x5, x6, x7, x8] := by
 have hl : xs.length = o := by rw [← h]; simp; omega
 refine List.ext_getElem? fun i => ?_
 rcases Nat.lt_or_ge i o with h1 | h1
 ·rw [List.getElem?_take_of_lt (by omega), Array.getElem?_toList, put9_far _ _ _ _ _ _ _ _ _ (Or.inl h1), List.getElem?_append_left (by omega), ← h, List.getElem?_take_of_lt h1, Array.getElem?_toList]
 ·rcases Nat.lt_or_ge i (o + 9) with h2 | h2
  ·have e : i = o + (i - o) := by omega
   rw [List.getElem?_take_of_lt h2, Array.getElem?_toList, List.getElem?_append_right (by omega), hl, e, put9_at _ _ _ _ _ _ _ _ _ hs (by omega), Nat.add_sub_cancel_left]
   simp
  ·rw [List.getElem?_eq_none (by simp; omega), List.getElem?_eq_none (by simp; omega)]
def Fill (w : World) (gL n : Nat) (ys : List RV) : Prop := ∃ cur : Array Value, w.heap[gL]? = some (.cells cur 29 (0, 0)) ∧ cur.size = n * 9 ∧ cur.toList.take (ys.length * 9) = ys.flatMap RV.cells
theorem Fill.lt {w : World} {gL n : Nat} {ys : List RV} (h : Fill w gL n ys) : gL < w.heap.size := by
 obtain ⟨cur, h1, _⟩ := h
 exact lt_of_block h1
theorem Fill.kept {w w' : World} {gL n : Nat} {ys : List RV} (h : Fill w gL n ys) (hk : w'.heap[gL]? = w.heap[gL]?) : Fill w' gL n ys := by
 obtain ⟨cur, h1, h2⟩ := h
 exact ⟨cur, hk.trans h1, h2⟩
theorem Fill.row {w : World} {gL n : Nat} {ys : List RV} (h : Fill w gL n ys) : RowB w 29 gL (ys.flatMap RV.cells) := by
 obtain ⟨cur, h1, _, h3⟩ := h
 exact ⟨cur, h1, by rw [flatR_len]; exact h3⟩
theorem Fill.put {w : World} {gL n : Nat} {ys : List RV} (h : Fill w gL n ys) (hn : ys.length < n) (z : RV) :
  Fill (((((((((w.setCell ⟨gL, ys.length * 9, none⟩ (.int .i64 z.p.src)).setCell ⟨gL, ys.length * 9 + 1, none⟩ (.int .i64 z.p.dst)).setCell ⟨gL, ys.length * 9 + 2, none⟩ (.int .i64 z.p.kind)).setCell ⟨gL, ys.length * 9 + 3, none⟩ (.int .i64 z.p.id)).setCell ⟨gL, ys.length * 9 + 4, none⟩ (.int .i64 z.p.hops)).setCell ⟨gL, ys.length * 9 + 5, none⟩ (.bool z.p.whole)).setCell ⟨gL, ys.length * 9 + 6, none⟩ (.int .i64 z.p.off)).setCell ⟨gL, ys.length * 9 + 7, none⟩ (.bool z.p.more)).setCell ⟨gL, ys.length * 9 + 8, none⟩ (.slice z.a z.zs.length z.c)) gL n (ys ++ [z]) := by
 obtain ⟨cur, h1, h2, h3⟩ := h
 refine ⟨_, heap_put9 h1 _ _ _ _ _ _ _ _ _, by rw [put9_size]; exact h2, ?_⟩
 rw [List.length_append, List.flatMap_append, show (ys.length + [z].length) * 9 = ys.length * 9 + 9 by simp; omega, put9_take _ _ _ _ _ _ _ _ _ (by omega) h3]
 simp [RV.cells, pcells]
theorem blk_apart {w : World} {lo : Nat} {ys : List RV} {z : RV} (h : ∀ y ∈ ys, DataB w lo y) (hn : (ys.flatMap RV.blk).Nodup) {w' : World} {L : Nat} (hz : DataB w' L z) (hl : w.heap.size ≤ L) : ((ys ++ [z]).flatMap RV.blk).Nodup := by
 rw [List.flatMap_append, List.nodup_append]
 refine ⟨hn, ?_, fun a ha b hb e => ?_⟩
 ·rw [List.flatMap_singleton]
  unfold RV.blk
  cases z.a <;> simp
 ·obtain ⟨y, hy, hb'⟩ := List.mem_flatMap.1 ha
  have h1 := ((h y hy).blk a hb').2.1
  have h2 := (hz.blk b (by simpa using hb)).1
  omega
set_option maxHeartbeats 3200000 in
theorem copySlot_any (s : SV) (w : World) (h : SOk w s) :
  Calls Tryz.prog 62 #[.agg #[.slice s.a s.xs.length s.c, .int .i64 s.since, .bool s.bad]] w fun e w' => ∃ t : SV, e = .returned (pval w.heap.size) ∧ w'.heap[w.heap.size]? = some (.cells (scells (.slice t.a t.xs.length t.c) t.since t.bad) 39 (0, 0)) ∧ t.key = s.key ∧ SlotB w' (w.heap.size + 1) t ∧ t.blks.Nodup ∧ Below w.heap.size w w' := by
 obtain ⟨i0, hi0, hz0, hz1, hz2⟩ := info_parts Tryz.info9
 obtain ⟨gx, hxa, RX⟩ := h.at_
 have hsl := h.len
 obtain ⟨xs, hxs⟩ : ∃ xs, s.xs = xs := ⟨_, rfl⟩
 rw [hxs] at RX hsl
 rw [hxs, hxa]
 have HXS : Hid (s.xs = xs) := hxs
 clear hxs
 have hmk : ∀ W : World, (Instr.makeSlice 23 (.int .i64 (xs.length : Int)) (.int .i64 (xs.length : Int))).run Tryz.prog W = .ok (.slice (some ⟨W.heap.size, 0, none⟩) xs.length xs.length) (W.alloc (.cells (madeCells (Value.agg #[.int .i64 0, .int .i64 0, .int .i64 0, .int .i64 0, .int .i64 0, .bool false, .int .i64 0, .bool false, .slice none 0 0]).cells (xs.length * 9)) 29)) := fun W => by
  have h := run_make (P := Tryz.prog) W 23 29 i0 _ Tryz.underlying23 hi0 hz0 .i64 .i64 (xs.length : Int) (xs.length : Int) (by omega) (Int.le_refl _) (by rw [hz2]; omega) (by omega)
  rw [Int.toNat_natCast, hz1] at h
  exact h
 obtain ⟨C0, hC0⟩ : ∃ C0, madeCells (Value.agg #[.int .i64 0, .int .i64 0, .int .i64 0, .int .i64 0, .int .i64 0, .bool false, .int .i64 0, .bool false, .slice none 0 0]).cells (xs.length * 9) = C0 := ⟨_, rfl⟩
 have hCs : C0.size = xs.length * 9 := by rw [← hC0]; exact size_madeCells _ _
 rw [hC0] at hmk
 have F0 : Hid (Fill ((w.alloc (.cells #[.slice (some ⟨gx, 0, none⟩) xs.length s.c, .int .i64 s.since, .bool s.bad] 39)).alloc (.cells C0 29)) (w.heap.size + 1) xs.length []) := ⟨C0, heap_new _ _ _ (by simp), hCs, by simp⟩
 have HL : Hid (RL w gx xs) := RX
 clear h hxa RX hi0 hz0 hz1 hz2 hC0 hCs
 go_enter Tryz.func62, Tryz.ntmps62
 go_wp2
 go_loopw [13] (fun i wr => ∃ (k : Nat) (ys : List RV), k ≤ xs.length ∧ i = .int .i64 k ∧ Hid (ys.length = k) ∧ Hid (ys.map RV.key = (xs.take k).map RV.key) ∧ Hid (Fill wr (w.heap.size + 1) xs.length ys) ∧ Hid (∀ y ∈ ys, DataB wr (w.heap.size + 2) y) ∧ Hid ((ys.flatMap RV.blk).Nodup) ∧ Hid (Below w.heap.size w wr) ∧ Hid (wr.heap[w.heap.size]? = some (.cells #[.slice (some ⟨gx, 0, none⟩) xs.length s.c, .int .i64 s.since, .bool s.bad] 39 (0, 0)))) (fun i _ => xs.length - (intOf i).toNat)
 case atStart => exact ⟨0, [], by omega, rfl, rfl, rfl, F0.out, (fun y hy => by cases hy), List.nodup_nil, Joins.below_alloc2 _ _ _, (zHa (by simp)).trans (heap_new _ _ _ rfl)⟩
 case round =>
  obtain ⟨k, ys, hk, rfl, HY, HK, HF, HD, HN, HW, HX⟩ := hrel
  have hsz := HW.out.size
  have lb := lt_of_block HX.out
  have lf := HF.out.lt
  by_cases hlt : k < xs.length
  ·obtain ⟨x, hx⟩ := get_of_lt hlt
   have hi : (k : Int) < (xs.length : Int) := by omega
   have Lr := HL.out.below HW.out
   have hgr := Lr.lt
   obtain ⟨c0, c1, c2, c3, c4, c5, c6, c7, c8⟩ := Lr.elem k x hx
   have HXK : Hid (xs[k]? = some x) := hx
   have HR : Hid (ROk wr x) := Lr.each x (List.mem_of_getElem? hx)
   clear hx Lr
   have KC : Hid (∀ W : World, Below wr.heap.size wr W → Calls Tryz.prog 68 #[.agg #[.int .i64 x.p.src, .int .i64 x.p.dst, .int .i64 x.p.kind, .int .i64 x.p.id, .int .i64 x.p.hops, .bool x.p.whole, .int .i64 x.p.off, .bool x.p.more, .slice x.a x.zs.length x.c]] W fun e w' => ∃ z : RV, e = .returned z.val ∧ z.key = x.key ∧ DataB w' W.heap.size z ∧ Below W.heap.size W w') := fun W h => copyPacket_rv x W (HR.out.below h)
   go_wp2_with fail
   refine (KC.out _ (zBa _ _)).mono ?_
   rintro e w1 ⟨z, rfl, hzk, DZ, b1⟩
   unfold RV.val Pk.val
   have b1' : Below wr.heap.size wr w1 := (zBa _ _).trans (b1.mono (by simp))
   have F1 : Hid (Fill w1 (w.heap.size + 1) xs.length ys) := HF.out.kept (b1'.block _ lf)
   have D1 : Hid (∀ y ∈ ys, DataB w1 (w.heap.size + 2) y) := fun y hy => (HD.out y hy).below b1'
   have N1 : Hid (((ys ++ [z]).flatMap RV.blk).Nodup) := blk_apart HD.out HN.out DZ (by simp)
   have W1 : Hid (Below w.heap.size w w1) := HW.out.trans (b1'.mono hsz)
   have X1 : Hid (w1.heap[w.heap.size]? = some (.cells #[.slice (some ⟨gx, 0, none⟩) xs.length s.c, .int .i64 s.since, .bool s.bad] 39 (0, 0))) := (b1'.block _ lb).trans HX.out
   have DZ' : Hid (DataB w1 (w.heap.size + 2) z) := DZ.le (by simp; omega)
   have HZK : Hid (z.key = x.key) := hzk
   obtain ⟨cur, hc, hcs, -⟩ := id F1.out
   have hL1 := F1.out.lt
   have fz : ∀ o, w1.frozen? ⟨w.heap.size + 1, o, none⟩ = false := fun o => zUf hc o
   have ce : ∀ o, w1.cell? ⟨w.heap.size + 1, o, none⟩ = cur[o]? := fun o => zCr hc
   obtain ⟨u0, h0⟩ := cells_there (cur := cur) (o := k * 9) (by omega)
   obtain ⟨u1, h1⟩ := cells_there (cur := cur) (o := k * 9 + 1) (by omega)
   obtain ⟨u2, h2⟩ := cells_there (cur := cur) (o := k * 9 + 2) (by omega)
   obtain ⟨u3, h3⟩ := cells_there (cur := cur) (o := k * 9 + 3) (by omega)
   obtain ⟨u4, h4⟩ := cells_there (cur := cur) (o := k * 9 + 4) (by omega)
   obtain ⟨u5, h5⟩ := cells_there (cur := cur) (o := k * 9 + 5) (by omega)
   obtain ⟨u6, h6⟩ := cells_there (cur := cur) (o := k * 9 + 6) (by omega)
   obtain ⟨u7, h7⟩ := cells_there (cur := cur) (o := k * 9 + 7) (by omega)
   obtain ⟨u8, h8⟩ := cells_there (cur := cur) (o := k * 9 + 8) (by omega)
   have q0 := (ce _).trans h0
   have q1 := (ce _).trans h1
   have q2 := (ce _).trans h2
   have q3 := (ce _).trans h3
   have q4 := (ce _).trans h4
   have q5 := (ce _).trans h5
   have q6 := (ce _).trans h6
   have q7 := (ce _).trans h7
   have q8 := (ce _).trans h8
   clear h0 h1 h2 h3 h4 h5 h6 h7 h8 ce hc hcs DZ b1 b1' hzk HF HD HN HX c0 c1 c2 c3 c4 c5 c6 c7 c8 hmk KC
   go_wp2
   go_roundw
   case rel =>
    have hyk := HY.out
    have P := F1.out.put (by omega) z
    rw [hyk] at P
    have nb : ∀ y, DataB w1 (w.heap.size + 2) y → DataB (((((((((w1.setCell ⟨w.heap.size + 1, k * 9, none⟩ (.int .i64 z.p.src)).setCell ⟨w.heap.size + 1, k * 9 + 1, none⟩ (.int .i64 z.p.dst)).setCell ⟨w.heap.size + 1, k * 9 + 2, none⟩ (.int .i64 z.p.kind)).setCell ⟨w.heap.size + 1, k * 9 + 3, none⟩ (.int .i64 z.p.id)).setCell ⟨w.heap.size + 1, k * 9 + 4, none⟩ (.int .i64 z.p.hops)).setCell ⟨w.heap.size + 1, k * 9 + 5, none⟩ (.bool z.p.whole)).setCell ⟨w.heap.size + 1, k * 9 + 6, none⟩ (.int .i64 z.p.off)).setCell ⟨w.heap.size + 1, k * 9 + 7, none⟩ (.bool z.p.more)).setCell ⟨w.heap.size + 1, k * 9 + 8, none⟩ (.slice z.a z.zs.length z.c)) (w.heap.size + 2) y := fun y hy => hy.kept fun b hb => heap_far9 _ _ _ _ (by have := (hy.blk b hb).1; omega) _ _ _ _ _ _ _ _ _
    refine ⟨k + 1, ys ++ [z], by omega, by go_num, (show _ = _ by rw [List.length_append, hyk]; rfl), (show _ = _ by rw [List.map_append, HK.out, List.take_add_one, HXK.out]; simp [HZK.out]), P, (fun y hy => ?_), N1.out, below_far9 W1.out (by omega) _ _ _ _ _ _ _ _ _, (heap_far9 _ _ _ _ (by omega) _ _ _ _ _ _ _ _ _).trans X1.out⟩
    rcases List.mem_append.1 hy with h1 | h1
    ·exact nb y (D1.out y h1)
    ·rw [List.mem_singleton.1 h1]
     exact nb z DZ'.out
   case measure => simp [intOf]; omega
  ·obtain rfl : k = xs.length := by omega
   have fz : ∀ o, wr.frozen? ⟨w.heap.size, o, none⟩ = false := fun o => zUf HX.out o
   have q0 : wr.cell? ⟨w.heap.size, 0, none⟩ = some (.slice (some ⟨gx, 0, none⟩) xs.length s.c) := zCr HX.out
   go_wp2
   go_ret
   have hkey : ys.map RV.key = xs.map RV.key := by rw [HK.out, List.take_length]
   refine ⟨⟨some ⟨w.heap.size + 1, 0, none⟩, xs.length, ys, s.since, s.bad⟩, rfl, ?_, ?_, ⟨⟨w.heap.size + 1, rfl, by omega, HF.out.row.kept (zHs (by simp))⟩, fun y hy => ((HD.out y hy).kept fun b hb => zHs (by have := ((HD.out y hy).blk b hb).1; simp only; omega)).le (by omega), ?_, ?_, ?_⟩, ?_, Below.setCell HW.out (Nat.le_refl _) _⟩
   ·rw [set_at HX.out]
    show _ = some (Obj.cells (scells (.slice _ ys.length _) _ _) _ _)
    rw [HY.out]
    rfl
   ·show (_, _, _) = (_, _, _)
    rw [hkey, HXS.out]
   ·show ys.length ≤ _
    rw [HY.out]; exact hsl
   ·show ys.length ≤ xs.length
    rw [HY.out]; omega
   ·show xs.length ≤ _
    omega
   ·show ((some (w.heap.size + 1)).toList ++ ys.flatMap RV.blk).Nodup
    simp only [Option.toList_some, List.singleton_append, List.nodup_cons]
    refine ⟨fun hm => ?_, HN.out⟩
    obtain ⟨y, hy, hb⟩ := List.mem_flatMap.1 hm
    have := ((HD.out y hy).blk _ hb).1
    omega
end Go.Proofs.YtjbkgmbakjnlhaaGreatDoor
namespace Go.Proofs.YtjbkgmbakjnlhaaGreatDoor
set_option maxRecDepth 100000
open Go.RowKit
theorem append_none (g cap : Nat) (ty : TypeId) (W : World) : (Builtin.append_ #[22, 22] ty #[.slice (some ⟨g, 0, none⟩) 0 0, .slice none 0 cap]).run Tryz.prog W = .ok (.slice (some ⟨g, 0, none⟩) 0 0) W := by
 obtain ⟨i0, hi, hz0, hz1, hz2⟩ := info_parts Tryz.info5
 simp [Builtin.append_, run_underlying Tryz.underlying22, sizeOf, typeInfo, hi, Builtin.lenOf, Builtin.firstCells, storeCells]
set_option maxHeartbeats 1600000 in
theorem l1Copy_nil (p : Pk) (cap : Nat) (w : World) :
  Calls Tryz.prog 33 #[p.val (.slice none 0 cap)] w fun e w' => e = .returned (p.val (.slice (some ⟨w.heap.size + 2, 0, none⟩) 0 0)) ∧ w'.heap[w.heap.size + 2]? = some (.cells #[] 5 (0, 0)) ∧ Below w.heap.size w w' := by
 unfold Pk.val
 have ha := fun ty W => append_none (w.heap.size + 2) cap ty W
 go_enter Tryz.func33, Tryz.ntmps33
 go_wp2
 refine bodyPost_ret (v := .agg #[.int .i64 p.src, .int .i64 p.dst, .int .i64 p.kind, .int .i64 p.id, .int .i64 p.hops, .bool p.whole, .int .i64 p.off, .bool p.more, .slice (some ⟨w.heap.size + 2, 0, none⟩) 0 0]) (by simp [results, Tryz.results33, go_sem]) rfl ⟨rfl, heap_new _ _ _ (by simp), ?_⟩
 exact Joins.below_alloc3 _ _ _ _
theorem l1Copy_rv (y : RV) (w : World) (h : ROk w y) :
  Calls Tryz.prog 33 #[y.val] w fun e w' => ∃ z : RV, e = .returned z.val ∧ z.key = y.key ∧ DataB w' w.heap.size z ∧ Below w.heap.size w w' := by
 obtain ⟨p, a, c, zs⟩ := y
 cases a with
 | none =>
  have h0 : zs.length = 0 := by
   rcases h.rd.2 with e | ⟨g, o, e, _⟩
   ·exact e
   ·cases e
  have hz : zs = [] := List.eq_nil_of_length_eq_zero h0
  subst hz
  exact (l1Copy_nil p c w).mono fun e w' ⟨h1, h2, h3⟩ => ⟨⟨p, some ⟨w.heap.size + 2, 0, none⟩, 0, []⟩, h1, rfl, ⟨Or.inr ⟨w.heap.size + 2, rfl, by omega, ⟨#[], h2, rfl⟩, by simp, Nat.zero_le _⟩, by simp, fun z hz => by cases hz⟩, h3⟩
 | some ad =>
  refine (l1Copy_any p ad zs.length c zs w h.rd h.len).mono fun e w' ⟨g, c', h1, h2, h3⟩ => ⟨⟨p, some ⟨g, 0, none⟩, c', zs⟩, h1, rfl, ⟨Or.inr ⟨g, rfl, (own_lt h2 g rfl).1, RowB.of_own h2, ?_⟩, h.len, h.byte⟩, h3⟩
  exact own_caps h2
structure POut (w : World) (lo g c : Nat) (ys : List RV) : Prop where
 own : w.ownsRow lo 29 9 (.slice (some ⟨g, 0, none⟩) ys.length c) ys.length (ys.flatMap RV.cells)
 each : ∀ y ∈ ys, DataB w lo y
 nd : (ys.flatMap RV.blk).Nodup
theorem POut.below {w w' : World} {lo g c : Nat} {ys : List RV} (h : POut w lo g c ys) (hb : Below w.heap.size w w') : POut w' lo g c ys := ⟨own_below h.own hb, fun y hy => (h.each y hy).below hb, h.nd⟩
theorem own_at {w : World} {lo e size n : Nat} {v : Value} {xs : List Value} (h : w.ownsRow lo e size v n xs) : ∀ k, v.ownBlock = some k → ∃ cur, w.heap[k]? = some (.cells cur e (0, 0)) := by
 intro k hk
 rcases h.2 with ⟨hv, _⟩ | ⟨g, cap, cur, hv, _, hh, _⟩
 ·rw [hv] at hk; cases hk
 ·rw [hv] at hk
  cases hk
  exact ⟨cur, hh⟩
theorem POut.slot {w : World} {lo g c : Nat} {ys : List RV} (h : POut w lo g c ys) (hl : ys.length ≤ 1048576) (since : Int) (bad : Bool) : SlotB w lo ⟨some ⟨g, 0, none⟩, c, ys, since, bad⟩ ∧ (SV.blks ⟨some ⟨g, 0, none⟩, c, ys, since, bad⟩).Nodup := by
 have hc := own_caps h.own
 refine ⟨⟨⟨g, rfl, (own_lt h.own g rfl).1, RowB.of_own h.own⟩, h.each, hl, hc.1, hc.2⟩, ?_⟩
 show ((some g).toList ++ ys.flatMap RV.blk).Nodup
 simp only [Option.toList_some, List.singleton_append, List.nodup_cons]
 refine ⟨fun hm => ?_, h.nd⟩
 obtain ⟨y, hy, hb⟩ := List.mem_flatMap.1 hm
 obtain ⟨_, _, cu, hcu⟩ := (h.each y hy).blk _ hb
 obtain ⟨cu', hcu'⟩ := own_at h.own g rfl
 rw [hcu] at hcu'
 cases hcu'
theorem rcells_one (y : RV) : ∀ u ∈ y.cells, u.oneCell' = true := by
 intro u hu
 simp [RV.cells, pcells] at hu
 rcases hu with rfl | rfl | rfl | rfl | rfl | rfl | rfl | rfl | rfl <;> rfl
theorem rcells_new (w : World) (y : RV) : ∀ j u, y.cells[j]? = some u → (w.alloc (.cells (pcells y.p (.slice y.a y.zs.length y.c)) 29)).cell? ((Addr.mk w.heap.size 0 none).add j) = some u := by
 intro j u hu
 rw [add_none, Nat.zero_add, zCr (heap_new _ _ _ rfl), ← Array.getElem?_toList]
 exact hu
theorem POut.nil (w : World) (n base : Nat) (h : n = w.heap.size) (hb : base ≤ n) : POut (w.alloc (.cells #[] 29)) base n 0 [] :=
 ⟨⟨rfl, Or.inr ⟨n, 0, #[], rfl, hb, heap_new _ _ _ h, Nat.le_refl _, by unfold maxLen; omega, rfl, rfl⟩⟩, (fun y hy => by cases hy), List.nodup_nil⟩
set_option maxHeartbeats 3200000 in
theorem l4Pieces_any (gx cx : Nat) (xs : List RV) (w : World) (hR : RL w gx xs) (hl : xs.length ≤ 1048576) :
  Calls Tryz.prog 66 #[.slice (some ⟨gx, 0, none⟩) xs.length cx] w fun e w' => ∃ g c ys, e = .returned (.slice (some ⟨g, 0, none⟩) xs.length c) ∧ POut w' w.heap.size g c ys ∧ ys.map RV.key = xs.map RV.key ∧ Below w.heap.size w w' := by
 obtain ⟨ti, hti, hy0, hy1, hy2⟩ := info_parts Tryz.info9
 have HL : Hid (RL w gx xs) := hR
 have P0 : Hid (POut (w.alloc (.cells #[] 29)) w.heap.size w.heap.size 0 []) := POut.nil w _ _ rfl (Nat.le_refl _)
 clear hR
 go_enter Tryz.func66, Tryz.ntmps66
 go_wp2
 go_loopw [3, 4] (fun v i wr => ∃ (k g c : Nat) (ys : List RV), k ≤ xs.length ∧ i = .int .i64 k ∧ v = .slice (some ⟨g, 0, none⟩) k c ∧ Hid (ys.length = k) ∧ Hid (POut wr w.heap.size g c ys) ∧ Hid (ys.map RV.key = (xs.take k).map RV.key) ∧ Hid (Below w.heap.size w wr)) (fun _ i _ => xs.length - (intOf i).toNat)
 case atStart => exact ⟨0, w.heap.size, 0, [], by omega, rfl, rfl, rfl, P0.out, rfl, zBa _ _⟩
 case round =>
  obtain ⟨k, g, c, ys, hk, rfl, rfl, HY, HP, HK, HW⟩ := hrel
  have hsz := HW.out.size
  by_cases hlt : k < xs.length
  ·obtain ⟨x, hx⟩ := get_of_lt hlt
   have hi : (k : Int) < (xs.length : Int) := by omega
   have Lr := HL.out.below HW.out
   have hgr := Lr.lt
   obtain ⟨c0, c1, c2, c3, c4, c5, c6, c7, c8⟩ := Lr.elem k x hx
   have HX : Hid (xs[k]? = some x) := hx
   have HR : Hid (ROk wr x) := Lr.each x (List.mem_of_getElem? hx)
   clear hx Lr
   have KC : Hid (∀ W : World, Below wr.heap.size wr W → Calls Tryz.prog 33 #[.agg #[.int .i64 x.p.src, .int .i64 x.p.dst, .int .i64 x.p.kind, .int .i64 x.p.id, .int .i64 x.p.hops, .bool x.p.whole, .int .i64 x.p.off, .bool x.p.more, .slice x.a x.zs.length x.c]] W fun e w' => ∃ z : RV, e = .returned z.val ∧ z.key = x.key ∧ DataB w' W.heap.size z ∧ Below W.heap.size W w') := fun W h => l1Copy_rv x W (HR.out.below h)
   go_wp2_with fail
   refine (KC.out _ (Below.refl _ _)).mono ?_
   rintro e w1 ⟨z, rfl, hzk, DZ, b1⟩
   unfold RV.val Pk.val
   have P1 : Hid (POut w1 w.heap.size g c ys) := HP.out.below b1
   have W1 : Hid (Below w.heap.size w w1) := HW.out.trans (b1.mono hsz)
   have N1 : Hid (((ys ++ [z]).flatMap RV.blk).Nodup) := blk_apart HP.out.each HP.out.nd DZ (Nat.le_refl _)
   have DZ1 : Hid (DataB w1 w.heap.size z) := DZ.le hsz
   have HZK : Hid (z.key = x.key) := hzk
   have RO : Hid (w1.ownsRow w.heap.size 29 9 (.slice (some ⟨g, 0, none⟩) k c) k (ys.flatMap RV.cells)) := (by have h := P1.out.own; rw [HY.out] at h; exact h)
   have hs1 := W1.out.size
   clear b1 DZ hzk KC HP c0 c1 c2 c3 c4 c5 c6 c7 c8
   go_wp2_with (at_builtin; refine wpList_append_own _ rfl _ _ 23 rfl w.heap.size 29 ti _ 9 88 Tryz.underlying23 hti hy0 hy1 hy2 rfl (by decide) (.slice (some ⟨g, 0, none⟩) k c) k (ys.flatMap RV.cells) rfl (RO.out.alloc _) ⟨w1.heap.size, 0, none⟩ 1 1 (RV.cells z) rfl rfl ?h1 ?h2 ?h3 ?h4 ?h5 ?_)
   case h1 => exact rcells_new w1 z
   case h2 => exact rcells_one z
   case h3 => unfold maxLen; omega
   case h4 => omega
   case h5 => simp; omega
   intro v1 w4 hown hgrow hnil
   obtain ⟨g', c', rfl⟩ : ∃ g' c', v1 = .slice (some ⟨g', 0, none⟩) (k + 1) c' := form_of hown hnil
   have nb : ∀ y, DataB w1 w.heap.size y → DataB w4 w.heap.size y := fun y hy => (hy.below (zBa _ _)).kept fun b hb => by
    have hy' := hy.below (zBa w1 (.cells (pcells z.p (.slice z.a z.zs.length z.c)) 29))
    obtain ⟨_, hlb, cu, hcu⟩ := hy'.blk b hb
    refine hgrow.block b hlb (fun e => ?_)
    cases e
    obtain ⟨cu', hcu'⟩ := own_at (RO.out.alloc (.cells (pcells z.p (.slice z.a z.zs.length z.c)) 29)) g rfl
    rw [hcu] at hcu'
    cases hcu'
   have P4 : Hid (POut w4 w.heap.size g' c' (ys ++ [z])) := ⟨by rw [List.length_append, HY.out, List.flatMap_append]; simpa using hown, (fun y hy => by
    rcases List.mem_append.1 hy with h1 | h1
    ·exact nb y (P1.out.each y h1)
    ·rw [List.mem_singleton.1 h1]
     exact nb z DZ1.out), N1.out⟩
   have B4 : Hid (Below w.heap.size w w4) := (W1.out.alloc hs1 _).grown hgrow (by simp; omega) (fun j hj => (own_lt RO.out j hj).1)
   clear hown hgrow hnil nb RO
   go_wp2
   go_roundw
   case rel => exact ⟨k + 1, g', c', ys ++ [z], by omega, by go_num, rfl, (show _ = _ by rw [List.length_append, HY.out]; rfl), P4.out, (show _ = _ by rw [List.map_append, HK.out, List.take_add_one, HX.out]; simp [HZK.out]), B4.out⟩
   case measure => simp [intOf]; omega
  ·obtain rfl : k = xs.length := by omega
   go_wp2
   go_ret
   exact ⟨g, c, ys, rfl, HP.out, by rw [HK.out, List.take_length], HW.out⟩
end Go.Proofs.YtjbkgmbakjnlhaaGreatDoor
namespace Go.Proofs.YtjbkgmbakjnlhaaGreatDoor
set_option maxRecDepth 100000
theorem alikeB_iff (x y : PB) : alikeB x y = true ↔ okB x.1 x.2.length = true ∧ okB y.1 y.2.length = true ∧ x.1.src = y.1.src ∧ x.1.dst = y.1.dst ∧ x.1.kind = y.1.kind ∧ x.1.id = y.1.id := by
 unfold alikeB
 simp only [Bool.and_eq_true, beq_iff_eq]
 constructor
 ·rintro ⟨⟨⟨⟨⟨a, b⟩, c⟩, d⟩, e⟩, f⟩; exact ⟨a, b, c, d, e, f⟩
 ·rintro ⟨a, b, c, d, e, f⟩; exact ⟨⟨⟨⟨⟨a, b⟩, c⟩, d⟩, e⟩, f⟩
theorem alikeL_iff (L : List PB) : alikeL L = true ↔ L ≠ [] ∧ L.length ≤ 40 ∧ ∀ x ∈ L, ∀ y ∈ L, alikeB x y = true := by
 match L with
 | [] => simp [alikeL]
 | x :: r =>
  unfold alikeL
  rw [Bool.and_eq_true, List.all_eq_true]
  constructor
  ·rintro ⟨h1, h2⟩
   refine ⟨by simp, by simpa using h1, fun a ha b hb => ?_⟩
   have p := (alikeB_iff x a).1 (h2 a ha)
   have q := (alikeB_iff x b).1 (h2 b hb)
   exact (alikeB_iff a b).2 ⟨p.2.1, q.2.1, by rw [← p.2.2.1, q.2.2.1], by rw [← p.2.2.2.1, q.2.2.2.1], by rw [← p.2.2.2.2.1, q.2.2.2.2.1], by rw [← p.2.2.2.2.2, q.2.2.2.2.2]⟩
  ·rintro ⟨_, h1, h2⟩
   exact ⟨by simpa using h1, fun y hy => h2 x (List.mem_cons_self ..) y hy⟩
theorem disagreeL_iff (L : List PB) : disagreeL L = true ↔ ∃ x ∈ L, ∃ y ∈ L, againstB x y = true := by
 unfold disagreeL
 simp only [List.any_eq_true]
theorem agree_of {L : List PB} (h : disagreeL L = false) {x y : PB} (hx : x ∈ L) (hy : y ∈ L) : againstB x y = false := by
 cases e : againstB x y with
 | false => rfl
 | true =>
  have := (disagreeL_iff L).2 ⟨x, hx, y, hy, e⟩
  rw [h] at this
  cases this
theorem bytes_eq {x y : PB} (h : againstB x y = false) {j : Int} (hx : hasB x j = true) (hy : hasB y j = true) : byteAt x j = byteAt y j := by
 unfold againstB at h
 rw [Bool.or_eq_false_iff, List.any_eq_false] at h
 unfold hasB endOf at hx
 simp at hx
 have e : x.1.off + (((j - x.1.off).toNat : Nat) : Int) = j := by omega
 have h1 := h.1 (j - x.1.off).toNat (List.mem_range.2 (by omega))
 rw [e, hy] at h1
 simpa using h1
theorem join_code (L : List PB) : (joinL L).1 = 0 ∨ (joinL L).1 = 1 ∨ (joinL L).1 = 2 ∨ (joinL L).1 = 3 := by
 unfold joinL
 repeat' split
 all_goals simp
theorem join_one (L : List PB) : (joinL L).1 = 1 ↔ alikeL L = false := by
 unfold joinL
 cases alikeL L with
 | false => simp
 | true =>
  simp only [if_true]
  repeat' split
  all_goals simp
theorem join_two (L : List PB) : (joinL L).1 = 2 ↔ alikeL L = true ∧ disagreeL L = true := by
 unfold joinL
 cases alikeL L with
 | false => simp
 | true =>
  cases disagreeL L with
  | true => simp
  | false =>
   simp only [if_true]
   repeat' split
   all_goals simp_all
theorem alike_more {L : List PB} {z : PB} (ha : alikeL L = true) (hz : ∀ x ∈ L, alikeB x z = true) (hl : L.length < 40) : alikeL (L ++ [z]) = true := by
 obtain ⟨hne, _, hal⟩ := (alikeL_iff L).1 ha
 refine (alikeL_iff _).2 ⟨by simp, by simp; omega, fun x hx y hy => ?_⟩
 match L, hne with
 | w :: r, _ =>
  have hw := (alikeB_iff w z).1 (hz w (List.mem_cons_self ..))
  have hzz : alikeB z z = true := (alikeB_iff z z).2 ⟨hw.2.1, hw.2.1, rfl, rfl, rfl, rfl⟩
  have sym : ∀ a b, alikeB a b = true → alikeB b a = true := fun a b h => by
   have k := (alikeB_iff a b).1 h
   exact (alikeB_iff b a).2 ⟨k.2.1, k.1, k.2.2.1.symm, k.2.2.2.1.symm, k.2.2.2.2.1.symm, k.2.2.2.2.2.symm⟩
  rcases List.mem_append.1 hx with a | a <;> rcases List.mem_append.1 hy with b | b
  ·exact hal x a y b
  ·rw [List.mem_singleton.1 b]; exact hz x a
  ·rw [List.mem_singleton.1 a]; exact sym _ _ (hz y b)
  ·rw [List.mem_singleton.1 a, List.mem_singleton.1 b]; exact hzz
theorem join_lies {L : List PB} {z : PB} (h : (joinL L).1 = 2) (hz : ∀ x ∈ L, alikeB x z = true) (hl : L.length < 40) : (joinL (L ++ [z])).1 = 2 := by
 obtain ⟨ha, hd⟩ := (join_two L).1 h
 refine (join_two _).2 ⟨alike_more ha hz hl, ?_⟩
 obtain ⟨x, hx, y, hy, e⟩ := (disagreeL_iff L).1 hd
 exact (disagreeL_iff _).2 ⟨x, List.mem_append_left _ hx, y, List.mem_append_left _ hy, e⟩
theorem find_prefix {L : List PB} {z x : PB} {f : PB → Bool} (h : L.find? f = some x) : (L ++ [z]).find? f = some x := by
 rw [List.find?_append, h]; rfl
theorem bytes_prefix {L : List PB} {z : PB} : ∀ n bs, bytesL L n = some bs → bytesL (L ++ [z]) n = some bs := by
 intro n
 induction n with
 | zero => intro bs h; exact h
 | succ n ih =>
  intro bs h
  rw [bytesL] at h ⊢
  cases e1 : bytesL L n with
  | none => rw [e1] at h; simp at h
  | some cs =>
   cases e2 : L.find? (fun x => hasB x n) with
   | none => rw [e1, e2] at h; simp at h
   | some x =>
    rw [e1, e2] at h
    rw [ih cs e1, find_prefix e2]
    exact h
theorem join_more {L : List PB} {z : PB} (h : (joinL L).1 = 0) (hz : ∀ x ∈ L, alikeB x z = true) (hl : L.length < 40) : (joinL (L ++ [z])).1 = 2 ∨ ((joinL (L ++ [z])).1 = 0 ∧ (joinL (L ++ [z])).2.2 = (joinL L).2.2 ∧ (joinL (L ++ [z])).2.1 = headL (L ++ [z]) ∧ (joinL L).2.1 = headL L) := by
 have ha : alikeL L = true := by
  cases e : alikeL L with
  | true => rfl
  | false => have := (join_one L).2 e; omega
 have ha' := alike_more ha hz hl
 cases hd' : disagreeL (L ++ [z]) with
 | true => exact Or.inl ((join_two _).2 ⟨ha', hd'⟩)
 | false =>
  right
  have hd : disagreeL L = false := by
   cases e : disagreeL L with
   | false => rfl
   | true => have := (join_two L).2 ⟨ha, e⟩; omega
  unfold joinL at h ⊢
  rw [ha, if_pos rfl, hd, if_neg (by simp)] at h
  rw [ha', if_pos rfl, hd', if_neg (by simp), ha, if_pos rfl, hd, if_neg (by simp)]
  cases e1 : endL L with
  | none => rw [e1] at h; simp at h
  | some e =>
   rw [e1] at h
   simp only at h
   have e1' : endL (L ++ [z]) = some e := by
    unfold endL at e1 ⊢
    cases e2 : L.find? (fun x => !x.1.more) with
    | none => rw [e2] at e1; simp at e1
    | some x => rw [find_prefix e2, ← e1, e2]
   rw [e1']
   simp only
   cases e3 : bytesL L e.toNat with
   | none => rw [e3] at h; simp at h
   | some bs =>
    rw [bytes_prefix e.toNat bs e3]
    simp
end Go.Proofs.YtjbkgmbakjnlhaaGreatDoor
