/- copySlot: a slot in new memory. -/
import Derived.Test.YtjbkgmbakjnlhabGreatDoorPartAg
import Derived.Deep.WholeRow
import Derived.Test.YtjbkgmbakjnlhabGreatDoorPartAc
import Derived.WalkKit
import Derived.LaidEql
import Derived.Stop.Asserts
import Derived.RowKitTokens
namespace Go.Proofs.YtjbkgmbakjnlhabGreatDoor
set_option maxRecDepth 100000
open Go.RowKit

theorem put9_take {cur : Array Value} {o : Nat} {xs : List Value} (x0 x1 x2 x3 x4 x5 x6 x7 x8 : Value) (hs : o + 9 ≤ cur.size) (h : cur.toList.take o = xs) :
    (put9 cur o x0 x1 x2 x3 x4 x5 x6 x7 x8).toList.take (o + 9) = xs ++ [x0, x1, x2, x3, x4, x5, x6, x7, x8] := by
  have hl : xs.length = o := by rw [← h]; simp; omega
  refine List.ext_getElem? fun i => ?_
  rcases Nat.lt_or_ge i o with h1 | h1
  · rw [List.getElem?_take_of_lt (by omega), Array.getElem?_toList, put9_far _ _ _ _ _ _ _ _ _ (Or.inl h1), List.getElem?_append_left (by omega), ← h, List.getElem?_take_of_lt h1, Array.getElem?_toList]
  · rcases Nat.lt_or_ge i (o + 9) with h2 | h2
    · have e : i = o + (i - o) := by omega
      rw [List.getElem?_take_of_lt h2, Array.getElem?_toList, List.getElem?_append_right (by omega), hl, e, put9_at _ _ _ _ _ _ _ _ _ hs (by omega), Nat.add_sub_cancel_left]
      simp
    · rw [List.getElem?_eq_none (by simp; omega), List.getElem?_eq_none (by simp; omega)]
/-- a block of so many packets, of which the first are written -/
def Fill (w : World) (gL n : Nat) (ys : List RV) : Prop := ∃ cur : Array Value, w.heap[gL]? = some (.cells cur 33 (0, 0)) ∧ cur.size = n * 9 ∧ cur.toList.take (ys.length * 9) = ys.flatMap RV.cells
theorem Fill.lt {w : World} {gL n : Nat} {ys : List RV} (h : Fill w gL n ys) : gL < w.heap.size := by
  obtain ⟨cur, h1, _⟩ := h
  exact lt_of_block h1
theorem Fill.kept {w w' : World} {gL n : Nat} {ys : List RV} (h : Fill w gL n ys) (hk : w'.heap[gL]? = w.heap[gL]?) : Fill w' gL n ys := by
  obtain ⟨cur, h1, h2⟩ := h
  exact ⟨cur, hk.trans h1, h2⟩
theorem Fill.row {w : World} {gL n : Nat} {ys : List RV} (h : Fill w gL n ys) : RowB w 33 gL (ys.flatMap RV.cells) := by
  obtain ⟨cur, h1, _, h3⟩ := h
  exact ⟨cur, h1, by rw [flatR_len]; exact h3⟩
theorem Fill.put {w : World} {gL n : Nat} {ys : List RV} (h : Fill w gL n ys) (hn : ys.length < n) (z : RV) :
    Fill (((((((((w.setCell ⟨gL, ys.length * 9, none⟩ (.int .i64 z.p.src)).setCell ⟨gL, ys.length * 9 + 1, none⟩ (.int .i64 z.p.dst)).setCell ⟨gL, ys.length * 9 + 2, none⟩ (.int .i64 z.p.kind)).setCell ⟨gL, ys.length * 9 + 3, none⟩ (.int .i64 z.p.id)).setCell ⟨gL, ys.length * 9 + 4, none⟩ (.int .i64 z.p.hops)).setCell ⟨gL, ys.length * 9 + 5, none⟩ (.bool z.p.whole)).setCell ⟨gL, ys.length * 9 + 6, none⟩ (.int .i64 z.p.off)).setCell ⟨gL, ys.length * 9 + 7, none⟩ (.bool z.p.more)).setCell ⟨gL, ys.length * 9 + 8, none⟩ (.slice z.a z.zs.length z.c)) gL n (ys ++ [z]) := by
  obtain ⟨cur, h1, h2, h3⟩ := h
  refine ⟨_, heap_put9 h1 _ _ _ _ _ _ _ _ _, by rw [put9_size]; exact h2, ?_⟩
  rw [List.length_append, List.flatMap_append, show (ys.length + [z].length) * 9 = ys.length * 9 + 9 by simp; omega, put9_take _ _ _ _ _ _ _ _ _ (by omega) h3]
  simp [RV.cells, pcells]
theorem blk_apart {w : World} {lo : Nat} {ys : List RV} {z : RV} (h : ∀ y ∈ ys, DataB w lo y) (hn : (ys.flatMap RV.blk).Nodup) {w' : World} {L : Nat} (hz : DataB w' L z) (hl : w.heap.size ≤ L) : ((ys ++ [z]).flatMap RV.blk).Nodup := by
  rw [List.flatMap_append, List.nodup_append]
  refine ⟨hn, ?_, fun a ha b hb e => ?_⟩
  · rw [List.flatMap_singleton]
    unfold RV.blk
    cases z.a <;> simp
  · obtain ⟨y, hy, hb'⟩ := List.mem_flatMap.1 ha
    have h1 := ((h y hy).blk a hb').2.1
    have h2 := (hz.blk b (by simpa using hb)).1
    omega
set_option maxRecDepth 100000 in
set_option maxHeartbeats 3200000 in
theorem copySlot_any (s : SV) (w : World) (h : SOk w s) :
    Calls Tryz.prog 53 #[.agg #[.slice s.a s.xs.length s.c, .int .i64 s.since, .bool s.bad]] w fun e w' => ∃ t : SV, e = .returned (pval w.heap.size) ∧ w'.heap[w.heap.size]? = some (.cells (scells (.slice t.a t.xs.length t.c) t.since t.bad) 71 (0, 0)) ∧ t.key = s.key ∧ SlotB w' (w.heap.size + 1) t ∧ t.blks.Nodup ∧ Below w.heap.size w w' := by
  obtain ⟨i0, hi0, hz0, hz1, hz2⟩ := info_parts Tryz.info9
  obtain ⟨gx, hxa, RX⟩ := h.at_
  have hsl := h.len
  obtain ⟨xs, hxs⟩ : ∃ xs, s.xs = xs := ⟨_, rfl⟩
  rw [hxs] at RX hsl
  rw [hxs, hxa]
  have HXS : Hid (s.xs = xs) := hxs
  clear hxs
  have hmk : ∀ W : World, (Instr.makeSlice 69 (.int .i64 (xs.length : Int)) (.int .i64 (xs.length : Int))).run Tryz.prog W = .ok (.slice (some ⟨W.heap.size, 0, none⟩) xs.length xs.length) (W.alloc (.cells (madeCells (Value.agg #[.int .i64 0, .int .i64 0, .int .i64 0, .int .i64 0, .int .i64 0, .bool false, .int .i64 0, .bool false, .slice none 0 0]).cells (xs.length * 9)) 33)) := fun W => by
    have h := run_make (P := Tryz.prog) W 69 33 i0 _ Tryz.underlying69 hi0 hz0 .i64 .i64 (xs.length : Int) (xs.length : Int) (by omega) (Int.le_refl _) (by rw [hz2]; omega) (by omega)
    rw [Int.toNat_natCast, hz1] at h
    exact h
  obtain ⟨C0, hC0⟩ : ∃ C0, madeCells (Value.agg #[.int .i64 0, .int .i64 0, .int .i64 0, .int .i64 0, .int .i64 0, .bool false, .int .i64 0, .bool false, .slice none 0 0]).cells (xs.length * 9) = C0 := ⟨_, rfl⟩
  have hCs : C0.size = xs.length * 9 := by rw [← hC0]; exact size_madeCells _ _
  rw [hC0] at hmk
  have F0 : Hid (Fill ((w.alloc (.cells #[.slice (some ⟨gx, 0, none⟩) xs.length s.c, .int .i64 s.since, .bool s.bad] 71)).alloc (.cells C0 33)) (w.heap.size + 1) xs.length []) := ⟨C0, heap_new _ _ _ (by simp), hCs, by simp⟩
  have HL : Hid (RL w gx xs) := RX
  clear h hxa RX hi0 hz0 hz1 hz2 hC0 hCs
  go_enter Tryz.func53, Tryz.ntmps53
  go_wp2
  go_loopw [13] (fun i wr => ∃ (k : Nat) (ys : List RV), k ≤ xs.length ∧ i = .int .i64 k ∧ Hid (ys.length = k) ∧ Hid (ys.map RV.key = (xs.take k).map RV.key) ∧ Hid (Fill wr (w.heap.size + 1) xs.length ys) ∧ Hid (∀ y ∈ ys, DataB wr (w.heap.size + 2) y) ∧ Hid ((ys.flatMap RV.blk).Nodup) ∧ Hid (Below w.heap.size w wr) ∧ Hid (wr.heap[w.heap.size]? = some (.cells #[.slice (some ⟨gx, 0, none⟩) xs.length s.c, .int .i64 s.since, .bool s.bad] 71 (0, 0)))) (fun i _ => xs.length - (intOf i).toNat)
  case atStart => exact ⟨0, [], by omega, rfl, rfl, rfl, F0.out, (fun y hy => by cases hy), List.nodup_nil, Joins.below_alloc2 _ _ _, (Below.heap_alloc _ _ _ (by simp)).trans (heap_new _ _ _ rfl)⟩
  case round =>
    obtain ⟨k, ys, hk, rfl, HY, HK, HF, HD, HN, HW, HX⟩ := hrel
    have hsz := HW.out.size
    have lb := lt_of_block HX.out
    have lf := HF.out.lt
    by_cases hlt : k < xs.length
    · obtain ⟨x, hx⟩ := get_of_lt hlt
      have hi : (k : Int) < (xs.length : Int) := by omega
      have Lr := HL.out.below HW.out
      have hgr := Lr.lt
      obtain ⟨c0, c1, c2, c3, c4, c5, c6, c7, c8⟩ := Lr.elem k x hx
      have HXK : Hid (xs[k]? = some x) := hx
      have HR : Hid (ROk wr x) := Lr.each x (List.mem_of_getElem? hx)
      clear hx Lr
      have KC : Hid (∀ W : World, Below wr.heap.size wr W → Calls Tryz.prog 56 #[.agg #[.int .i64 x.p.src, .int .i64 x.p.dst, .int .i64 x.p.kind, .int .i64 x.p.id, .int .i64 x.p.hops, .bool x.p.whole, .int .i64 x.p.off, .bool x.p.more, .slice x.a x.zs.length x.c]] W fun e w' => ∃ z : RV, e = .returned z.val ∧ z.key = x.key ∧ DataB w' W.heap.size z ∧ Below W.heap.size W w') := fun W h => copyPacket_rv x W (HR.out.below h)
      go_wp2_with fail
      refine (KC.out _ (Joins.below_alloc1 _ _)).mono ?_
      rintro e w1 ⟨z, rfl, hzk, DZ, b1⟩
      unfold RV.val Pk.val
      have b1' : Below wr.heap.size wr w1 := (Joins.below_alloc1 _ _).trans (b1.mono (by simp))
      have F1 : Hid (Fill w1 (w.heap.size + 1) xs.length ys) := HF.out.kept (b1'.block _ lf)
      have D1 : Hid (∀ y ∈ ys, DataB w1 (w.heap.size + 2) y) := fun y hy => (HD.out y hy).below b1'
      have N1 : Hid (((ys ++ [z]).flatMap RV.blk).Nodup) := blk_apart HD.out HN.out DZ (by simp)
      have W1 : Hid (Below w.heap.size w w1) := HW.out.trans (b1'.mono hsz)
      have X1 : Hid (w1.heap[w.heap.size]? = some (.cells #[.slice (some ⟨gx, 0, none⟩) xs.length s.c, .int .i64 s.since, .bool s.bad] 71 (0, 0))) := (b1'.block _ lb).trans HX.out
      have DZ' : Hid (DataB w1 (w.heap.size + 2) z) := DZ.le (by simp; omega)
      have HZK : Hid (z.key = x.key) := hzk
      obtain ⟨cur, hc, hcs, -⟩ := id F1.out
      have hL1 := F1.out.lt
      have fz : ∀ o, w1.frozen? ⟨w.heap.size + 1, o, none⟩ = false := fun o => Joins.unfrozen_of_block hc o
      have ce : ∀ o, w1.cell? ⟨w.heap.size + 1, o, none⟩ = cur[o]? := fun o => cell_of_row _ _ _ _ _ _ hc
      obtain ⟨u0, h0⟩ := cells_there (cur := cur) (o := k * 9) (by omega)
      obtain ⟨u1, h1⟩ := cells_there (cur := cur) (o := k * 9 + 1) (by omega)
      obtain ⟨u2, h2⟩ := cells_there (cur := cur) (o := k * 9 + 2) (by omega)
      obtain ⟨u3, h3⟩ := cells_there (cur := cur) (o := k * 9 + 3) (by omega)
      obtain ⟨u4, h4⟩ := cells_there (cur := cur) (o := k * 9 + 4) (by omega)
      obtain ⟨u5, h5⟩ := cells_there (cur := cur) (o := k * 9 + 5) (by omega)
      obtain ⟨u6, h6⟩ := cells_there (cur := cur) (o := k * 9 + 6) (by omega)
      obtain ⟨u7, h7⟩ := cells_there (cur := cur) (o := k * 9 + 7) (by omega)
      obtain ⟨u8, h8⟩ := cells_there (cur := cur) (o := k * 9 + 8) (by omega)
      have q0 := (ce _).trans h0
      have q1 := (ce _).trans h1
      have q2 := (ce _).trans h2
      have q3 := (ce _).trans h3
      have q4 := (ce _).trans h4
      have q5 := (ce _).trans h5
      have q6 := (ce _).trans h6
      have q7 := (ce _).trans h7
      have q8 := (ce _).trans h8
      clear h0 h1 h2 h3 h4 h5 h6 h7 h8 ce hc hcs DZ b1 b1' hzk HF HD HN HX c0 c1 c2 c3 c4 c5 c6 c7 c8 hmk KC
      go_wp2
      go_roundw
      case rel =>
        have hyk := HY.out
        have P := F1.out.put (by omega) z
        rw [hyk] at P
        have nb : ∀ y, DataB w1 (w.heap.size + 2) y → DataB (((((((((w1.setCell ⟨w.heap.size + 1, k * 9, none⟩ (.int .i64 z.p.src)).setCell ⟨w.heap.size + 1, k * 9 + 1, none⟩ (.int .i64 z.p.dst)).setCell ⟨w.heap.size + 1, k * 9 + 2, none⟩ (.int .i64 z.p.kind)).setCell ⟨w.heap.size + 1, k * 9 + 3, none⟩ (.int .i64 z.p.id)).setCell ⟨w.heap.size + 1, k * 9 + 4, none⟩ (.int .i64 z.p.hops)).setCell ⟨w.heap.size + 1, k * 9 + 5, none⟩ (.bool z.p.whole)).setCell ⟨w.heap.size + 1, k * 9 + 6, none⟩ (.int .i64 z.p.off)).setCell ⟨w.heap.size + 1, k * 9 + 7, none⟩ (.bool z.p.more)).setCell ⟨w.heap.size + 1, k * 9 + 8, none⟩ (.slice z.a z.zs.length z.c)) (w.heap.size + 2) y := fun y hy => hy.kept fun b hb => heap_far9 _ _ _ _ (by have := (hy.blk b hb).1; omega) _ _ _ _ _ _ _ _ _
        refine ⟨k + 1, ys ++ [z], by omega, by go_num, (show _ = _ by rw [List.length_append, hyk]; rfl), (show _ = _ by rw [List.map_append, HK.out, List.take_add_one, HXK.out]; simp [HZK.out]), P, (fun y hy => ?_), N1.out, below_far9 W1.out (by omega) _ _ _ _ _ _ _ _ _, (heap_far9 _ _ _ _ (by omega) _ _ _ _ _ _ _ _ _).trans X1.out⟩
        rcases List.mem_append.1 hy with h1 | h1
        · exact nb y (D1.out y h1)
        · rw [List.mem_singleton.1 h1]
          exact nb z DZ'.out
      case measure => simp [intOf]; omega
    · obtain rfl : k = xs.length := by omega
      have fz : ∀ o, wr.frozen? ⟨w.heap.size, o, none⟩ = false := fun o => Joins.unfrozen_of_block HX.out o
      have q0 : wr.cell? ⟨w.heap.size, 0, none⟩ = some (.slice (some ⟨gx, 0, none⟩) xs.length s.c) := cell_of_row _ _ _ _ _ _ HX.out
      go_wp2
      go_ret
      have hkey : ys.map RV.key = xs.map RV.key := by rw [HK.out, List.take_length]
      refine ⟨⟨some ⟨w.heap.size + 1, 0, none⟩, xs.length, ys, s.since, s.bad⟩, rfl, ?_, ?_, ⟨⟨w.heap.size + 1, rfl, by omega, HF.out.row.kept (Below.heap_setCell _ _ _ _ (by simp))⟩, fun y hy => ((HD.out y hy).kept fun b hb => Below.heap_setCell _ _ _ _ (by have := ((HD.out y hy).blk b hb).1; simp only; omega)).le (by omega), ?_, ?_, ?_⟩, ?_, Below.setCell HW.out (Nat.le_refl _) _⟩
      · rw [set_at HX.out]
        show _ = some (Obj.cells (scells (.slice _ ys.length _) _ _) _ _)
        rw [HY.out]
        rfl
      · show (_, _, _) = (_, _, _)
        rw [hkey, HXS.out]
      · show ys.length ≤ _
        rw [HY.out]; exact hsl
      · show ys.length ≤ xs.length
        rw [HY.out]; omega
      · show xs.length ≤ _
        omega
      · show ((some (w.heap.size + 1)).toList ++ ys.flatMap RV.blk).Nodup
        simp only [Option.toList_some, List.singleton_append, List.nodup_cons]
        refine ⟨fun hm => ?_, HN.out⟩
        obtain ⟨y, hy, hb⟩ := List.mem_flatMap.1 hm
        have := ((HD.out y hy).blk _ hb).1
        omega
end Go.Proofs.YtjbkgmbakjnlhabGreatDoor

/- errors.As at a refusal, and codeOf. -/
namespace Go.Proofs.YtjbkgmbakjnlhabGreatDoor
set_option maxRecDepth 100000
open Go.RowKit Go.Extern.Stop Go.Stop Go.Extern

theorem as_nil (t : Value) (w : World) :
    Calls Tryz.prog 54 #[.nilIface, t] w fun e w' => e = .returned (.bool false) ∧ w' = w := by
  go_enter Tryz.func54, Tryz.ntmps54
  go_wp2
  go_ret
  exact ⟨rfl, rfl⟩
theorem Tryz.valueOfP (t : Addr) (w : World) : (ReflectliteValue.unpack (.iface 100 (.pointer (some t)))).run Tryz.prog w
    = .ok (.agg #[.pointer (some ⟨1, 100, none⟩), .pointer (some ⟨w.heap.size, 0, none⟩), .int .u64 150]) (w.alloc (.cells #[.pointer (some t)] 100)) := by kernel_rfl
theorem Tryz.typeP (a : Addr) (w : World) : (ReflectliteValue.methodAny (ReflectliteValue.valueError "reflectlite.Value.Type" 0) (fun t _ _ _ => ReflectliteType.toType t) #[.agg #[.pointer (some ⟨1, 100, none⟩), .pointer (some a), .int .u64 150]]).run Tryz.prog w
    = .ok (.iface 152 (.agg #[.pointer (some ⟨1, 100, none⟩)])) w := by kernel_rfl
theorem Tryz.methodKind (h : Value) (w : World) : (Go.method 313 152 (.agg #[h]) "Kind").run Tryz.prog w = .ok (135, h) w := by kernel_rfl
theorem Tryz.kindP (w : World) : ((ReflectliteType.abiMethod fun t => (fun a : Nat => Value.int IntKind.u8 (a : Int)) <$> Rtype.kind t) #[.pointer (some ⟨1, 100, none⟩)]).run Tryz.prog w = .ok (.int .u8 22) w := by kernel_rfl
theorem Tryz.kindS (w : World) : ((ReflectliteType.abiMethod fun t => (fun a : Nat => Value.int IntKind.u8 (a : Int)) <$> Rtype.kind t) #[.pointer (some ⟨1, 86, none⟩)]).run Tryz.prog w = .ok (.int .u8 25) w := by kernel_rfl
theorem rlm (z : Sem Value) (f : TypeId → Addr → Nat → Nat → Sem Value) (v : Value) :
    ReflectliteValue.method z f #[v] = (do match ← ReflectliteValue.parts v with | none => z | some (t, a, fl) => f t a fl (fl % 32)) := rfl
theorem Tryz.partsP (a : Addr) (w : World) : (ReflectliteValue.parts (.agg #[.pointer (some ⟨1, 100, none⟩), .pointer (some a), .int .u64 150])).run Tryz.prog w = .ok (some (100, a, 150)) w := by kernel_rfl
theorem Tryz.isNilP (a p : Addr) (W : World) (ha : W.cell? a = some (.pointer (some p))) :
    (ReflectliteValue.method (ReflectliteValue.valueError "reflectlite.Value.IsNil" 0) ReflectliteValue.isNil #[.agg #[.pointer (some ⟨1, 100, none⟩), .pointer (some a), .int .u64 150]]).run Tryz.prog W = .ok (.bool false) W := by
  rw [rlm]
  simp only [Sem.run_bind, Tryz.partsP, Result.andThen]
  simp [ReflectliteValue.isNil, loadVar, isAgg, underlying, Tryz.underlying100, ha, Result.andThen]
theorem Tryz.methodElem (h : Value) (w : World) : (Go.method 313 152 (.agg #[h]) "Elem").run Tryz.prog w = .ok (150, .agg #[h]) w := by kernel_rfl
theorem Tryz.methodAssignableTo (h : Value) (w : World) : (Go.method 313 152 (.agg #[h]) "AssignableTo").run Tryz.prog w = .ok (148, .agg #[h]) w := by kernel_rfl
theorem Tryz.methodImplements (h : Value) (w : World) : (Go.method 313 152 (.agg #[h]) "Implements").run Tryz.prog w = .ok (151, .agg #[h]) w := by kernel_rfl
theorem Tryz.elemP (w : World) : (ReflectliteType.method ReflectliteType.elem #[.agg #[.pointer (some ⟨1, 100, none⟩)]]).run Tryz.prog w = .ok (.iface 152 (.agg #[.pointer (some ⟨1, 86, none⟩)])) w := by kernel_rfl
theorem Tryz.implementsS (w : World) : (ReflectliteType.relation "Implements" ReflectliteType.implements_ #[.agg #[.pointer (some ⟨1, 86, none⟩)], .iface 152 (.agg #[.pointer (some ⟨1, 59, none⟩)])]).run Tryz.prog w = .ok (.bool true) w := by kernel_rfl
theorem Tryz.typeOfS (v : Value) (w : World) : (ReflectliteType.typeOf #[.iface 86 v]).run Tryz.prog w = .ok (.iface 152 (.agg #[.pointer (some ⟨1, 86, none⟩)])) w := by kernel_rfl
theorem Tryz.assignableS (w : World) : (ReflectliteType.relation "AssignableTo" ReflectliteType.assignableTo #[.agg #[.pointer (some ⟨1, 86, none⟩)], .iface 152 (.agg #[.pointer (some ⟨1, 86, none⟩)])]).run Tryz.prog w = .ok (.bool true) w := by kernel_rfl
theorem Tryz.valueOfS (c : Int) (w : World) : (ReflectliteValue.unpack (.iface 86 (.agg #[.int .i64 c]))).run Tryz.prog w
    = .ok (.agg #[.pointer (some ⟨1, 86, none⟩), .pointer (some ⟨w.heap.size, 0, none⟩), .int .u64 153]) (w.alloc (.cells #[.int .i64 c] 86)) := by kernel_rfl
theorem Tryz.elemOfP (w : World) : (Rtype.elem? 100).run Tryz.prog w = .ok (some 86) w := by kernel_rfl
theorem Tryz.mkS (p : Addr) (w : World) : (ReflectliteValue.mk 86 p ReflectliteValue.flagAddr).run Tryz.prog w = .ok (.agg #[.pointer (some ⟨1, 86, none⟩), .pointer (some p), .int .u64 409]) w := by kernel_rfl
theorem Tryz.elemVP (a p : Addr) (W : World) (ha : W.cell? a = some (.pointer (some p))) :
    (ReflectliteValue.method (ReflectliteValue.valueError "reflectlite.Value.Elem" 0) ReflectliteValue.elem #[.agg #[.pointer (some ⟨1, 100, none⟩), .pointer (some a), .int .u64 150]]).run Tryz.prog W
      = .ok (.agg #[.pointer (some ⟨1, 86, none⟩), .pointer (some p), .int .u64 409]) W := by
  rw [rlm]
  simp only [Sem.run_bind, Tryz.partsP, Result.andThen]
  simp [ReflectliteValue.elem, loadVar, isAgg, underlying, Tryz.underlying100, ha, Result.andThen, Tryz.elemOfP, Tryz.mkS]
theorem Tryz.partsSa (a : Addr) (w : World) : (ReflectliteValue.parts (.agg #[.pointer (some ⟨1, 86, none⟩), .pointer (some a), .int .u64 409])).run Tryz.prog w = .ok (some (86, a, 409)) w := by kernel_rfl
theorem Tryz.partsS (a : Addr) (w : World) : (ReflectliteValue.parts (.agg #[.pointer (some ⟨1, 86, none⟩), .pointer (some a), .int .u64 153])).run Tryz.prog w = .ok (some (86, a, 153)) w := by kernel_rfl
theorem Tryz.directS (w : World) : (Rtype.directlyAssignable 86 86).run Tryz.prog w = .ok true w := by kernel_rfl
end Go.Proofs.YtjbkgmbakjnlhabGreatDoor

/- errors.As at a refusal: what it sets; codeOf. -/
namespace Go.Proofs.YtjbkgmbakjnlhabGreatDoor
set_option maxRecDepth 100000
open Go.RowKit Go.Extern.Stop Go.Stop Go.Extern

theorem run_loadVar_agg1 {g : Nat} {v : Value} {W : World} (hb : W.cell? ⟨g, 0, none⟩ = some v) : (loadVar 86 ⟨g, 0, none⟩).run Tryz.prog W = .ok (.agg #[v]) W := by
  go_simp
theorem run_storeVar_agg1 {g : Nat} {c : Int} {old : Value} {W : World} (ht : W.cell? ⟨g, 0, none⟩ = some old) (hf : W.frozen? ⟨g, 0, none⟩ = false) : (storeVar 86 ⟨g, 0, none⟩ (.agg #[.int .i64 c])).run Tryz.prog W = .ok () (W.setCell ⟨g, 0, none⟩ (.int .i64 c)) := by
  go_simp
theorem rls (v x : Value) : ∃ (z1 : Sem Value) (z2 : TypeId → Addr → Nat → TypeId → Addr → Sem Value) (k : TypeId → Addr → TypeId → Value → Sem Value), ReflectliteValue.set #[v, x] = ReflectliteValue.parts v >>= fun p => ReflectliteValue.parts x >>= fun q =>
    match (p, q) with
    | (some (dst, a, fl), some (src, b, _)) => if (fl / ReflectliteValue.flagAddr % 2 == 0) = true then z2 dst a fl src b else loadVar src b >>= fun val => Rtype.directlyAssignable dst src >>= fun d => if d = true then storeVar dst a val >>= fun _ => pure (.tuple #[]) else k dst a src val
    | _ => z1 := ⟨_, _, _, rfl⟩
theorem Tryz.setS (tg bg : Nat) (c : Int) (old : Value) (W : World) (hb : W.cell? ⟨bg, 0, none⟩ = some (.int .i64 c)) (ht : W.cell? ⟨tg, 0, none⟩ = some old) (hf : W.frozen? ⟨tg, 0, none⟩ = false) :
    (ReflectliteValue.set #[.agg #[.pointer (some ⟨1, 86, none⟩), .pointer (some ⟨tg, 0, none⟩), .int .u64 409], .agg #[.pointer (some ⟨1, 86, none⟩), .pointer (some ⟨bg, 0, none⟩), .int .u64 153]]).run Tryz.prog W
      = .ok (.tuple #[]) (W.setCell ⟨tg, 0, none⟩ (.int .i64 c)) := by
  obtain ⟨z1, z2, k, e⟩ := rls (.agg #[.pointer (some ⟨1, 86, none⟩), .pointer (some ⟨tg, 0, none⟩), .int .u64 409]) (.agg #[.pointer (some ⟨1, 86, none⟩), .pointer (some ⟨bg, 0, none⟩), .int .u64 153])
  rw [e]
  clear e
  simp only [Sem.run_bind, Tryz.partsSa, Tryz.partsS, Result.andThen]
  rw [if_neg (by decide)]
  simp only [Sem.run_bind, run_loadVar_agg1 hb, Tryz.directS, Result.andThen, if_true, run_storeVar_agg1 ht hf]
  rfl
set_option maxHeartbeats 4000000 in
theorem as_hit (c : Int) (tg : Nat) (old : Value) (w : World) (hg : w.cell? ⟨0, 0, none⟩ = some (.iface 152 (.agg #[.pointer (some ⟨1, 59, none⟩)]))) (ht0 : w.cell? ⟨tg, 0, none⟩ = some old) (hf0 : w.frozen? ⟨tg, 0, none⟩ = false) :
    Calls Tryz.prog 54 #[.iface 86 (.agg #[.int .i64 c]), .iface 100 (.pointer (some ⟨tg, 0, none⟩))] w fun ev w' => ev = .returned (.bool true) ∧ w' = ((((w.alloc (.cells #[.pointer (some ⟨tg, 0, none⟩)] 100)).alloc (.cells #[.pointer (some ⟨1, 100, none⟩), .pointer (some ⟨w.heap.size, 0, none⟩), .int .u64 150] 119)).alloc (.cells #[.pointer (some ⟨1, 100, none⟩), .pointer (some ⟨w.heap.size, 0, none⟩), .int .u64 150] 119)).alloc (.cells #[.int .i64 c] 86)).setCell ⟨tg, 0, none⟩ (.int .i64 c) := by
  have h76 := @run_callFunc_extern Tryz.prog 76 _ (fun args => ReflectliteValue.unpack (args.getD 0 (.tuple #[]))) Tryz.func76 (by kernel_rfl) (by kernel_rfl) (by kernel_rfl) (by kernel_rfl)
  have h77 := @run_callFunc_extern Tryz.prog 77 _ (ReflectliteValue.methodAny (ReflectliteValue.valueError "reflectlite.Value.Type" 0) (fun t _ _ _ => ReflectliteType.toType t)) Tryz.func77 (by kernel_rfl) (by kernel_rfl) (by kernel_rfl) (by kernel_rfl)
  have h78 := @run_callFunc_extern Tryz.prog 78 _ (ReflectliteValue.method (ReflectliteValue.valueError "reflectlite.Value.IsNil" 0) ReflectliteValue.isNil) Tryz.func78 (by kernel_rfl) (by kernel_rfl) (by kernel_rfl) (by kernel_rfl)
  have hK := @run_callFunc_extern Tryz.prog 135 _ (ReflectliteType.abiMethod fun t => do pure (.int .u8 (← Rtype.kind t))) Tryz.func135 (by kernel_rfl) (by kernel_rfl) (by kernel_rfl) (by kernel_rfl)
  have hE := @run_callFunc_extern Tryz.prog 150 _ (ReflectliteType.method ReflectliteType.elem) Tryz.func150 (by kernel_rfl) (by kernel_rfl) (by kernel_rfl) (by kernel_rfl)
  have hI := @run_callFunc_extern Tryz.prog 151 _ (ReflectliteType.relation "Implements" ReflectliteType.implements_) Tryz.func151 (by kernel_rfl) (by kernel_rfl) (by kernel_rfl) (by kernel_rfl)
  have hT := @run_callFunc_extern Tryz.prog 94 _ ReflectliteType.typeOf Tryz.func94 (by kernel_rfl) (by kernel_rfl) (by kernel_rfl) (by kernel_rfl)
  have hA := @run_callFunc_extern Tryz.prog 148 _ (ReflectliteType.relation "AssignableTo" ReflectliteType.assignableTo) Tryz.func148 (by kernel_rfl) (by kernel_rfl) (by kernel_rfl) (by kernel_rfl)
  have hV := @run_callFunc_extern Tryz.prog 95 _ (ReflectliteValue.method (ReflectliteValue.valueError "reflectlite.Value.Elem" 0) ReflectliteValue.elem) Tryz.func95 (by kernel_rfl) (by kernel_rfl) (by kernel_rfl) (by kernel_rfl)
  have hS := @run_callFunc_extern Tryz.prog 96 _ ReflectliteValue.set Tryz.func96 (by kernel_rfl) (by kernel_rfl) (by kernel_rfl) (by kernel_rfl)
  have tO := Tryz.typeOfS
  have mA := Tryz.methodAssignableTo
  have aS := Tryz.assignableS
  have vS := Tryz.valueOfS
  have fP := Tryz.valueOfP
  have f7 := Tryz.typeP
  have mK := Tryz.methodKind
  have mE := Tryz.methodElem
  have mI := Tryz.methodImplements
  have kP := Tryz.kindP
  have kS := Tryz.kindS
  have eP := Tryz.elemP
  have iS := Tryz.implementsS
  have n8 := Tryz.isNilP ⟨w.heap.size, 0, none⟩ ⟨tg, 0, none⟩ ((w.alloc (.cells #[.pointer (some ⟨tg, 0, none⟩)] 100)).alloc (.cells #[.pointer (some ⟨1, 100, none⟩), .pointer (some ⟨w.heap.size, 0, none⟩), .int .u64 150] 119)) (by simp)
  have hlt : 0 < w.heap.size := by
    rcases Nat.eq_zero_or_pos w.heap.size with h0 | h
    · simp [World.cell?, h0] at hg
    · exact h
  have hg2 : ((w.alloc (.cells #[.pointer (some ⟨tg, 0, none⟩)] 100)).alloc (.cells #[.pointer (some ⟨1, 100, none⟩), .pointer (some ⟨w.heap.size, 0, none⟩), .int .u64 150] 119)).cell? ⟨0, 0, none⟩ = some (.iface 152 (.agg #[.pointer (some ⟨1, 59, none⟩)])) := by
    rw [World.cell?_alloc_lt _ _ ⟨0, 0, none⟩ (by simp), World.cell?_alloc_lt _ _ ⟨0, 0, none⟩ hlt]; exact hg
  have htl : tg < w.heap.size := World.block_lt_of_cell? w ⟨tg, 0, none⟩ ht0
  have el := Tryz.elemVP ⟨w.heap.size, 0, none⟩ ⟨tg, 0, none⟩ (((w.alloc (.cells #[.pointer (some ⟨tg, 0, none⟩)] 100)).alloc (.cells #[.pointer (some ⟨1, 100, none⟩), .pointer (some ⟨w.heap.size, 0, none⟩), .int .u64 150] 119)).alloc (.cells #[.pointer (some ⟨1, 100, none⟩), .pointer (some ⟨w.heap.size, 0, none⟩), .int .u64 150] 119)) (by rw [World.cell?_alloc_lt _ _ ⟨w.heap.size, 0, none⟩ (by simp; omega)]; simp)
  have st := Tryz.setS tg (w.heap.size + 1 + 1 + 1) c old ((((w.alloc (.cells #[.pointer (some ⟨tg, 0, none⟩)] 100)).alloc (.cells #[.pointer (some ⟨1, 100, none⟩), .pointer (some ⟨w.heap.size, 0, none⟩), .int .u64 150] 119)).alloc (.cells #[.pointer (some ⟨1, 100, none⟩), .pointer (some ⟨w.heap.size, 0, none⟩), .int .u64 150] 119)).alloc (.cells #[.int .i64 c] 86))
    (by rw [World.cell?_alloc_at _ _ _ _ (by simp)]; rfl)
    (by rw [World.cell?_alloc_lt _ _ ⟨tg, 0, none⟩ (by simp; omega), World.cell?_alloc_lt _ _ ⟨tg, 0, none⟩ (by simp; omega), World.cell?_alloc_lt _ _ ⟨tg, 0, none⟩ (by simp; omega), World.cell?_alloc_lt _ _ ⟨tg, 0, none⟩ htl]; exact ht0)
    (by rw [World.frozen?_alloc_old _ _ ⟨tg, 0, none⟩ (by simp; omega), World.frozen?_alloc_old _ _ ⟨tg, 0, none⟩ (by simp; omega), World.frozen?_alloc_old _ _ ⟨tg, 0, none⟩ (by simp; omega), World.frozen?_alloc_old _ _ ⟨tg, 0, none⟩ (Nat.ne_of_lt htl)]; exact hf0)
  go_enter Tryz.func54, Tryz.ntmps54
  go_wp2
  refine wp_loop_rounds 1 ?_
  rw [rounds_succ]
  go_wp2
  go_ret
  exact ⟨rfl, rfl⟩
/-- the variable errors.errorType holds the type error -/
def GoodErr (w : World) : Prop := w.cell? ⟨0, 0, none⟩ = some (.iface 152 (.agg #[.pointer (some ⟨1, 59, none⟩)]))
theorem GoodErr.lt {w : World} (h : GoodErr w) : 0 < w.heap.size := World.block_lt_of_cell? w ⟨0, 0, none⟩ h
theorem GoodErr.below {w w' : World} {B : Nat} (h : GoodErr w) (hb : Below B w w') (hB : 0 < B) : GoodErr w' := (hb.cell (p := ⟨0, 0, none⟩) hB).trans h
end Go.Proofs.YtjbkgmbakjnlhabGreatDoor

/- codeOf: the code of a refusal. -/
namespace Go.Proofs.YtjbkgmbakjnlhabGreatDoor
set_option maxRecDepth 100000
open Go.RowKit

/-- an error that has a code: nil at 0 -/
def errVal (c : Int) : Value := if c = 0 then .nilIface else .iface 86 (.agg #[.int .i64 c])
theorem errVal_zero : errVal 0 = .nilIface := rfl
theorem errVal_ne {c : Int} (h : c ≠ 0) : errVal c = .iface 86 (.agg #[.int .i64 c]) := if_neg h

set_option maxHeartbeats 1600000 in
theorem codeOf_any (c : Int) (w : World) (hg : GoodErr w) : Calls Tryz.prog 31 #[errVal c] w fun e w' => e = .returned (.int .i64 c) ∧ Below w.heap.size w w' := by
  by_cases hc : c = 0
  · subst hc
    rw [errVal_zero]
    clear hg
    go_enter Tryz.func31, Tryz.ntmps31
    go_wp2_with fail
    refine (as_nil _ _).mono ?_
    rintro e w1 ⟨rfl, rfl⟩
    go_wp2
    go_ret
    exact ⟨rfl, Joins.below_alloc1 _ _⟩
  · rw [errVal_ne hc]
    have HG : Hid (GoodErr (w.alloc (.cells #[.int .i64 0] 86))) := hg.below (Joins.below_alloc1 _ _) hg.lt
    clear hg
    go_enter Tryz.func31, Tryz.ntmps31
    go_wp2_with fail
    refine (as_hit c w.heap.size (.int .i64 0) _ HG.out (by go_simp) (by go_simp)).mono ?_
    rintro e w1 ⟨rfl, rfl⟩
    clear HG
    go_wp2
    go_ret
    refine ⟨rfl, ?_⟩

    exact ((((((Below.refl _ _).alloc (Nat.le_refl _) _).alloc (by simp) _).alloc (by simp; omega) _).alloc (by simp; omega) _).alloc (by simp; omega) _)
end Go.Proofs.YtjbkgmbakjnlhabGreatDoor
