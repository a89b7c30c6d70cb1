/- Benches of the laws: their copy. -/
import Derived.Test.YtjbkgmbakjnlhabGreatDoorPartAc
import Derived.Test.YtjbkgmbakjnlhabGreatDoorLMake
import Derived.Test.YtjbkgmbakjnlhabGreatDoorPartAb
import Derived.Deep.RegionHeld3
namespace Go.Proofs.YtjbkgmbakjnlhabGreatDoor
set_option maxRecDepth 100000
open Go.RowKit

def SV.key (s : SV) : List PB × Int × Bool := (s.xs.map RV.key, s.since, s.bad)
def scells (v : Value) (since : Int) (bad : Bool) : Array Value := #[v, .int .i64 since, .bool bad]
theorem LB.le {w : World} {lo lo' gL n : Nat} {ys : List RV} (h : LB w lo gL n ys) (hl : lo' ≤ lo) : LB w lo' gL n ys := by
  refine ⟨Nat.le_trans hl h.low, h.blk, fun y hy => ?_⟩
  obtain ⟨gy, h1, h2, h3, r⟩ := h.each y hy
  exact ⟨gy, h1, h2, Nat.le_trans hl h3, r⟩
theorem LB.keptT {w w' : World} {lo gL n : Nat} {ys : List RV} (h : LB w lo gL n ys) (hk : ∀ (b : Nat) (cur : Array Value) (t : TypeId), w.heap[b]? = some (.cells cur t (0, 0)) → (t = 33 ∨ t = 5) → w'.heap[b]? = w.heap[b]?) : LB w' lo gL n ys := by
  refine ⟨h.low, ?_, fun y hy => ?_⟩
  · obtain ⟨cur, hc, r⟩ := h.blk
    exact ⟨cur, (hk _ _ _ hc (Or.inl rfl)).trans hc, r⟩
  · obtain ⟨gy, h1, h2, h3, h4, r⟩ := h.each y hy
    exact ⟨gy, h1, h2, h3, (hk _ _ _ h4 (Or.inr rfl)).trans h4, r⟩
theorem heap_far3 (w : World) (g o k : Nat) (h : k ≠ g) (x0 x1 x2 : Value) : (((w.setCell ⟨g, o, none⟩ x0).setCell ⟨g, o + 1, none⟩ x1).setCell ⟨g, o + 2, none⟩ x2).heap[k]? = w.heap[k]? :=
  ((Below.heap_setCell _ _ _ _ h).trans ((Below.heap_setCell _ _ _ _ h).trans (Below.heap_setCell _ _ _ _ h)))
theorem below_far3 {B : Nat} {a w : World} {g o : Nat} (h : Below B a w) (hb : B ≤ g) (x0 x1 x2 : Value) : Below B a (((w.setCell ⟨g, o, none⟩ x0).setCell ⟨g, o + 1, none⟩ x1).setCell ⟨g, o + 2, none⟩ x2) :=
  (Below.setCell (Below.setCell (Below.setCell h hb _) hb _) hb _)

set_option maxRecDepth 100000 in
set_option maxHeartbeats 3200000 in
theorem toFragSlot_any (s : SV) (w : World) (hS : SArg w s) (hm : s.sz ≤ 1048576) :
    Calls Tryz.prog 49 #[.agg #[.slice s.a s.xs.length s.c, .int .i64 s.since, .bool s.bad]] w fun e w' => ∃ gL ys, e = .returned (.agg #[.slice (some ⟨gL, 0, none⟩) s.xs.length s.xs.length, .int .i64 s.since, .bool s.bad]) ∧ LB w' w.heap.size gL s.xs.length ys ∧ ys.map RV.key = s.xs.map RV.key ∧ Below w.heap.size w w' := by
  have KT : Hid (∀ W : World, Below w.heap.size w W → Calls Tryz.prog 71 #[.slice s.a s.xs.length s.c] W fun e w' => ∃ gL ys, e = .returned (.slice (some ⟨gL, 0, none⟩) s.xs.length s.xs.length) ∧ LB w' W.heap.size gL s.xs.length ys ∧ ys.map RV.key = s.xs.map RV.key ∧ Below W.heap.size W w') := fun W h => toFragPacketS_any s.a s.c s.xs W (hS.rl.below h) hm
  clear hS hm
  go_enter Tryz.func49, Tryz.ntmps49
  go_wp2_with fail
  refine (KT.out _ (Joins.below_alloc3 _ _ _ _)).mono ?_
  rintro e w1 ⟨gL, ys, rfl, LY, hyk, b1⟩
  obtain ⟨hc, hf⟩ := bcell b1
  have z1 : w1.cell? ⟨w.heap.size, 1, none⟩ = some (.int .i64 s.since) := (hc _ _ (by simp; omega)).trans (by go_simp)
  have z2 : w1.cell? ⟨w.heap.size, 2, none⟩ = some (.bool s.bad) := (hc _ _ (by simp; omega)).trans (by go_simp)
  have d0 : w1.cell? ⟨w.heap.size + 1 + 1, 0, none⟩ = some (.slice none 0 0) := (hc _ _ (by simp)).trans (by go_simp)
  have d1 : w1.cell? ⟨w.heap.size + 1 + 1, 1, none⟩ = some (.int .i64 0) := (hc _ _ (by simp)).trans (by go_simp)
  have d2 : w1.cell? ⟨w.heap.size + 1 + 1, 2, none⟩ = some (.bool false) := (hc _ _ (by simp)).trans (by go_simp)
  have r0 : w1.cell? ⟨w.heap.size + 1, 0, none⟩ = some (.slice none 0 0) := (hc _ _ (by simp)).trans (by go_simp)
  have r1 : w1.cell? ⟨w.heap.size + 1, 1, none⟩ = some (.int .i64 0) := (hc _ _ (by simp)).trans (by go_simp)
  have r2 : w1.cell? ⟨w.heap.size + 1, 2, none⟩ = some (.bool false) := (hc _ _ (by simp)).trans (by go_simp)
  have f1 : ∀ o, w1.frozen? ⟨w.heap.size + 1, o, none⟩ = false := fun o => (hf _ _ (by simp)).trans (by go_simp)
  have f2 : ∀ o, w1.frozen? ⟨w.heap.size + 1 + 1, o, none⟩ = false := fun o => (hf _ _ (by simp)).trans (by go_simp)
  have s1 : w.heap.size + 1 + 1 + 1 ≤ w1.heap.size := by have := b1.size; simpa using this
  have HY : Hid (LB w1 (w.heap.size + 1 + 1 + 1) gL s.xs.length ys) := (show LB _ _ _ _ _ by simpa using LY)
  have HK : Hid (ys.map RV.key = s.xs.map RV.key) := hyk
  have HB : Hid (Below w.heap.size w w1) := (Joins.below_alloc3 _ _ _ _).trans (b1.mono (by simp; omega))
  clear hc hf LY hyk b1 KT
  go_wp2
  refine bodyPost_ret (v := .agg #[.slice (some ⟨gL, 0, none⟩) s.xs.length s.xs.length, .int .i64 s.since, .bool s.bad]) (by simp [results, Tryz.results49, go_sem, r0, r1, r2]) rfl ⟨gL, ys, rfl, ?_, HK.out, ?_⟩
  · refine (HY.out.kept fun b hb _ => ?_).le (by omega)
    exact ((heap_far3 _ _ 0 _ (by omega) _ _ _).trans (heap_far3 _ _ 0 _ (by omega) _ _ _))
  · exact below_far3 (o := 0) (below_far3 (o := 0) HB.out (by omega) _ _ _) (by omega) _ _ _

/-- what a block of slots holds in its first places -/
structure SB (w : World) (lo gS n : Nat) (ts : List SV) : Prop where
  low : lo ≤ gS
  blk : ∃ cur : Array Value, w.heap[gS]? = some (.cells cur 71 (0, 0)) ∧ cur.size = n * 3 ∧ ∀ (i : Nat) t, ts[i]? = some t → ∀ j, j < 3 → cur[i * 3 + j]? = (scells (.slice t.a t.xs.length t.c) t.since t.bad)[j]?
  each : ∀ t ∈ ts, ∃ gL, t.a = some ⟨gL, 0, none⟩ ∧ t.c = t.xs.length ∧ LB w lo gL t.xs.length t.xs ∧ t.xs.length ≤ 1048576
theorem SB.lt {w : World} {lo gL n : Nat} {ys : List SV} (h : SB w lo gL n ys) : gL < w.heap.size := by
  obtain ⟨cur, hc, _⟩ := h.blk
  exact lt_of_block hc
theorem SB.below {w w' : World} {lo gL n : Nat} {ys : List SV} (h : SB w lo gL n ys) (hb : Below w.heap.size w w') : SB w' lo gL n ys := by
  refine ⟨h.low, ?_, fun y hy => ?_⟩
  · obtain ⟨cur, hc, r⟩ := h.blk
    exact ⟨cur, (hb.block _ (lt_of_block hc)).trans hc, r⟩
  · obtain ⟨gy, h1, h2, h3, r⟩ := h.each y hy
    exact ⟨gy, h1, h2, h3.below hb, r⟩
theorem SB.kept {w w' : World} {lo gL n : Nat} {ys : List SV} (h : SB w lo gL n ys) (hk : ∀ b, lo ≤ b → b < w.heap.size → w'.heap[b]? = w.heap[b]?) : SB w' lo gL n ys := by
  refine ⟨h.low, ?_, fun y hy => ?_⟩
  · obtain ⟨cur, hc, r⟩ := h.blk
    exact ⟨cur, (hk _ h.low (lt_of_block hc)).trans hc, r⟩
  · obtain ⟨gy, h1, h2, h3, r⟩ := h.each y hy
    exact ⟨gy, h1, h2, h3.kept hk, r⟩
theorem SB.le {w : World} {lo lo' gL n : Nat} {ys : List SV} (h : SB w lo gL n ys) (hl : lo' ≤ lo) : SB w lo' gL n ys := by
  refine ⟨Nat.le_trans hl h.low, h.blk, fun y hy => ?_⟩
  obtain ⟨gy, h1, h2, h3, r⟩ := h.each y hy
  exact ⟨gy, h1, h2, h3.le hl, r⟩
/-- the cells of a block, three of them written anew -/
def put3 (cur : Array Value) (o : Nat) (x0 x1 x2 : Value) : Array Value := ((cur.setIfInBounds o x0).setIfInBounds (o + 1) x1).setIfInBounds (o + 2) x2
theorem put3_size (cur : Array Value) (o : Nat) (x0 x1 x2 : Value) : (put3 cur o x0 x1 x2).size = cur.size := by simp [put3]
theorem put3_far {cur : Array Value} {o q : Nat} (x0 x1 x2 : Value) (h : q < o ∨ o + 3 ≤ q) : (put3 cur o x0 x1 x2)[q]? = cur[q]? := by
  unfold put3
  simp only [Array.getElem?_setIfInBounds]
  repeat rw [if_neg (by omega)]
theorem put3_at {cur : Array Value} {o j : Nat} (x0 x1 x2 : Value) (hs : o + 3 ≤ cur.size) (hj : j < 3) : (put3 cur o x0 x1 x2)[o + j]? = #[x0, x1, x2][j]? := by
  unfold put3
  simp only [Array.getElem?_setIfInBounds, Array.size_setIfInBounds]
  rcases (show j = 0 ∨ j = 1 ∨ j = 2 by omega) with rfl | rfl | rfl
  all_goals
    simp
    try omega
theorem heap_put3 {w : World} {g o : Nat} {cur : Array Value} {t : TypeId} (h : w.heap[g]? = some (.cells cur t (0, 0))) (x0 x1 x2 : Value) :
    (((w.setCell ⟨g, o, none⟩ x0).setCell ⟨g, o + 1, none⟩ x1).setCell ⟨g, o + 2, none⟩ x2).heap[g]? = some (.cells (put3 cur o x0 x1 x2) t (0, 0)) :=
  set_at (set_at (set_at h))
/-- one more slot in a block -/
theorem SB.put {w : World} {lo gS n gL : Nat} {ts : List SV} {ys : List RV} {since : Int} {bad : Bool} (h : SB w lo gS n ts) (hn : ts.length < n) (hd : LB w lo gL ys.length ys) (hl : ys.length ≤ 1048576) :
    SB (((w.setCell ⟨gS, ts.length * 3, none⟩ (.slice (some ⟨gL, 0, none⟩) ys.length ys.length)).setCell ⟨gS, ts.length * 3 + 1, none⟩ (.int .i64 since)).setCell ⟨gS, ts.length * 3 + 2, none⟩ (.bool bad))
      lo gS n (ts ++ [⟨some ⟨gL, 0, none⟩, ys.length, ys, since, bad⟩]) := by
  obtain ⟨cur, hc, hs, r⟩ := h.blk
  have nt : ∀ (b : Nat) (cu : Array Value) (t : TypeId), w.heap[b]? = some (.cells cu t (0, 0)) → (t = 33 ∨ t = 5) → b ≠ gS := fun b cu t e ht e' => by
    rw [e', hc] at e
    cases e
    rcases ht with ht | ht <;> cases ht
  refine ⟨h.low, ⟨_, heap_put3 hc _ _ _, by rw [put3_size]; exact hs, fun i y hy j hj => ?_⟩, fun y hy => ?_⟩
  · rcases Nat.lt_or_ge i ts.length with hi | hi
    · rw [List.getElem?_append_left hi] at hy
      rw [put3_far _ _ _ (Or.inl (by omega))]
      exact r i y hy j hj
    · rw [List.getElem?_append_right hi] at hy
      have e : i - ts.length = 0 := by
        rcases Nat.eq_zero_or_pos (i - ts.length) with h0 | h0
        · exact h0
        · rw [List.getElem?_eq_none (by simp; omega)] at hy; cases hy
      rw [e] at hy
      simp at hy
      subst hy
      obtain rfl : i = ts.length := by omega
      rw [put3_at _ _ _ (by omega) hj]
      rfl
  · rcases List.mem_append.1 hy with h1 | h1
    · obtain ⟨g', a1, a2, a3, a4⟩ := h.each y h1
      exact ⟨g', a1, a2, a3.keptT fun b cu t e ht => heap_far3 _ _ _ _ (nt b cu t e ht) _ _ _, a4⟩
    · obtain rfl := List.mem_singleton.1 h1
      exact ⟨gL, rfl, rfl, hd.keptT fun b cu t e ht => heap_far3 _ _ _ _ (nt b cu t e ht) _ _ _, hl⟩
theorem Tryz.infoSlot : (Tryz.prog.info? 71).map (fun i => (i.zero, i.size, i.bytes)) = some (some (.agg #[.slice none 0 0, .int .i64 0, .bool false]), 3, 40) := by kernel_rfl

set_option maxRecDepth 100000 in
set_option maxHeartbeats 3200000 in
theorem toFragSlotS_any (a : Option Addr) (cl : Nat) (xs : List SV) (w : World) (hL : SLo w a xs) (hm : xs.length + sumSz xs ≤ 1048576) :
    Calls Tryz.prog 28 #[.slice a xs.length cl] w fun e w' => ∃ gS ts, e = .returned (.slice (some ⟨gS, 0, none⟩) xs.length xs.length) ∧ SB w' w.heap.size gS xs.length ts ∧ ts.map SV.key = xs.map SV.key ∧ Below w.heap.size w w' := by
  obtain ⟨i0, hi0, hz0, hz1, hz2⟩ := info_parts Tryz.infoSlot
  have hmk : ∀ W : World, (Instr.makeSlice 30 (.int .i64 (xs.length : Int)) (.int .i64 (xs.length : Int))).run Tryz.prog W = .ok (.slice (some ⟨W.heap.size, 0, none⟩) xs.length xs.length) (W.alloc (.cells (madeCells (Value.agg #[.slice none 0 0, .int .i64 0, .bool false]).cells (xs.length * 3)) 71)) := fun W => by
    have h := run_make (P := Tryz.prog) W 30 71 i0 _ Tryz.underlying30 hi0 hz0 .i64 .i64 (xs.length : Int) (xs.length : Int) (by omega) (Int.le_refl _) (by rw [hz2]; omega) (by omega)
    rw [Int.toNat_natCast, hz1] at h
    exact h
  obtain ⟨C0, hC0⟩ : ∃ C0, madeCells (Value.agg #[.slice none 0 0, .int .i64 0, .bool false]).cells (xs.length * 3) = C0 := ⟨_, rfl⟩
  have hCs : C0.size = xs.length * 3 := by rw [← hC0]; exact size_madeCells _ _
  rw [hC0] at hmk
  have L0 : Hid (SB (w.alloc (.cells C0 71)) w.heap.size w.heap.size xs.length []) := ⟨Nat.le_refl _, ⟨C0, heap_new _ _ _ rfl, hCs, fun i y hy => by simp at hy⟩, fun y hy => by cases hy⟩
  have HL : Hid (SLo w a xs) := hL
  clear hL hi0 hz0 hz1 hz2 hC0 hCs
  go_enter Tryz.func28, Tryz.ntmps28
  go_wp2
  go_loopw [4] (fun i wr => ∃ (k : Nat) (ys : List SV), k ≤ xs.length ∧ i = .int .i64 k ∧ Hid (ys.length = k) ∧ Hid (SB wr w.heap.size w.heap.size xs.length ys) ∧ Hid (ys.map SV.key = (xs.take k).map SV.key) ∧ Hid (Below w.heap.size w wr)) (fun i _ => xs.length - (intOf i).toNat)
  case atStart => exact ⟨0, [], by omega, rfl, rfl, L0.out, rfl, Joins.below_alloc1 _ _⟩
  case round =>
    obtain ⟨k, ys, hk, rfl, HY, HB, HK, HW⟩ := hrel
    have hsz := HW.out.size
    by_cases hlt : k < xs.length
    · obtain ⟨x, hx⟩ := get_of_lt hlt
      have hi : (k : Int) < (xs.length : Int) := by omega
      have Lr := HL.out.below HW.out
      rcases Lr.at_ with h0 | ⟨g, off, rfl, hgr, he⟩
      · rw [h0] at hlt; simp at hlt
      have Hk := he k x hx
      have hR := Lr.each x (List.mem_of_getElem? hx)
      have hsl := sumSz_mem (List.mem_of_getElem? hx)
      have HX : Hid (xs[k]? = some x) := hx
      have HR : Hid (SArg wr x) := hR
      clear hx Lr he hR
      obtain ⟨c0, c1, c2⟩ := Hk
      have KT : Hid (∀ W : World, Below wr.heap.size wr W → Calls Tryz.prog 49 #[.agg #[.slice x.a x.xs.length x.c, .int .i64 x.since, .bool x.bad]] W fun e w' => ∃ gL ys, e = .returned (.agg #[.slice (some ⟨gL, 0, none⟩) x.xs.length x.xs.length, .int .i64 x.since, .bool x.bad]) ∧ LB w' W.heap.size gL x.xs.length ys ∧ ys.map RV.key = x.xs.map RV.key ∧ Below W.heap.size W w') := fun W h => toFragSlot_any x W (HR.out.below h) (by omega)
      go_wp2_with fail
      refine (KT.out _ (Below.refl _ _)).mono ?_
      rintro e w1 ⟨gL, zs, rfl, LZ, hzk, b1⟩
      have hzl : zs.length = x.xs.length := by have := congrArg List.length hzk; simpa using this
      have L1 : Hid (SB w1 w.heap.size w.heap.size xs.length ys) := HB.out.below b1
      have W1 : Hid (Below w.heap.size w w1) := HW.out.trans (b1.mono hsz)
      have HD : Hid (LB w1 w.heap.size gL zs.length zs) := (by rw [hzl]; exact LZ.le hsz)
      have HZ : Hid (zs.length = x.xs.length) := hzl
      have HZK : Hid (zs.map RV.key = x.xs.map RV.key) := hzk
      obtain ⟨cur, hc, hcs, -⟩ := L1.out.blk
      have hL1 := L1.out.lt
      have fz : ∀ o, w1.frozen? ⟨w.heap.size, o, none⟩ = false := fun o => Joins.unfrozen_of_block hc o
      have ce : ∀ o, w1.cell? ⟨w.heap.size, o, none⟩ = cur[o]? := fun o => cell_of_row _ _ _ _ _ _ hc
      obtain ⟨u0, h0⟩ := cells_there (cur := cur) (o := k * 3) (by omega)
      obtain ⟨u1, h1⟩ := cells_there (cur := cur) (o := k * 3 + 1) (by omega)
      obtain ⟨u2, h2⟩ := cells_there (cur := cur) (o := k * 3 + 2) (by omega)
      have q0 := (ce _).trans h0
      have q1 := (ce _).trans h1
      have q2 := (ce _).trans h2
      clear h0 h1 h2 ce hc hcs hzk hzl LZ b1 c0 c1 c2 hmk
      go_wp2
      go_roundw
      case rel =>
        have hyk := HY.out
        have hzl := HZ.out
        have hxsz : x.xs.length ≤ x.sz := by unfold SV.sz; omega
        have P := L1.out.put (since := x.since) (bad := x.bad) (by omega) HD.out (by omega)
        rw [hyk, hzl] at P
        refine ⟨k + 1, ys ++ [(⟨some ⟨gL, 0, none⟩, x.xs.length, zs, x.since, x.bad⟩ : SV)], by omega, by go_num, (show _ = _ by rw [List.length_append, hyk]; rfl), P, (show _ = _ by rw [List.map_append, HK.out, List.take_add_one, HX.out]; simp [SV.key, HZK.out]), below_far3 W1.out (Nat.le_refl _) _ _ _⟩
      case measure => simp [intOf]; omega
    · obtain rfl : k = xs.length := by omega
      go_wp2
      go_ret
      exact ⟨w.heap.size, ys, rfl, HB.out, by rw [HK.out, List.take_length], HW.out⟩

set_option maxRecDepth 100000 in
set_option maxHeartbeats 3200000 in
theorem toFragBench_any (now : Int) (a : Option Addr) (cl : Nat) (xs : List SV) (w : World) (hL : SLo w a xs) (hm : xs.length + sumSz xs ≤ 1048576) :
    Calls Tryz.prog 8 #[.agg #[.int .i64 now, .slice a xs.length cl]] w fun e w' => ∃ gS ts, e = .returned (.agg #[.int .i64 now, .slice (some ⟨gS, 0, none⟩) xs.length xs.length]) ∧ SB w' w.heap.size gS xs.length ts ∧ ts.map SV.key = xs.map SV.key ∧ Below w.heap.size w w' := by
  have KT : Hid (∀ W : World, Below w.heap.size w W → Calls Tryz.prog 28 #[.slice a xs.length cl] W fun e w' => ∃ gS ts, e = .returned (.slice (some ⟨gS, 0, none⟩) xs.length xs.length) ∧ SB w' W.heap.size gS xs.length ts ∧ ts.map SV.key = xs.map SV.key ∧ Below W.heap.size W w') := fun W h => toFragSlotS_any a cl xs W (hL.below h) hm
  clear hL hm
  go_enter Tryz.func8, Tryz.ntmps8
  go_wp2_with fail
  refine (KT.out _ (Joins.below_alloc3 _ _ _ _)).mono ?_
  rintro e w1 ⟨gS, ts, rfl, SY, hyk, b1⟩
  obtain ⟨hc, hf⟩ := bcell b1
  have d0 : w1.cell? ⟨w.heap.size + 1 + 1, 0, none⟩ = some (.int .i64 now) := (hc _ _ (by simp)).trans (by go_simp)
  have d1 : w1.cell? ⟨w.heap.size + 1 + 1, 1, none⟩ = some (.slice none 0 0) := (hc _ _ (by simp)).trans (by go_simp)
  have r0 : w1.cell? ⟨w.heap.size + 1, 0, none⟩ = some (.int .i64 0) := (hc _ _ (by simp)).trans (by go_simp)
  have r1 : w1.cell? ⟨w.heap.size + 1, 1, none⟩ = some (.slice none 0 0) := (hc _ _ (by simp)).trans (by go_simp)
  have f1 : ∀ o, w1.frozen? ⟨w.heap.size + 1, o, none⟩ = false := fun o => (hf _ _ (by simp)).trans (by go_simp)
  have f2 : ∀ o, w1.frozen? ⟨w.heap.size + 1 + 1, o, none⟩ = false := fun o => (hf _ _ (by simp)).trans (by go_simp)
  have s1 : w.heap.size + 1 + 1 + 1 ≤ w1.heap.size := by have := b1.size; simpa using this
  have HY : Hid (SB w1 (w.heap.size + 1 + 1 + 1) gS xs.length ts) := (show SB _ _ _ _ _ by simpa using SY)
  have HK : Hid (ts.map SV.key = xs.map SV.key) := hyk
  have HB : Hid (Below w.heap.size w w1) := (Joins.below_alloc3 _ _ _ _).trans (b1.mono (by simp; omega))
  clear hc hf SY hyk b1 KT
  go_wp2
  refine bodyPost_ret (v := .agg #[.int .i64 now, .slice (some ⟨gS, 0, none⟩) xs.length xs.length]) (by simp [results, Tryz.results8, go_sem, r0, r1]) rfl ⟨gS, ts, rfl, ?_, HK.out, ?_⟩
  · refine (HY.out.kept fun b hb _ => ?_).le (by omega)
    exact (Below.heap_setCell _ _ _ _ (by simp only; omega)).trans ((Below.heap_setCell _ _ _ _ (by simp only; omega)).trans (Below.heap_setCell _ _ _ _ (by simp only; omega)))
  · exact Below.setCell (Below.setCell (Below.setCell HB.out (by simp only; omega) _) (by simp only; omega) _) (by simp only; omega) _
end Go.Proofs.YtjbkgmbakjnlhabGreatDoor

/- Lists of packets of the laws: compared, marked. -/
namespace Go.Proofs.YtjbkgmbakjnlhabGreatDoor
set_option maxRecDepth 100000
open Go.RowKit

set_option maxRecDepth 100000 in
set_option maxHeartbeats 6400000 in
theorem eqFragPacketS_same (g g' cl cl' : Nat) (xs ys : List RV) (w : World) (hL : RL w g xs) (hL' : RL w g' ys) (hk : ys.map RV.key = xs.map RV.key) (hm : xs.length ≤ 1048576) :
    Calls Tryz.prog 87 #[.slice (some ⟨g, 0, none⟩) xs.length cl, .slice (some ⟨g', 0, none⟩) xs.length cl'] w fun e w' => e = .returned (.bool true) ∧ Below w.heap.size w w' := by
  have HL : Hid (RL w g xs) := hL
  have HL' : Hid (RL w g' ys) := hL'
  have HK : Hid (ys.map RV.key = xs.map RV.key) := hk
  have hne : ((xs.length : Int) != (xs.length : Int)) = false := by simp
  clear hL hL' hk
  go_enter Tryz.func87, Tryz.ntmps87
  go_wp2
  go_loopw [5] (fun i wr => ∃ k : Nat, k ≤ xs.length ∧ i = .int .i64 k ∧ Hid (Below w.heap.size w wr)) (fun i _ => xs.length - (intOf i).toNat)
  case atStart => exact ⟨0, by omega, rfl, Below.refl _ _⟩
  case round =>
    obtain ⟨k, hk, rfl, HB⟩ := hrel
    have hsz := HB.out.size
    by_cases hlt : k < xs.length
    · obtain ⟨x, hx⟩ := get_of_lt hlt
      have hyl : ys.length = xs.length := by have := congrArg List.length HK.out; simpa using this
      obtain ⟨y, hy⟩ := get_of_lt (show k < ys.length by omega)
      have hkey : y.key = x.key := by
        have h := congrArg (fun l => l[k]?) HK.out
        simp only [List.getElem?_map, hx, hy, Option.map_some] at h
        exact Option.some.inj h
      have hp : y.p = x.p := congrArg Prod.fst hkey
      have hz : y.zs = x.zs := congrArg Prod.snd hkey
      have Lr := HL.out.below HB.out
      have Lr' := HL'.out.below HB.out
      have hi : (k : Int) < (xs.length : Int) := by omega
      obtain ⟨c0, c1, c2, c3, c4, c5, c6, c7, c8⟩ := Lr.elem k x hx
      have Ey := Lr'.elem k y hy
      have RX : Hid (ROk wr x) := Lr.each x (List.mem_of_getElem? hx)
      have RY := (Lr'.each y (List.mem_of_getElem? hy)).rd
      rw [hz] at RY
      have RYH : Hid (RdB wr y.a x.zs.length x.zs) := RY
      obtain ⟨k0, k1, k2, k3, k4, k5, k6, k7, k8⟩ := Ey
      rw [hp] at k0 k1 k2 k3 k4 k5 k6 k7
      rw [hz] at k8
      have hgr := Lr.lt
      have hgr' := Lr'.lt
      have KE : Hid (∀ W : World, Below wr.heap.size wr W → Calls Tryz.prog 12 #[.agg #[.int .i64 x.p.src, .int .i64 x.p.dst, .int .i64 x.p.kind, .int .i64 x.p.id, .int .i64 x.p.hops, .bool x.p.whole, .int .i64 x.p.off, .bool x.p.more, .slice x.a x.zs.length x.c], .agg #[.int .i64 x.p.src, .int .i64 x.p.dst, .int .i64 x.p.kind, .int .i64 x.p.id, .int .i64 x.p.hops, .bool x.p.whole, .int .i64 x.p.off, .bool x.p.more, .slice y.a x.zs.length y.c]] W fun e w' => e = .returned (.bool true) ∧ Below W.heap.size W w') := fun W h => eqFragPacket_same x.p x.a y.a x.zs.length x.c y.c x.zs W (RX.out.rd.below h) (RYH.out.below h) RX.out.len
      clear hx hy Lr Lr' RY hkey hp hz
      go_wp2
      go_region_held3 (fun w' => w'.cell? ⟨g, k * 9, none⟩ = some (.int .i64 x.p.src) ∧ w'.cell? ⟨g, k * 9 + 1, none⟩ = some (.int .i64 x.p.dst) ∧ w'.cell? ⟨g, k * 9 + 2, none⟩ = some (.int .i64 x.p.kind) ∧ w'.cell? ⟨g, k * 9 + 3, none⟩ = some (.int .i64 x.p.id) ∧ w'.cell? ⟨g, k * 9 + 4, none⟩ = some (.int .i64 x.p.hops) ∧ w'.cell? ⟨g, k * 9 + 5, none⟩ = some (.bool x.p.whole) ∧ w'.cell? ⟨g, k * 9 + 6, none⟩ = some (.int .i64 x.p.off) ∧ w'.cell? ⟨g, k * 9 + 7, none⟩ = some (.bool x.p.more) ∧ w'.cell? ⟨g, k * 9 + 8, none⟩ = some (.slice x.a x.zs.length x.c) ∧ w'.cell? ⟨g', k * 9, none⟩ = some (.int .i64 x.p.src) ∧ w'.cell? ⟨g', k * 9 + 1, none⟩ = some (.int .i64 x.p.dst) ∧ w'.cell? ⟨g', k * 9 + 2, none⟩ = some (.int .i64 x.p.kind) ∧ w'.cell? ⟨g', k * 9 + 3, none⟩ = some (.int .i64 x.p.id) ∧ w'.cell? ⟨g', k * 9 + 4, none⟩ = some (.int .i64 x.p.hops) ∧ w'.cell? ⟨g', k * 9 + 5, none⟩ = some (.bool x.p.whole) ∧ w'.cell? ⟨g', k * 9 + 6, none⟩ = some (.int .i64 x.p.off) ∧ w'.cell? ⟨g', k * 9 + 7, none⟩ = some (.bool x.p.more) ∧ w'.cell? ⟨g', k * 9 + 8, none⟩ = some (.slice y.a x.zs.length y.c)) (go_keep)
        (first
          | (go_at_call 12; (with_reducible refine (KE.out _ (draw1 _)).mono ?_); rintro e w1 ⟨rfl, b1⟩; have hc1 : ∀ b o, b < wr.heap.size → w1.cell? ⟨b, o, none⟩ = wr.cell? ⟨b, o, none⟩ := fun b o h => b1.cell (p := ⟨b, o, none⟩) h))
      go_wp2
      go_roundw
      case rel => exact ⟨k + 1, by omega, by go_num, HB.out.drew.trans (b1.mono hsz)⟩
      case measure => simp [intOf]; omega
    · go_wp2
      go_ret
      exact ⟨rfl, HB.out⟩

/-- what a block of packets must be, to be marked: the places of the bytes alone are told -/
structure MB (w : World) (gL n : Nat) (ys : List RV) : Prop where
  blk : ∃ cur : Array Value, w.heap[gL]? = some (.cells cur 33 (0, 0)) ∧ cur.size = n * 9 ∧ ∀ (i : Nat) y, ys[i]? = some y → cur[i * 9 + 8]? = some (.slice y.a y.zs.length y.zs.length)
  each : ∀ y ∈ ys, ∃ gy zs, y.a = some ⟨gy, 0, none⟩ ∧ zs.length = y.zs.length ∧ w.heap[gy]? = some (.cells (cellsOf zs) 5 (0, 0))
theorem LB.mb {w : World} {lo gL n : Nat} {ys : List RV} (h : LB w lo gL n ys) : MB w gL n ys := by
  refine ⟨?_, fun y hy => ?_⟩
  · obtain ⟨cur, hc, hs, r⟩ := h.blk
    refine ⟨cur, hc, hs, fun i y hy => ?_⟩
    rw [r i y hy 8 (by omega)]
    obtain ⟨gy, _, h2, _⟩ := h.each y (List.mem_of_getElem? hy)
    rw [h2]
    rfl
  · obtain ⟨gy, h1, _, _, h4, _⟩ := h.each y hy
    exact ⟨gy, y.zs, h1, rfl, h4⟩
/-- what marking leaves alone: all blocks but the list's own and those of its bytes -/
def Away (gL : Nat) (ys : List RV) (b : Nat) : Prop := b ≠ gL ∧ ∀ y ∈ ys, ∀ gy, y.a = some ⟨gy, 0, none⟩ → b ≠ gy
structure Left (gL : Nat) (ys : List RV) (w wr : World) : Prop where
  os : wr.os = w.os
  tape : wr.tape = w.tape
  output : wr.output = w.output
  size : w.heap.size ≤ wr.heap.size
  block : ∀ b, b < w.heap.size → Away gL ys b → wr.heap[b]? = w.heap[b]?

theorem put8_far {cur : Array Value} {o q : Nat} (x0 x1 x2 x3 x4 x5 x6 x7 : Value) (h : q < o ∨ o + 8 ≤ q) : (((((((((cur.setIfInBounds o x0).setIfInBounds (o + 1) x1).setIfInBounds (o + 2) x2).setIfInBounds (o + 3) x3).setIfInBounds (o + 4) x4).setIfInBounds (o + 5) x5).setIfInBounds (o + 6) x6).setIfInBounds (o + 7) x7))[q]? = cur[q]? := by
  simp only [Array.getElem?_setIfInBounds]
  repeat rw [if_neg (by omega)]
theorem far8 (w : World) (g o k : Nat) (h : k ≠ g) (x0 x1 x2 x3 x4 x5 x6 x7 : Value) : ((((((((w.setCell ⟨g, o, none⟩ x0).setCell ⟨g, o + 1, none⟩ x1).setCell ⟨g, o + 2, none⟩ x2).setCell ⟨g, o + 3, none⟩ x3).setCell ⟨g, o + 4, none⟩ x4).setCell ⟨g, o + 5, none⟩ x5).setCell ⟨g, o + 6, none⟩ x6).setCell ⟨g, o + 7, none⟩ x7).heap[k]? = w.heap[k]? :=
  ((Below.heap_setCell _ _ _ _ h).trans ((Below.heap_setCell _ _ _ _ h).trans ((Below.heap_setCell _ _ _ _ h).trans ((Below.heap_setCell _ _ _ _ h).trans ((Below.heap_setCell _ _ _ _ h).trans ((Below.heap_setCell _ _ _ _ h).trans ((Below.heap_setCell _ _ _ _ h).trans (Below.heap_setCell _ _ _ _ h))))))))
/-- eight fields of a packet marked -/
theorem MB.put8 {w : World} {gL n k : Nat} {ys : List RV} (h : MB w gL n ys) (x0 x1 x2 x3 x4 x5 x6 x7 : Value) :
    MB ((((((((w.setCell ⟨gL, k * 9, none⟩ x0).setCell ⟨gL, k * 9 + 1, none⟩ x1).setCell ⟨gL, k * 9 + 2, none⟩ x2).setCell ⟨gL, k * 9 + 3, none⟩ x3).setCell ⟨gL, k * 9 + 4, none⟩ x4).setCell ⟨gL, k * 9 + 5, none⟩ x5).setCell ⟨gL, k * 9 + 6, none⟩ x6).setCell ⟨gL, k * 9 + 7, none⟩ x7) gL n ys := by
  obtain ⟨cur, hc, hs, r⟩ := h.blk
  refine ⟨⟨_, set_at (set_at (set_at (set_at (set_at (set_at (set_at (set_at hc))))))), by simp only [Array.size_setIfInBounds]; exact hs, fun i y hy => ?_⟩, fun y hy => ?_⟩
  · rw [put8_far _ _ _ _ _ _ _ _ (by omega)]
    exact r i y hy
  · obtain ⟨gy, zs, h1, h2, h3⟩ := h.each y hy
    have hne : gy ≠ gL := fun e => by
      rw [e, hc] at h3
      cases h3
    exact ⟨gy, zs, h1, h2, (far8 _ _ _ _ hne _ _ _ _ _ _ _ _).trans h3⟩
theorem Left.put8 {gL : Nat} {ys : List RV} {w wr : World} {k : Nat} (h : Left gL ys w wr) (x0 x1 x2 x3 x4 x5 x6 x7 : Value) :
    Left gL ys w ((((((((wr.setCell ⟨gL, k * 9, none⟩ x0).setCell ⟨gL, k * 9 + 1, none⟩ x1).setCell ⟨gL, k * 9 + 2, none⟩ x2).setCell ⟨gL, k * 9 + 3, none⟩ x3).setCell ⟨gL, k * 9 + 4, none⟩ x4).setCell ⟨gL, k * 9 + 5, none⟩ x5).setCell ⟨gL, k * 9 + 6, none⟩ x6).setCell ⟨gL, k * 9 + 7, none⟩ x7) :=
  ⟨by simpa [World.setCell] using h.os, by simpa [World.setCell] using h.tape, by simpa [World.setCell] using h.output, by simpa [World.setCell] using h.size, fun b hb ha => (far8 _ _ _ _ ha.1 _ _ _ _ _ _ _ _).trans (h.block b hb ha)⟩
/-- behind the marking of a packet's bytes -/
theorem MB.bytes {w w' : World} {gL n gy m : Nat} {k : Int} {ys : List RV} (h : MB w gL n ys) (hg : w.grownBy w' (some gy)) (ho : w'.ownsRow gy 5 1 (.slice (some ⟨gy, 0, none⟩) m m) m ((marks k m).map (.int .u8))) (hm : ∃ zs : List Int, zs.length = m ∧ w.heap[gy]? = some (.cells (cellsOf zs) 5 (0, 0))) : MB w' gL n ys := by
  obtain ⟨cur, hc, hs, r⟩ := h.blk
  obtain ⟨zs0, hz0, hd0⟩ := hm
  have hne : gy ≠ gL := fun e => by
    rw [e, hc] at hd0
    cases hd0
  refine ⟨⟨cur, (hg.block _ (lt_of_block hc) (fun e => hne (Option.some.inj e).symm)).trans hc, hs, r⟩, fun y hy => ?_⟩
  obtain ⟨gy', zs, h1, h2, h3⟩ := h.each y hy
  by_cases e : gy' = gy
  · subst e
    rw [hd0] at h3
    have hzz : zs.length = zs0.length := by
      have := congrArg (fun o => match o with | some (.cells c _ _) => c.size | _ => 0) h3
      simp [cellsOf] at this
      omega
    rcases ho.2 with ⟨hv, _⟩ | ⟨g2, cap, cu, hv, _, hh, hcap, _, hsz, htk⟩
    · cases hv
    · cases hv
      refine ⟨gy', marks k m, h1, by rw [marks_length]; omega, hh.trans ?_⟩
      have : cu = cellsOf (marks k m) := by
        apply Array.ext'
        simp only [cellsOf, Nat.mul_one] at htk hsz ⊢
        rw [← htk]
        exact (List.take_of_length_le (by simp; omega)).symm
      rw [this]
  · exact ⟨gy', zs, h1, h2, (hg.block _ (lt_of_block h3) (fun e' => e (Option.some.inj e'))).trans h3⟩
theorem Left.bytes {gL gy : Nat} {ys : List RV} {y : RV} {w wr w' : World} (h : Left gL ys w wr) (hg : wr.grownBy w' (some gy)) (hy : y ∈ ys) (ha : y.a = some ⟨gy, 0, none⟩) : Left gL ys w w' :=
  ⟨hg.os.trans h.os, hg.tape.trans h.tape, hg.output.trans h.output, Nat.le_trans h.size hg.size, fun b hb hA => (hg.block b (Nat.lt_of_lt_of_le hb h.size) (fun e => hA.2 y hy gy ha (Option.some.inj e))).trans (h.block b hb hA)⟩
end Go.Proofs.YtjbkgmbakjnlhabGreatDoor
