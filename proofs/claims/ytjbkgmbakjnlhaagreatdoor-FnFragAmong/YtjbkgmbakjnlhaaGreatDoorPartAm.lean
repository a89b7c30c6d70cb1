import Derived.Test.YtjbkgmbakjnlhaaGreatDoorPartAl
namespace Go.Proofs.YtjbkgmbakjnlhaaGreatDoor
set_option maxRecDepth 100000
open Go.RowKit
attribute [local go_sem ↓] Go.wp_at_zero Go.wp_at_succ
def pkEq (p q : Pk) : Bool := (p.src == q.src) && (p.dst == q.dst) && (p.kind == q.kind) && (p.id == q.id) && (p.hops == q.hops) && (p.whole == q.whole) && (p.off == q.off) && (p.more == q.more)
theorem pkEq_iff (p q : Pk) : pkEq p q = true ↔ p = q := by
 obtain ⟨a, b, c, d, e, f, g, h⟩ := p
 obtain ⟨a', b', c', d', e', f', g', h'⟩ := q
 simp [pkEq, and_assoc]
def sameB (x y : PB) : Bool := pkEq x.1 y.1 && decide (x.2 = y.2)
theorem sameB_iff (x y : PB) : sameB x y = true ↔ x = y := by
 obtain ⟨p, zs⟩ := x
 obtain ⟨q, ys⟩ := y
 simp only [sameB, Bool.and_eq_true, pkEq_iff, decide_eq_true_eq, Prod.mk.injEq]
theorem eqg95 (x y : Operand) (xs ys : Array Value) (w : World) : (eqGuard .eql 105 x y (.agg xs) (.agg ys)).run Tryz.prog w = .ok () w := run_eqGuard_agg w .eql 105 x y xs ys (by kernel_rfl)
set_option maxHeartbeats 1600000 in
theorem eql95 (s d k i h o n s' d' k' i' h' o' n' : Int) (x m x' m' : Bool) (w : World) : (binOp .eql 105 (.agg #[.int .i64 s, .int .i64 d, .int .i64 k, .int .i64 i, .int .i64 h, .bool x, .int .i64 o, .bool m, .int .i64 n]) (.agg #[.int .i64 s', .int .i64 d', .int .i64 k', .int .i64 i', .int .i64 h', .bool x', .int .i64 o', .bool m', .int .i64 n'])).run Tryz.prog w =
  .ok (.bool (pkEq ⟨s, d, k, i, h, x, o, m⟩ ⟨s', d', k', i', h', x', o', m'⟩ && (n == n'))) w := by
 rw [run_eql_struct, show (10000 : Nat) = 9999 + 1 from rfl, run_equalIn_agg w 9999 105 _ _ (by kernel_rfl) (by kernel_rfl)]
 go_simp
 unfold pkEq
 repeat' split
 all_goals simp [*]
theorem conv_data {w : World} {lo : Nat} {y : RV} (h : DataB w lo y) : (convert 22 9 (.slice y.a y.zs.length y.c)).run Tryz.prog w = .ok (.string (strOfNums y.zs)) w := by
 rcases h.at_ with ⟨h1, h2, h3⟩ | ⟨g, h1, _, h3, _⟩
 ·rw [h1, h2, run_convert_bytes_nil (P := Tryz.prog) w 22 5 Tryz.underlying22 Tryz.underlying5 _ _ 9 Tryz.underlying9]
  rfl
 ·rw [h1]
  refine run_convert_bytes_arg (P := Tryz.prog) w 22 5 Tryz.underlying22 Tryz.underlying5 g 0 _ _ y.zs rfl (fun k hk => ?_) 9 Tryz.underlying9
  rw [Nat.zero_add]
  refine h3.cell ?_
  rw [List.getElem?_map]
  simp [List.getD, List.getElem?_eq_getElem hk]
set_option maxHeartbeats 800000 in
theorem equal_data (x y : RV) (lo lo' : Nat) (w : World) (hx : DataB w lo x) (hy : DataB w lo' y) :
  Calls Tryz.prog 101 #[.slice x.a x.zs.length x.c, .slice y.a y.zs.length y.c] w fun e w' => e = .returned (.bool (decide (x.zs = y.zs))) ∧ w' = w := by
 have e1 := conv_data hx
 have e2 := conv_data hy
 have hb : ((strOfNums x.zs).toList == (strOfNums y.zs).toList) = decide (x.zs = y.zs) := by
  have h := bytes_inj hx.byte hy.byte
  by_cases e : x.zs = y.zs
  ·rw [decide_eq_true e]; exact h.2 e
  ·rw [decide_eq_false e]
   cases hh : ((strOfNums x.zs).toList == (strOfNums y.zs).toList)
   ·rfl
   ·exact absurd (h.1 hh) e
 clear hx hy
 go_enter Tryz.func101, Tryz.ntmps101
 go_wp2
 go_ret
 exact ⟨rfl, rfl⟩
set_option maxHeartbeats 12800000 in
theorem has1_any (x y : RV) (pb lo lo' : Nat) (w : World) (hB : Boxed w pb x.p (.slice x.a x.zs.length x.c)) (hx : DataB w lo x) (hy : DataB w lo' y) :
  Calls Tryz.prog 115 #[y.p.val (.slice y.a y.zs.length y.c), .pointer (some ⟨pb, 0, none⟩)] w fun e w' => e = .returned (.bool (sameB x.key y.key)) ∧ Below w.heap.size w w' := by
 obtain ⟨lt, c0, c1, c2, c3, c4, c5, c6, c7, c8⟩ := hB
 have K1 : Hid (∀ W : World, Calls Tryz.prog 61 #[.agg #[.int .i64 x.p.src, .int .i64 x.p.dst, .int .i64 x.p.kind, .int .i64 x.p.id, .int .i64 x.p.hops, .bool x.p.whole, .int .i64 x.p.off, .bool x.p.more, .slice x.a x.zs.length x.c]] W fun e w' => e = .returned (.agg #[.int .i64 x.p.src, .int .i64 x.p.dst, .int .i64 x.p.kind, .int .i64 x.p.id, .int .i64 x.p.hops, .bool x.p.whole, .int .i64 x.p.off, .bool x.p.more, .int .i64 x.zs.length]) ∧ Below W.heap.size W w') := fun W => by
  have h := keyed_any x.p x.a x.zs.length x.c W
  unfold Pk.val Pk.kval at h
  exact h
 have K2 : Hid (∀ W : World, Calls Tryz.prog 61 #[.agg #[.int .i64 y.p.src, .int .i64 y.p.dst, .int .i64 y.p.kind, .int .i64 y.p.id, .int .i64 y.p.hops, .bool y.p.whole, .int .i64 y.p.off, .bool y.p.more, .slice y.a y.zs.length y.c]] W fun e w' => e = .returned (.agg #[.int .i64 y.p.src, .int .i64 y.p.dst, .int .i64 y.p.kind, .int .i64 y.p.id, .int .i64 y.p.hops, .bool y.p.whole, .int .i64 y.p.off, .bool y.p.more, .int .i64 y.zs.length]) ∧ Below W.heap.size W w') := fun W => by
  have h := keyed_any y.p y.a y.zs.length y.c W
  unfold Pk.val Pk.kval at h
  exact h
 have KE : Hid (∀ W : World, Below w.heap.size w W → Calls Tryz.prog 101 #[.slice x.a x.zs.length x.c, .slice y.a y.zs.length y.c] W fun e w' => e = .returned (.bool (decide (x.zs = y.zs))) ∧ w' = W) := fun W h => equal_data x y lo lo' W (hx.below h) (hy.below h)
 clear hx hy
 have hg := eqg95
 have he := eql95
 unfold Pk.val
 cases hv : (pkEq x.p y.p && ((x.zs.length : Int) == (y.zs.length : Int)))
 ·have HA : Hid (sameB x.key y.key = false) := (show sameB x.key y.key = false by
   cases hs : sameB x.key y.key
   ·rfl
   ·have e := (sameB_iff _ _).1 hs
    have e1 : x.p = y.p := congrArg Prod.fst e
    have e2 : x.zs = y.zs := congrArg Prod.snd e
    rw [(pkEq_iff _ _).2 e1, e2] at hv
    simp at hv)
  have hv' : (pkEq ⟨x.p.src, x.p.dst, x.p.kind, x.p.id, x.p.hops, x.p.whole, x.p.off, x.p.more⟩ ⟨y.p.src, y.p.dst, y.p.kind, y.p.id, y.p.hops, y.p.whole, y.p.off, y.p.more⟩ && ((x.zs.length : Int) == (y.zs.length : Int))) = false := hv
  go_enter Tryz.func115, Tryz.ntmps115
  go_wp2
  obtain ⟨W0, hW0⟩ : ∃ W0, W0 = w.alloc (.cells #[.int .i64 y.p.src, .int .i64 y.p.dst, .int .i64 y.p.kind, .int .i64 y.p.id, .int .i64 y.p.hops, .bool y.p.whole, .int .i64 y.p.off, .bool y.p.more, .slice y.a y.zs.length y.c] 29) := ⟨_, rfl⟩
  have hS0 : w.heap.size + 1 ≤ W0.heap.size ∧ W0.cell? ⟨pb, 0, none⟩ = some (.int .i64 x.p.src) ∧ W0.cell? ⟨pb, 1, none⟩ = some (.int .i64 x.p.dst) ∧ W0.cell? ⟨pb, 2, none⟩ = some (.int .i64 x.p.kind) ∧ W0.cell? ⟨pb, 3, none⟩ = some (.int .i64 x.p.id) ∧ W0.cell? ⟨pb, 4, none⟩ = some (.int .i64 x.p.hops) ∧ W0.cell? ⟨pb, 5, none⟩ = some (.bool x.p.whole) ∧ W0.cell? ⟨pb, 6, none⟩ = some (.int .i64 x.p.off) ∧ W0.cell? ⟨pb, 7, none⟩ = some (.bool x.p.more) ∧ W0.cell? ⟨pb, 8, none⟩ = some (.slice x.a x.zs.length x.c) ∧ W0.cell? ⟨w.heap.size, 0, none⟩ = some (.int .i64 y.p.src) ∧ W0.cell? ⟨w.heap.size, 1, none⟩ = some (.int .i64 y.p.dst) ∧ W0.cell? ⟨w.heap.size, 2, none⟩ = some (.int .i64 y.p.kind) ∧ W0.cell? ⟨w.heap.size, 3, none⟩ = some (.int .i64 y.p.id) ∧ W0.cell? ⟨w.heap.size, 4, none⟩ = some (.int .i64 y.p.hops) ∧ W0.cell? ⟨w.heap.size, 5, none⟩ = some (.bool y.p.whole) ∧ W0.cell? ⟨w.heap.size, 6, none⟩ = some (.int .i64 y.p.off) ∧ W0.cell? ⟨w.heap.size, 7, none⟩ = some (.bool y.p.more) ∧ W0.cell? ⟨w.heap.size, 8, none⟩ = some (.slice y.a y.zs.length y.c) := by
   subst hW0
   refine ⟨by simp, ?_, ?_, ?_, ?_, ?_, ?_, ?_, ?_, ?_, ?_, ?_, ?_, ?_, ?_, ?_, ?_, ?_, ?_⟩ <;> go_simp
  have b0 : Below w.heap.size w W0 := by subst hW0; exact zBa _ _
  rw [← hW0]
  clear hW0
  refine wp_region_held_drew (S := fun w' => w.heap.size + 1 ≤ w'.heap.size ∧ w'.cell? ⟨pb, 0, none⟩ = some (.int .i64 x.p.src) ∧ w'.cell? ⟨pb, 1, none⟩ = some (.int .i64 x.p.dst) ∧ w'.cell? ⟨pb, 2, none⟩ = some (.int .i64 x.p.kind) ∧ w'.cell? ⟨pb, 3, none⟩ = some (.int .i64 x.p.id) ∧ w'.cell? ⟨pb, 4, none⟩ = some (.int .i64 x.p.hops) ∧ w'.cell? ⟨pb, 5, none⟩ = some (.bool x.p.whole) ∧ w'.cell? ⟨pb, 6, none⟩ = some (.int .i64 x.p.off) ∧ w'.cell? ⟨pb, 7, none⟩ = some (.bool x.p.more) ∧ w'.cell? ⟨pb, 8, none⟩ = some (.slice x.a x.zs.length x.c) ∧ w'.cell? ⟨w.heap.size, 0, none⟩ = some (.int .i64 y.p.src) ∧ w'.cell? ⟨w.heap.size, 1, none⟩ = some (.int .i64 y.p.dst) ∧ w'.cell? ⟨w.heap.size, 2, none⟩ = some (.int .i64 y.p.kind) ∧ w'.cell? ⟨w.heap.size, 3, none⟩ = some (.int .i64 y.p.id) ∧ w'.cell? ⟨w.heap.size, 4, none⟩ = some (.int .i64 y.p.hops) ∧ w'.cell? ⟨w.heap.size, 5, none⟩ = some (.bool y.p.whole) ∧ w'.cell? ⟨w.heap.size, 6, none⟩ = some (.int .i64 y.p.off) ∧ w'.cell? ⟨w.heap.size, 7, none⟩ = some (.bool y.p.more) ∧ w'.cell? ⟨w.heap.size, 8, none⟩ = some (.slice y.a y.zs.length y.c)) (by kernel_rfl) hS0 (fun hH => ?_)
  clear c0 c1 c2 c3 c4 c5 c6 c7 c8
  obtain ⟨s0, x0, x1, x2, x3, x4, x5, x6, x7, x8, y0, y1, y2, y3, y4, y5, y6, y7, y8⟩ := hS0
  refine zTk 0 4 (.agg #[.int .i64 x.p.src, .int .i64 x.p.dst, .int .i64 x.p.kind, .int .i64 x.p.id, .int .i64 x.p.hops, .bool x.p.whole, .int .i64 x.p.off, .bool x.p.more, .slice x.a x.zs.length x.c]) rfl (fun w hS => by obtain ⟨s0, x0, x1, x2, x3, x4, x5, x6, x7, x8, y0, y1, y2, y3, y4, y5, y6, y7, y8⟩ := hS; go_simp) hH ?_; simp only [Act.put, zX, zY, zZ]
  refine zTk 2 6 (.agg #[.int .i64 y.p.src, .int .i64 y.p.dst, .int .i64 y.p.kind, .int .i64 y.p.id, .int .i64 y.p.hops, .bool y.p.whole, .int .i64 y.p.off, .bool y.p.more, .slice y.a y.zs.length y.c]) rfl (fun w hS => by obtain ⟨s0, x0, x1, x2, x3, x4, x5, x6, x7, x8, y0, y1, y2, y3, y4, y5, y6, y7, y8⟩ := hS; go_simp) hH ?_; simp only [Act.put, zX, zY, zZ]
  refine zRd 1 (by kernel_rfl) rfl (fun K hK => ?_)
  go_simp
  refine (K1.out _).mono ?_
  rintro e w1 ⟨rfl, b1⟩
  have b1' : Below W0.heap.size W0 w1 := ((Below.refl _ W0).drew).trans b1
  have hc1 : ∀ b o, b < w.heap.size + 1 → w1.cell? ⟨b, o, none⟩ = W0.cell? ⟨b, o, none⟩ := fun b o h => b1'.cell (p := ⟨b, o, none⟩) (by simp only; omega)
  have s1 : w.heap.size + 1 ≤ w1.heap.size := Nat.le_trans s0 b1'.size
  go_simp
  refine hK.out _ _ ⟨s1, (hc1 pb 0 (by omega)).trans x0, (hc1 pb 1 (by omega)).trans x1, (hc1 pb 2 (by omega)).trans x2, (hc1 pb 3 (by omega)).trans x3, (hc1 pb 4 (by omega)).trans x4, (hc1 pb 5 (by omega)).trans x5, (hc1 pb 6 (by omega)).trans x6, (hc1 pb 7 (by omega)).trans x7, (hc1 pb 8 (by omega)).trans x8, (hc1 w.heap.size 0 (by omega)).trans y0, (hc1 w.heap.size 1 (by omega)).trans y1, (hc1 w.heap.size 2 (by omega)).trans y2, (hc1 w.heap.size 3 (by omega)).trans y3, (hc1 w.heap.size 4 (by omega)).trans y4, (hc1 w.heap.size 5 (by omega)).trans y5, (hc1 w.heap.size 6 (by omega)).trans y6, (hc1 w.heap.size 7 (by omega)).trans y7, (hc1 w.heap.size 8 (by omega)).trans y8⟩ (fun hH => ?_)
  clear hK K b1
  refine zRd 3 (by kernel_rfl) rfl (fun K hK => ?_)
  go_simp
  refine (K2.out _).mono ?_
  rintro e w2 ⟨rfl, b2⟩
  have b2' : Below W0.heap.size W0 w2 := b1'.trans (b2.mono b1'.size)
  have hc2 : ∀ b o, b < w.heap.size + 1 → w2.cell? ⟨b, o, none⟩ = W0.cell? ⟨b, o, none⟩ := fun b o h => b2'.cell (p := ⟨b, o, none⟩) (by simp only; omega)
  have s2 : w.heap.size + 1 ≤ w2.heap.size := Nat.le_trans s0 b2'.size
  go_simp
  refine hK.out _ _ ⟨s2, (hc2 pb 0 (by omega)).trans x0, (hc2 pb 1 (by omega)).trans x1, (hc2 pb 2 (by omega)).trans x2, (hc2 pb 3 (by omega)).trans x3, (hc2 pb 4 (by omega)).trans x4, (hc2 pb 5 (by omega)).trans x5, (hc2 pb 6 (by omega)).trans x6, (hc2 pb 7 (by omega)).trans x7, (hc2 pb 8 (by omega)).trans x8, (hc2 w.heap.size 0 (by omega)).trans y0, (hc2 w.heap.size 1 (by omega)).trans y1, (hc2 w.heap.size 2 (by omega)).trans y2, (hc2 w.heap.size 3 (by omega)).trans y3, (hc2 w.heap.size 4 (by omega)).trans y4, (hc2 w.heap.size 5 (by omega)).trans y5, (hc2 w.heap.size 6 (by omega)).trans y6, (hc2 w.heap.size 7 (by omega)).trans y7, (hc2 w.heap.size 8 (by omega)).trans y8⟩ (fun hH => ?_)
  clear hK K b2
  have B2 : Below w.heap.size w w2 := b0.trans (b2'.mono b0.size)
  refine zTk 4 8 (.bool false) rfl (fun w hS => by obtain ⟨s0, x0, x1, x2, x3, x4, x5, x6, x7, x8, y0, y1, y2, y3, y4, y5, y6, y7, y8⟩ := hS; go_simp; first | done | (rw [hv']) | (simp [hv'])) hH ?_; simp only [Act.put, zX, zY, zZ]
  refine zTk 5 9 (.bool false) rfl (fun w hS => by obtain ⟨s0, x0, x1, x2, x3, x4, x5, x6, x7, x8, y0, y1, y2, y3, y4, y5, y6, y7, y8⟩ := hS; go_simp) hH ?_; simp only [Act.put, zX, zY, zZ]
  refine take_skipH 6 (some 10) rfl rfl (by kernel_rfl) (by kernel_rfl) (by kernel_rfl) (fun _ _ _ h => h) (by rfl) hH ?_
  simp only [Act.put, zX, zY, zZ]
  refine take_skipH 7 (some 11) rfl rfl (by kernel_rfl) (by kernel_rfl) (by kernel_rfl) (fun _ _ _ h => h) (by rfl) hH ?_
  simp only [Act.put, zX, zY, zZ]
  refine take_skipH 8 (some 12) rfl rfl (by kernel_rfl) (by kernel_rfl) (by kernel_rfl) (fun _ _ _ h => h) (by rfl) hH ?_
  simp only [Act.put, zX, zY, zZ]
  refine take_skipH 9 (some 13) rfl rfl (by kernel_rfl) (by kernel_rfl) (by kernel_rfl) (fun _ _ _ h => h) (by rfl) hH ?_
  simp only [Act.put, zX, zY, zZ]
  refine take_skipH 10 (some 14) rfl rfl (by kernel_rfl) (by kernel_rfl) (by kernel_rfl) (fun _ _ _ h => h) (by rfl) hH ?_
  simp only [Act.put, zX, zY, zZ]
  refine zTk 11 15 (.bool false) rfl (fun w hS => by obtain ⟨s0, x0, x1, x2, x3, x4, x5, x6, x7, x8, y0, y1, y2, y3, y4, y5, y6, y7, y8⟩ := hS; go_simp) hH ?_; simp only [Act.put, zX, zY, zZ]
  refine zTk 12 3 (.bool false) rfl (fun w hS => by obtain ⟨s0, x0, x1, x2, x3, x4, x5, x6, x7, x8, y0, y1, y2, y3, y4, y5, y6, y7, y8⟩ := hS; go_simp) hH ?_; simp only [Act.put, zX, zY, zZ]
  refine wpAnyH_done (by kernel_rfl) ?_ _
  clear hH
  go_wp2
  go_ret
  exact ⟨ret_bool HA.out.symm, B2⟩
 ·have HA : Hid (sameB x.key y.key = decide (x.zs = y.zs)) := (show sameB x.key y.key = _ by
   simp only [Bool.and_eq_true] at hv
   unfold sameB RV.key
   rw [hv.1]
   simp)
  have hv' : (pkEq ⟨x.p.src, x.p.dst, x.p.kind, x.p.id, x.p.hops, x.p.whole, x.p.off, x.p.more⟩ ⟨y.p.src, y.p.dst, y.p.kind, y.p.id, y.p.hops, y.p.whole, y.p.off, y.p.more⟩ && ((x.zs.length : Int) == (y.zs.length : Int))) = true := hv
  go_enter Tryz.func115, Tryz.ntmps115
  go_wp2
  obtain ⟨W0, hW0⟩ : ∃ W0, W0 = w.alloc (.cells #[.int .i64 y.p.src, .int .i64 y.p.dst, .int .i64 y.p.kind, .int .i64 y.p.id, .int .i64 y.p.hops, .bool y.p.whole, .int .i64 y.p.off, .bool y.p.more, .slice y.a y.zs.length y.c] 29) := ⟨_, rfl⟩
  have hS0 : w.heap.size + 1 ≤ W0.heap.size ∧ W0.cell? ⟨pb, 0, none⟩ = some (.int .i64 x.p.src) ∧ W0.cell? ⟨pb, 1, none⟩ = some (.int .i64 x.p.dst) ∧ W0.cell? ⟨pb, 2, none⟩ = some (.int .i64 x.p.kind) ∧ W0.cell? ⟨pb, 3, none⟩ = some (.int .i64 x.p.id) ∧ W0.cell? ⟨pb, 4, none⟩ = some (.int .i64 x.p.hops) ∧ W0.cell? ⟨pb, 5, none⟩ = some (.bool x.p.whole) ∧ W0.cell? ⟨pb, 6, none⟩ = some (.int .i64 x.p.off) ∧ W0.cell? ⟨pb, 7, none⟩ = some (.bool x.p.more) ∧ W0.cell? ⟨pb, 8, none⟩ = some (.slice x.a x.zs.length x.c) ∧ W0.cell? ⟨w.heap.size, 0, none⟩ = some (.int .i64 y.p.src) ∧ W0.cell? ⟨w.heap.size, 1, none⟩ = some (.int .i64 y.p.dst) ∧ W0.cell? ⟨w.heap.size, 2, none⟩ = some (.int .i64 y.p.kind) ∧ W0.cell? ⟨w.heap.size, 3, none⟩ = some (.int .i64 y.p.id) ∧ W0.cell? ⟨w.heap.size, 4, none⟩ = some (.int .i64 y.p.hops) ∧ W0.cell? ⟨w.heap.size, 5, none⟩ = some (.bool y.p.whole) ∧ W0.cell? ⟨w.heap.size, 6, none⟩ = some (.int .i64 y.p.off) ∧ W0.cell? ⟨w.heap.size, 7, none⟩ = some (.bool y.p.more) ∧ W0.cell? ⟨w.heap.size, 8, none⟩ = some (.slice y.a y.zs.length y.c) := by
   subst hW0
   refine ⟨by simp, ?_, ?_, ?_, ?_, ?_, ?_, ?_, ?_, ?_, ?_, ?_, ?_, ?_, ?_, ?_, ?_, ?_, ?_⟩ <;> go_simp
  have b0 : Below w.heap.size w W0 := by subst hW0; exact zBa _ _
  rw [← hW0]
  clear hW0
  refine wp_region_held_drew (S := fun w' => w.heap.size + 1 ≤ w'.heap.size ∧ w'.cell? ⟨pb, 0, none⟩ = some (.int .i64 x.p.src) ∧ w'.cell? ⟨pb, 1, none⟩ = some (.int .i64 x.p.dst) ∧ w'.cell? ⟨pb, 2, none⟩ = some (.int .i64 x.p.kind) ∧ w'.cell? ⟨pb, 3, none⟩ = some (.int .i64 x.p.id) ∧ w'.cell? ⟨pb, 4, none⟩ = some (.int .i64 x.p.hops) ∧ w'.cell? ⟨pb, 5, none⟩ = some (.bool x.p.whole) ∧ w'.cell? ⟨pb, 6, none⟩ = some (.int .i64 x.p.off) ∧ w'.cell? ⟨pb, 7, none⟩ = some (.bool x.p.more) ∧ w'.cell? ⟨pb, 8, none⟩ = some (.slice x.a x.zs.length x.c) ∧ w'.cell? ⟨w.heap.size, 0, none⟩ = some (.int .i64 y.p.src) ∧ w'.cell? ⟨w.heap.size, 1, none⟩ = some (.int .i64 y.p.dst) ∧ w'.cell? ⟨w.heap.size, 2, none⟩ = some (.int .i64 y.p.kind) ∧ w'.cell? ⟨w.heap.size, 3, none⟩ = some (.int .i64 y.p.id) ∧ w'.cell? ⟨w.heap.size, 4, none⟩ = some (.int .i64 y.p.hops) ∧ w'.cell? ⟨w.heap.size, 5, none⟩ = some (.bool y.p.whole) ∧ w'.cell? ⟨w.heap.size, 6, none⟩ = some (.int .i64 y.p.off) ∧ w'.cell? ⟨w.heap.size, 7, none⟩ = some (.bool y.p.more) ∧ w'.cell? ⟨w.heap.size, 8, none⟩ = some (.slice y.a y.zs.length y.c)) (by kernel_rfl) hS0 (fun hH => ?_)
  clear c0 c1 c2 c3 c4 c5 c6 c7 c8
  obtain ⟨s0, x0, x1, x2, x3, x4, x5, x6, x7, x8, y0, y1, y2, y3, y4, y5, y6, y7, y8⟩ := hS0
  refine zTk 0 4 (.agg #[.int .i64 x.p.src, .int .i64 x.p.dst, .int .i64 x.p.kind, .int .i64 x.p.id, .int .i64 x.p.hops, .bool x.p.whole, .int .i64 x.p.off, .bool x.p.more, .slice x.a x.zs.length x.c]) rfl (fun w hS => by obtain ⟨s0, x0, x1, x2, x3, x4, x5, x6, x7, x8, y0, y1, y2, y3, y4, y5, y6, y7, y8⟩ := hS; go_simp) hH ?_; simp only [Act.put, zX, zY, zZ]
  refine zTk 2 6 (.agg #[.int .i64 y.p.src, .int .i64 y.p.dst, .int .i64 y.p.kind, .int .i64 y.p.id, .int .i64 y.p.hops, .bool y.p.whole, .int .i64 y.p.off, .bool y.p.more, .slice y.a y.zs.length y.c]) rfl (fun w hS => by obtain ⟨s0, x0, x1, x2, x3, x4, x5, x6, x7, x8, y0, y1, y2, y3, y4, y5, y6, y7, y8⟩ := hS; go_simp) hH ?_; simp only [Act.put, zX, zY, zZ]
  refine zRd 1 (by kernel_rfl) rfl (fun K hK => ?_)
  go_simp
  refine (K1.out _).mono ?_
  rintro e w1 ⟨rfl, b1⟩
  have b1' : Below W0.heap.size W0 w1 := ((Below.refl _ W0).drew).trans b1
  have hc1 : ∀ b o, b < w.heap.size + 1 → w1.cell? ⟨b, o, none⟩ = W0.cell? ⟨b, o, none⟩ := fun b o h => b1'.cell (p := ⟨b, o, none⟩) (by simp only; omega)
  have s1 : w.heap.size + 1 ≤ w1.heap.size := Nat.le_trans s0 b1'.size
  go_simp
  refine hK.out _ _ ⟨s1, (hc1 pb 0 (by omega)).trans x0, (hc1 pb 1 (by omega)).trans x1, (hc1 pb 2 (by omega)).trans x2, (hc1 pb 3 (by omega)).trans x3, (hc1 pb 4 (by omega)).trans x4, (hc1 pb 5 (by omega)).trans x5, (hc1 pb 6 (by omega)).trans x6, (hc1 pb 7 (by omega)).trans x7, (hc1 pb 8 (by omega)).trans x8, (hc1 w.heap.size 0 (by omega)).trans y0, (hc1 w.heap.size 1 (by omega)).trans y1, (hc1 w.heap.size 2 (by omega)).trans y2, (hc1 w.heap.size 3 (by omega)).trans y3, (hc1 w.heap.size 4 (by omega)).trans y4, (hc1 w.heap.size 5 (by omega)).trans y5, (hc1 w.heap.size 6 (by omega)).trans y6, (hc1 w.heap.size 7 (by omega)).trans y7, (hc1 w.heap.size 8 (by omega)).trans y8⟩ (fun hH => ?_)
  clear hK K b1
  refine zRd 3 (by kernel_rfl) rfl (fun K hK => ?_)
  go_simp
  refine (K2.out _).mono ?_
  rintro e w2 ⟨rfl, b2⟩
  have b2' : Below W0.heap.size W0 w2 := b1'.trans (b2.mono b1'.size)
  have hc2 : ∀ b o, b < w.heap.size + 1 → w2.cell? ⟨b, o, none⟩ = W0.cell? ⟨b, o, none⟩ := fun b o h => b2'.cell (p := ⟨b, o, none⟩) (by simp only; omega)
  have s2 : w.heap.size + 1 ≤ w2.heap.size := Nat.le_trans s0 b2'.size
  go_simp
  refine hK.out _ _ ⟨s2, (hc2 pb 0 (by omega)).trans x0, (hc2 pb 1 (by omega)).trans x1, (hc2 pb 2 (by omega)).trans x2, (hc2 pb 3 (by omega)).trans x3, (hc2 pb 4 (by omega)).trans x4, (hc2 pb 5 (by omega)).trans x5, (hc2 pb 6 (by omega)).trans x6, (hc2 pb 7 (by omega)).trans x7, (hc2 pb 8 (by omega)).trans x8, (hc2 w.heap.size 0 (by omega)).trans y0, (hc2 w.heap.size 1 (by omega)).trans y1, (hc2 w.heap.size 2 (by omega)).trans y2, (hc2 w.heap.size 3 (by omega)).trans y3, (hc2 w.heap.size 4 (by omega)).trans y4, (hc2 w.heap.size 5 (by omega)).trans y5, (hc2 w.heap.size 6 (by omega)).trans y6, (hc2 w.heap.size 7 (by omega)).trans y7, (hc2 w.heap.size 8 (by omega)).trans y8⟩ (fun hH => ?_)
  clear hK K b2
  have B2 : Below w.heap.size w w2 := b0.trans (b2'.mono b0.size)
  refine zTk 4 8 (.bool true) rfl (fun w hS => by obtain ⟨s0, x0, x1, x2, x3, x4, x5, x6, x7, x8, y0, y1, y2, y3, y4, y5, y6, y7, y8⟩ := hS; go_simp; first | done | (rw [hv']) | (simp [hv'])) hH ?_; simp only [Act.put, zX, zY, zZ]
  refine zTk 5 9 (.bool true) rfl (fun w hS => by obtain ⟨s0, x0, x1, x2, x3, x4, x5, x6, x7, x8, y0, y1, y2, y3, y4, y5, y6, y7, y8⟩ := hS; go_simp) hH ?_; simp only [Act.put, zX, zY, zZ]
  refine zTk 6 10 (.pointer (some ⟨pb, 8, none⟩)) rfl (fun w hS => by obtain ⟨s0, x0, x1, x2, x3, x4, x5, x6, x7, x8, y0, y1, y2, y3, y4, y5, y6, y7, y8⟩ := hS; go_simp) hH ?_; simp only [Act.put, zX, zY, zZ]
  refine zTk 7 11 (.slice x.a x.zs.length x.c) rfl (fun w hS => by obtain ⟨s0, x0, x1, x2, x3, x4, x5, x6, x7, x8, y0, y1, y2, y3, y4, y5, y6, y7, y8⟩ := hS; go_simp) hH ?_; simp only [Act.put, zX, zY, zZ]
  refine zTk 8 12 (.pointer (some ⟨w.heap.size, 8, none⟩)) rfl (fun w hS => by obtain ⟨s0, x0, x1, x2, x3, x4, x5, x6, x7, x8, y0, y1, y2, y3, y4, y5, y6, y7, y8⟩ := hS; go_simp) hH ?_; simp only [Act.put, zX, zY, zZ]
  refine zTk 9 13 (.slice y.a y.zs.length y.c) rfl (fun w hS => by obtain ⟨s0, x0, x1, x2, x3, x4, x5, x6, x7, x8, y0, y1, y2, y3, y4, y5, y6, y7, y8⟩ := hS; go_simp) hH ?_; simp only [Act.put, zX, zY, zZ]
  refine zRd 10 (by kernel_rfl) rfl (fun K hK => ?_)
  go_simp
  refine (KE.out _ B2).mono ?_
  rintro e w3 ⟨rfl, rfl⟩
  go_simp
  refine hK.out _ _ hH (fun hH => ?_)
  clear hK K
  refine zTk 11 15 (.bool (decide (x.zs = y.zs))) rfl (fun w hS => by obtain ⟨s0, x0, x1, x2, x3, x4, x5, x6, x7, x8, y0, y1, y2, y3, y4, y5, y6, y7, y8⟩ := hS; go_simp) hH ?_; simp only [Act.put, zX, zY, zZ]
  refine zTk 12 3 (.bool (decide (x.zs = y.zs))) rfl (fun w hS => by obtain ⟨s0, x0, x1, x2, x3, x4, x5, x6, x7, x8, y0, y1, y2, y3, y4, y5, y6, y7, y8⟩ := hS; go_simp) hH ?_; simp only [Act.put, zX, zY, zZ]
  refine wpAnyH_done (by kernel_rfl) ?_ _
  clear hH
  go_wp2
  go_ret
  exact ⟨ret_bool HA.out.symm, B2⟩
set_option maxHeartbeats 3200000 in
theorem indexP_any (gL c pb lo lo' : Nat) (x : RV) (ys : List RV) (w : World) (hR : RL w gL ys) (hD : ∀ y ∈ ys, DataB w lo' y) (hB : Boxed w pb x.p (.slice x.a x.zs.length x.c)) (hx : DataB w lo x) (hl : ys.length ≤ 1048576) :
  Calls Tryz.prog 118 #[.slice (some ⟨gL, 0, none⟩) ys.length c, .func (.func 115) #[] #[.pointer (some ⟨pb, 0, none⟩)]] w fun e w' => (∃ r : Int, e = .returned (.int .i64 r) ∧ -1 ≤ r ∧ (0 ≤ r ↔ x.key ∈ ys.map RV.key)) ∧ Below w.heap.size w w' := by
 have HR : Hid (RL w gL ys) := hR
 have HD : Hid (∀ y ∈ ys, DataB w lo' y) := hD
 have HB0 : Hid (Boxed w pb x.p (.slice x.a x.zs.length x.c)) := hB
 have HX : Hid (DataB w lo x) := hx
 clear hR hD hB hx
 go_enter Tryz.func118, Tryz.ntmps118
 go_wp2
 go_loopw [8] (fun i wr => ∃ j : Nat, j ≤ ys.length ∧ i = .int .i64 j ∧ Hid (∀ i y, i < j → ys[i]? = some y → x.key ≠ y.key) ∧ Hid (Below w.heap.size w wr)) (fun i _ => ys.length - (intOf i).toNat)
 case atStart => exact ⟨0, by omega, rfl, fun i y h => absurd h (Nat.not_lt_zero _), Below.refl _ _⟩
 case round =>
  obtain ⟨j, hj, rfl, HN, HB⟩ := hrel
  have hsz := HB.out.size
  by_cases hlt : j < ys.length
  ·have hi : (j : Int) < (ys.length : Int) := by omega
   obtain ⟨y, hy⟩ := get_of_lt hlt
   have Rr := HR.out.below HB.out
   obtain ⟨c0, c1, c2, c3, c4, c5, c6, c7, c8⟩ := Rr.elem j y hy
   have lg := Rr.lt
   have KC : Hid (∀ W : World, Below w.heap.size w W → Calls Tryz.prog 115 #[.agg #[.int .i64 y.p.src, .int .i64 y.p.dst, .int .i64 y.p.kind, .int .i64 y.p.id, .int .i64 y.p.hops, .bool y.p.whole, .int .i64 y.p.off, .bool y.p.more, .slice y.a y.zs.length y.c], .pointer (some ⟨pb, 0, none⟩)] W fun e w' => e = .returned (.bool (sameB x.key y.key)) ∧ Below W.heap.size W w') := fun W h => has1_any x y pb lo lo' W (HB0.out.below h) (HX.out.below h) ((HD.out y (List.mem_of_getElem? hy)).below h)
   have HY : Hid (ys[j]? = some y) := hy
   clear hy Rr
   cases hs : sameB x.key y.key
   ·rw [hs] at KC
    have HS : Hid (x.key ≠ y.key) := fun e => by rw [(sameB_iff _ _).2 e] at hs; cases hs
    clear hs
    go_wp2_with fail
    refine (KC.out _ HB.out).mono ?_
    rintro e w1 ⟨rfl, b1⟩
    have B1 : Hid (Below w.heap.size w w1) := HB.out.trans (b1.mono hsz)
    clear b1
    go_wp2
    go_roundw
    case rel =>
     refine ⟨j + 1, by omega, by go_num, fun i z hi hz => ?_, B1.out⟩
     by_cases e : i = j
     ·subst e
      rw [HY.out] at hz
      cases hz
      exact HS.out
     ·exact HN.out i z (by omega) hz
    case measure => simp [intOf]; omega
   ·rw [hs] at KC
    have HS : Hid (x.key = y.key) := (sameB_iff _ _).1 hs
    clear hs
    go_wp2_with fail
    refine (KC.out _ HB.out).mono ?_
    rintro e w1 ⟨rfl, b1⟩
    have B1 : Hid (Below w.heap.size w w1) := HB.out.trans (b1.mono hsz)
    clear b1
    go_wp2
    go_ret
    exact ⟨⟨_, rfl, by omega, fun _ => List.mem_map.2 ⟨y, List.mem_of_getElem? HY.out, HS.out.symm⟩, fun _ => by omega⟩, B1.out⟩
  ·obtain rfl : j = ys.length := by omega
   go_wp2
   go_ret
   refine ⟨⟨-1, rfl, by omega, fun h => by omega, fun h => ?_⟩, HB.out⟩
   obtain ⟨y, hy, e⟩ := List.mem_map.1 h
   obtain ⟨i, hi⟩ := List.getElem?_of_mem hy
   exact absurd e.symm (HN.out i y ((List.getElem?_eq_some_iff.1 hi).1) hi)
set_option maxHeartbeats 800000 in
theorem contains_any (gL c pb lo lo' : Nat) (x : RV) (ys : List RV) (w : World) (hR : RL w gL ys) (hD : ∀ y ∈ ys, DataB w lo' y) (hB : Boxed w pb x.p (.slice x.a x.zs.length x.c)) (hx : DataB w lo x) (hl : ys.length ≤ 1048576) :
  Calls Tryz.prog 114 #[.slice (some ⟨gL, 0, none⟩) ys.length c, .func (.func 115) #[] #[.pointer (some ⟨pb, 0, none⟩)]] w fun e w' => ∃ b : Bool, e = .returned (.bool b) ∧ (b = true ↔ x.key ∈ ys.map RV.key) ∧ Below w.heap.size w w' := by
 have KI := indexP_any gL c pb lo lo' x ys w hR hD hB hx hl
 clear hR hD hB hx
 go_enter Tryz.func114, Tryz.ntmps114
 go_wp2_with fail
 refine KI.mono ?_
 rintro e w1 ⟨⟨r, rfl, h1, h2⟩, b1⟩
 have H2 : Hid (0 ≤ r ↔ x.key ∈ ys.map RV.key) := h2
 clear h2 KI
 go_wp2
 go_ret
 exact ⟨_, rfl, by rw [decide_eq_true_eq]; exact H2.out, b1⟩
set_option maxHeartbeats 800000 in
theorem hasPiece_any (sb lo lo' : Nat) (s : SV) (x : RV) (w : World) (hS : SlotB w lo' s) (hc : w.cell? ⟨sb, 0, none⟩ = some (.slice s.a s.xs.length s.c)) (hx : DataB w lo x) :
  Calls Tryz.prog 95 #[.pointer (some ⟨sb, 0, none⟩), x.p.val (.slice x.a x.zs.length x.c)] w fun e w' => ∃ b : Bool, e = .returned (.bool b) ∧ (b = true ↔ x.key ∈ s.xs.map RV.key) ∧ Below w.heap.size w w' := by
 obtain ⟨gL, ha, hR⟩ := hS.rl
 have hl := World.block_lt_of_cell? w _ hc
 rw [ha] at hc
 have KC : Hid (∀ W : World, Below w.heap.size w W → Boxed W w.heap.size x.p (.slice x.a x.zs.length x.c) → Calls Tryz.prog 114 #[.slice (some ⟨gL, 0, none⟩) s.xs.length s.c, .func (.func 115) #[] #[.pointer (some ⟨w.heap.size, 0, none⟩)]] W fun e w' => ∃ b : Bool, e = .returned (.bool b) ∧ (b = true ↔ x.key ∈ s.xs.map RV.key) ∧ Below W.heap.size W w') := fun W h hb => contains_any gL s.c w.heap.size lo lo' x s.xs W (hR.below h) (fun y hy => (hS.each y hy).below h) hb (hx.below h) hS.len
 clear hS hR hx ha
 unfold Pk.val
 go_enter Tryz.func95, Tryz.ntmps95
 go_wp2_with fail
 refine (KC.out _ (zBa _ _) (Boxed.new w x.p _ _)).mono ?_
 rintro e w1 ⟨b, rfl, h1, b1⟩
 have H1 : Hid (b = true ↔ x.key ∈ s.xs.map RV.key) := h1
 have B1 : Hid (Below w.heap.size w w1) := (zBa _ _).trans (b1.mono (by simp))
 clear h1 b1 KC
 go_wp2
 go_ret
 exact ⟨b, rfl, H1.out, B1.out⟩
end Go.Proofs.YtjbkgmbakjnlhaaGreatDoor
