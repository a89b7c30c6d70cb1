/- Whether a piece waits already: the program's way. -/
import Derived.Test.YtjbkgmbakjnlhabGreatDoorPartAp
import Derived.Test.YtjbkgmbakjnlhabGreatDoorDropB
namespace Go.Proofs.YtjbkgmbakjnlhabGreatDoor
set_option maxRecDepth 100000
open Go.RowKit
attribute [local go_sem ↓] Go.wp_at_zero Go.wp_at_succ

def pkEq (p q : Pk) : Bool := (p.src == q.src) && (p.dst == q.dst) && (p.kind == q.kind) && (p.id == q.id) && (p.hops == q.hops) && (p.whole == q.whole) && (p.off == q.off) && (p.more == q.more)
theorem pkEq_iff (p q : Pk) : pkEq p q = true ↔ p = q := by
  obtain ⟨a, b, c, d, e, f, g, h⟩ := p
  obtain ⟨a', b', c', d', e', f', g', h'⟩ := q
  simp [pkEq, and_assoc]
def sameB (x y : PB) : Bool := pkEq x.1 y.1 && decide (x.2 = y.2)
theorem sameB_iff (x y : PB) : sameB x y = true ↔ x = y := by
  obtain ⟨p, zs⟩ := x
  obtain ⟨q, ys⟩ := y
  simp only [sameB, Bool.and_eq_true, pkEq_iff, decide_eq_true_eq, Prod.mk.injEq]
theorem eqg95 (x y : Operand) (xs ys : Array Value) (w : World) : (eqGuard .eql 95 x y (.agg xs) (.agg ys)).run Tryz.prog w = .ok () w := run_eqGuard_agg w .eql 95 x y xs ys (by kernel_rfl)
set_option maxHeartbeats 1600000 in
theorem eql95 (s d k i h o n s' d' k' i' h' o' n' : Int) (x m x' m' : Bool) (w : World) : (binOp .eql 95 (.agg #[.int .i64 s, .int .i64 d, .int .i64 k, .int .i64 i, .int .i64 h, .bool x, .int .i64 o, .bool m, .int .i64 n]) (.agg #[.int .i64 s', .int .i64 d', .int .i64 k', .int .i64 i', .int .i64 h', .bool x', .int .i64 o', .bool m', .int .i64 n'])).run Tryz.prog w =
    .ok (.bool (pkEq ⟨s, d, k, i, h, x, o, m⟩ ⟨s', d', k', i', h', x', o', m'⟩ && (n == n'))) w := by
  rw [run_eql_struct, show (10000 : Nat) = 9999 + 1 from rfl, run_equalIn_agg w 9999 95 _ _ (by kernel_rfl) (by kernel_rfl)]
  go_simp
  unfold pkEq
  repeat' split
  all_goals simp [*]
theorem conv_data {w : World} {lo : Nat} {y : RV} (h : DataB w lo y) : (convert 25 9 (.slice y.a y.zs.length y.c)).run Tryz.prog w = .ok (.string (strOfNums y.zs)) w := by
  rcases h.at_ with ⟨h1, h2, h3⟩ | ⟨g, h1, _, h3, _⟩
  · rw [h1, h2, run_convert_bytes_nil (P := Tryz.prog) w 25 5 Tryz.underlying25 Tryz.underlying5 _ _ 9 Tryz.underlying9]
    rfl
  · rw [h1]
    refine run_convert_bytes_arg (P := Tryz.prog) w 25 5 Tryz.underlying25 Tryz.underlying5 g 0 _ _ y.zs rfl (fun k hk => ?_) 9 Tryz.underlying9
    rw [Nat.zero_add]
    refine h3.cell ?_
    rw [List.getElem?_map]
    simp [List.getD, List.getElem?_eq_getElem hk]
set_option maxHeartbeats 800000 in
theorem equal_data (x y : RV) (lo lo' : Nat) (w : World) (hx : DataB w lo x) (hy : DataB w lo' y) :
    Calls Tryz.prog 105 #[.slice x.a x.zs.length x.c, .slice y.a y.zs.length y.c] w fun e w' => e = .returned (.bool (decide (x.zs = y.zs))) ∧ w' = w := by
  have e1 := conv_data hx
  have e2 := conv_data hy
  have hb : ((strOfNums x.zs).toList == (strOfNums y.zs).toList) = decide (x.zs = y.zs) := by
    have h := bytes_inj hx.byte hy.byte
    by_cases e : x.zs = y.zs
    · rw [decide_eq_true e]; exact h.2 e
    · rw [decide_eq_false e]
      cases hh : ((strOfNums x.zs).toList == (strOfNums y.zs).toList)
      · rfl
      · exact absurd (h.1 hh) e
  clear hx hy
  go_enter Tryz.func105, Tryz.ntmps105
  go_wp2
  go_ret
  exact ⟨rfl, rfl⟩

set_option maxRecDepth 100000 in
set_option maxHeartbeats 12800000 in
theorem has1_any (x y : RV) (pb lo lo' : Nat) (w : World) (hB : Boxed w pb x.p (.slice x.a x.zs.length x.c)) (hx : DataB w lo x) (hy : DataB w lo' y) :
    Calls Tryz.prog 104 #[y.p.val (.slice y.a y.zs.length y.c), .pointer (some ⟨pb, 0, none⟩)] w fun e w' => e = .returned (.bool (sameB x.key y.key)) ∧ Below w.heap.size w w' := by
  obtain ⟨lt, c0, c1, c2, c3, c4, c5, c6, c7, c8⟩ := hB
  have K1 : Hid (∀ W : World, Calls Tryz.prog 52 #[.agg #[.int .i64 x.p.src, .int .i64 x.p.dst, .int .i64 x.p.kind, .int .i64 x.p.id, .int .i64 x.p.hops, .bool x.p.whole, .int .i64 x.p.off, .bool x.p.more, .slice x.a x.zs.length x.c]] W fun e w' => e = .returned (.agg #[.int .i64 x.p.src, .int .i64 x.p.dst, .int .i64 x.p.kind, .int .i64 x.p.id, .int .i64 x.p.hops, .bool x.p.whole, .int .i64 x.p.off, .bool x.p.more, .int .i64 x.zs.length]) ∧ Below W.heap.size W w') := fun W => by
    have h := keyed_any x.p x.a x.zs.length x.c W
    unfold Pk.val Pk.kval at h
    exact h
  have K2 : Hid (∀ W : World, Calls Tryz.prog 52 #[.agg #[.int .i64 y.p.src, .int .i64 y.p.dst, .int .i64 y.p.kind, .int .i64 y.p.id, .int .i64 y.p.hops, .bool y.p.whole, .int .i64 y.p.off, .bool y.p.more, .slice y.a y.zs.length y.c]] W fun e w' => e = .returned (.agg #[.int .i64 y.p.src, .int .i64 y.p.dst, .int .i64 y.p.kind, .int .i64 y.p.id, .int .i64 y.p.hops, .bool y.p.whole, .int .i64 y.p.off, .bool y.p.more, .int .i64 y.zs.length]) ∧ Below W.heap.size W w') := fun W => by
    have h := keyed_any y.p y.a y.zs.length y.c W
    unfold Pk.val Pk.kval at h
    exact h
  have KE : Hid (∀ W : World, Below w.heap.size w W → Calls Tryz.prog 105 #[.slice x.a x.zs.length x.c, .slice y.a y.zs.length y.c] W fun e w' => e = .returned (.bool (decide (x.zs = y.zs))) ∧ w' = W) := fun W h => equal_data x y lo lo' W (hx.below h) (hy.below h)
  clear hx hy
  have hg := eqg95
  have he := eql95
  unfold Pk.val
  cases hv : (pkEq x.p y.p && ((x.zs.length : Int) == (y.zs.length : Int)))
  · have HA : Hid (sameB x.key y.key = false) := (show sameB x.key y.key = false by
      cases hs : sameB x.key y.key
      · rfl
      · have e := (sameB_iff _ _).1 hs
        have e1 : x.p = y.p := congrArg Prod.fst e
        have e2 : x.zs = y.zs := congrArg Prod.snd e
        rw [(pkEq_iff _ _).2 e1, e2] at hv
        simp at hv)
    have hv' : (pkEq ⟨x.p.src, x.p.dst, x.p.kind, x.p.id, x.p.hops, x.p.whole, x.p.off, x.p.more⟩ ⟨y.p.src, y.p.dst, y.p.kind, y.p.id, y.p.hops, y.p.whole, y.p.off, y.p.more⟩ && ((x.zs.length : Int) == (y.zs.length : Int))) = false := hv
    go_enter Tryz.func104, Tryz.ntmps104
    go_wp2
    obtain ⟨W0, hW0⟩ : ∃ W0, W0 = w.alloc (.cells #[.int .i64 y.p.src, .int .i64 y.p.dst, .int .i64 y.p.kind, .int .i64 y.p.id, .int .i64 y.p.hops, .bool y.p.whole, .int .i64 y.p.off, .bool y.p.more, .slice y.a y.zs.length y.c] 33) := ⟨_, rfl⟩
    have hS0 : w.heap.size + 1 ≤ W0.heap.size ∧ W0.cell? ⟨pb, 0, none⟩ = some (.int .i64 x.p.src) ∧ W0.cell? ⟨pb, 1, none⟩ = some (.int .i64 x.p.dst) ∧ W0.cell? ⟨pb, 2, none⟩ = some (.int .i64 x.p.kind) ∧ W0.cell? ⟨pb, 3, none⟩ = some (.int .i64 x.p.id) ∧ W0.cell? ⟨pb, 4, none⟩ = some (.int .i64 x.p.hops) ∧ W0.cell? ⟨pb, 5, none⟩ = some (.bool x.p.whole) ∧ W0.cell? ⟨pb, 6, none⟩ = some (.int .i64 x.p.off) ∧ W0.cell? ⟨pb, 7, none⟩ = some (.bool x.p.more) ∧ W0.cell? ⟨pb, 8, none⟩ = some (.slice x.a x.zs.length x.c) ∧ W0.cell? ⟨w.heap.size, 0, none⟩ = some (.int .i64 y.p.src) ∧ W0.cell? ⟨w.heap.size, 1, none⟩ = some (.int .i64 y.p.dst) ∧ W0.cell? ⟨w.heap.size, 2, none⟩ = some (.int .i64 y.p.kind) ∧ W0.cell? ⟨w.heap.size, 3, none⟩ = some (.int .i64 y.p.id) ∧ W0.cell? ⟨w.heap.size, 4, none⟩ = some (.int .i64 y.p.hops) ∧ W0.cell? ⟨w.heap.size, 5, none⟩ = some (.bool y.p.whole) ∧ W0.cell? ⟨w.heap.size, 6, none⟩ = some (.int .i64 y.p.off) ∧ W0.cell? ⟨w.heap.size, 7, none⟩ = some (.bool y.p.more) ∧ W0.cell? ⟨w.heap.size, 8, none⟩ = some (.slice y.a y.zs.length y.c) := by
      subst hW0
      refine ⟨by simp, ?_, ?_, ?_, ?_, ?_, ?_, ?_, ?_, ?_, ?_, ?_, ?_, ?_, ?_, ?_, ?_, ?_, ?_⟩ <;> go_simp
    have b0 : Below w.heap.size w W0 := by subst hW0; exact Joins.below_alloc1 _ _
    rw [← hW0]
    clear hW0
    refine wp_region_held_drew (S := fun w' => w.heap.size + 1 ≤ w'.heap.size ∧ w'.cell? ⟨pb, 0, none⟩ = some (.int .i64 x.p.src) ∧ w'.cell? ⟨pb, 1, none⟩ = some (.int .i64 x.p.dst) ∧ w'.cell? ⟨pb, 2, none⟩ = some (.int .i64 x.p.kind) ∧ w'.cell? ⟨pb, 3, none⟩ = some (.int .i64 x.p.id) ∧ w'.cell? ⟨pb, 4, none⟩ = some (.int .i64 x.p.hops) ∧ w'.cell? ⟨pb, 5, none⟩ = some (.bool x.p.whole) ∧ w'.cell? ⟨pb, 6, none⟩ = some (.int .i64 x.p.off) ∧ w'.cell? ⟨pb, 7, none⟩ = some (.bool x.p.more) ∧ w'.cell? ⟨pb, 8, none⟩ = some (.slice x.a x.zs.length x.c) ∧ w'.cell? ⟨w.heap.size, 0, none⟩ = some (.int .i64 y.p.src) ∧ w'.cell? ⟨w.heap.size, 1, none⟩ = some (.int .i64 y.p.dst) ∧ w'.cell? ⟨w.heap.size, 2, none⟩ = some (.int .i64 y.p.kind) ∧ w'.cell? ⟨w.heap.size, 3, none⟩ = some (.int .i64 y.p.id) ∧ w'.cell? ⟨w.heap.size, 4, none⟩ = some (.int .i64 y.p.hops) ∧ w'.cell? ⟨w.heap.size, 5, none⟩ = some (.bool y.p.whole) ∧ w'.cell? ⟨w.heap.size, 6, none⟩ = some (.int .i64 y.p.off) ∧ w'.cell? ⟨w.heap.size, 7, none⟩ = some (.bool y.p.more) ∧ w'.cell? ⟨w.heap.size, 8, none⟩ = some (.slice y.a y.zs.length y.c)) (by kernel_rfl) hS0 (fun hH => ?_)
    clear c0 c1 c2 c3 c4 c5 c6 c7 c8
    obtain ⟨s0, x0, x1, x2, x3, x4, x5, x6, x7, x8, y0, y1, y2, y3, y4, y5, y6, y7, y8⟩ := hS0
    refine take_held 0 (some 4) (.agg #[.int .i64 x.p.src, .int .i64 x.p.dst, .int .i64 x.p.kind, .int .i64 x.p.id, .int .i64 x.p.hops, .bool x.p.whole, .int .i64 x.p.off, .bool x.p.more, .slice x.a x.zs.length x.c]) rfl rfl (by kernel_rfl) (by kernel_rfl) (by kernel_rfl) (fun _ _ _ h => h) (by rfl) (fun w hS => by obtain ⟨s0, x0, x1, x2, x3, x4, x5, x6, x7, x8, y0, y1, y2, y3, y4, y5, y6, y7, y8⟩ := hS; go_simp) hH ?_
    simp only [Act.put, List.setIfInBounds_toArray, List.set_cons_zero, List.set_cons_succ]
    refine take_held 2 (some 6) (.agg #[.int .i64 y.p.src, .int .i64 y.p.dst, .int .i64 y.p.kind, .int .i64 y.p.id, .int .i64 y.p.hops, .bool y.p.whole, .int .i64 y.p.off, .bool y.p.more, .slice y.a y.zs.length y.c]) rfl rfl (by kernel_rfl) (by kernel_rfl) (by kernel_rfl) (fun _ _ _ h => h) (by rfl) (fun w hS => by obtain ⟨s0, x0, x1, x2, x3, x4, x5, x6, x7, x8, y0, y1, y2, y3, y4, y5, y6, y7, y8⟩ := hS; go_simp) hH ?_
    simp only [Act.put, List.setIfInBounds_toArray, List.set_cons_zero, List.set_cons_succ]
    refine wpAnyH_ready (rs := [1]) (by kernel_rfl) (by simp) ?_
    refine AllReadyH.cons rfl (fun K hK => ?_) AllReadyH.nil
    go_simp
    refine (K1.out _).mono ?_
    rintro e w1 ⟨rfl, b1⟩
    have b1' : Below W0.heap.size W0 w1 := ((Below.refl _ W0).drew).trans b1
    have hc1 : ∀ b o, b < w.heap.size + 1 → w1.cell? ⟨b, o, none⟩ = W0.cell? ⟨b, o, none⟩ := fun b o h => b1'.cell (p := ⟨b, o, none⟩) (by simp only; omega)
    have s1 : w.heap.size + 1 ≤ w1.heap.size := Nat.le_trans s0 b1'.size
    go_simp
    refine hK.out _ _ ⟨s1, (hc1 pb 0 (by omega)).trans x0, (hc1 pb 1 (by omega)).trans x1, (hc1 pb 2 (by omega)).trans x2, (hc1 pb 3 (by omega)).trans x3, (hc1 pb 4 (by omega)).trans x4, (hc1 pb 5 (by omega)).trans x5, (hc1 pb 6 (by omega)).trans x6, (hc1 pb 7 (by omega)).trans x7, (hc1 pb 8 (by omega)).trans x8, (hc1 w.heap.size 0 (by omega)).trans y0, (hc1 w.heap.size 1 (by omega)).trans y1, (hc1 w.heap.size 2 (by omega)).trans y2, (hc1 w.heap.size 3 (by omega)).trans y3, (hc1 w.heap.size 4 (by omega)).trans y4, (hc1 w.heap.size 5 (by omega)).trans y5, (hc1 w.heap.size 6 (by omega)).trans y6, (hc1 w.heap.size 7 (by omega)).trans y7, (hc1 w.heap.size 8 (by omega)).trans y8⟩ (fun hH => ?_)
    clear hK K b1
    refine wpAnyH_ready (rs := [3]) (by kernel_rfl) (by simp) ?_
    refine AllReadyH.cons rfl (fun K hK => ?_) AllReadyH.nil
    go_simp
    refine (K2.out _).mono ?_
    rintro e w2 ⟨rfl, b2⟩
    have b2' : Below W0.heap.size W0 w2 := b1'.trans (b2.mono b1'.size)
    have hc2 : ∀ b o, b < w.heap.size + 1 → w2.cell? ⟨b, o, none⟩ = W0.cell? ⟨b, o, none⟩ := fun b o h => b2'.cell (p := ⟨b, o, none⟩) (by simp only; omega)
    have s2 : w.heap.size + 1 ≤ w2.heap.size := Nat.le_trans s0 b2'.size
    go_simp
    refine hK.out _ _ ⟨s2, (hc2 pb 0 (by omega)).trans x0, (hc2 pb 1 (by omega)).trans x1, (hc2 pb 2 (by omega)).trans x2, (hc2 pb 3 (by omega)).trans x3, (hc2 pb 4 (by omega)).trans x4, (hc2 pb 5 (by omega)).trans x5, (hc2 pb 6 (by omega)).trans x6, (hc2 pb 7 (by omega)).trans x7, (hc2 pb 8 (by omega)).trans x8, (hc2 w.heap.size 0 (by omega)).trans y0, (hc2 w.heap.size 1 (by omega)).trans y1, (hc2 w.heap.size 2 (by omega)).trans y2, (hc2 w.heap.size 3 (by omega)).trans y3, (hc2 w.heap.size 4 (by omega)).trans y4, (hc2 w.heap.size 5 (by omega)).trans y5, (hc2 w.heap.size 6 (by omega)).trans y6, (hc2 w.heap.size 7 (by omega)).trans y7, (hc2 w.heap.size 8 (by omega)).trans y8⟩ (fun hH => ?_)
    clear hK K b2
    have B2 : Below w.heap.size w w2 := b0.trans (b2'.mono b0.size)
    refine take_held 4 (some 8) (.bool false) rfl rfl (by kernel_rfl) (by kernel_rfl) (by kernel_rfl) (fun _ _ _ h => h) (by rfl) (fun w hS => by obtain ⟨s0, x0, x1, x2, x3, x4, x5, x6, x7, x8, y0, y1, y2, y3, y4, y5, y6, y7, y8⟩ := hS; go_simp; first | done | (rw [hv']) | (simp [hv'])) hH ?_
    simp only [Act.put, List.setIfInBounds_toArray, List.set_cons_zero, List.set_cons_succ]
    refine take_held 5 (some 9) (.bool false) rfl rfl (by kernel_rfl) (by kernel_rfl) (by kernel_rfl) (fun _ _ _ h => h) (by rfl) (fun w hS => by obtain ⟨s0, x0, x1, x2, x3, x4, x5, x6, x7, x8, y0, y1, y2, y3, y4, y5, y6, y7, y8⟩ := hS; go_simp) hH ?_
    simp only [Act.put, List.setIfInBounds_toArray, List.set_cons_zero, List.set_cons_succ]
    refine take_skipH 6 (some 10) rfl rfl (by kernel_rfl) (by kernel_rfl) (by kernel_rfl) (fun _ _ _ h => h) (by rfl) hH ?_
    simp only [Act.put, List.setIfInBounds_toArray, List.set_cons_zero, List.set_cons_succ]
    refine take_skipH 7 (some 11) rfl rfl (by kernel_rfl) (by kernel_rfl) (by kernel_rfl) (fun _ _ _ h => h) (by rfl) hH ?_
    simp only [Act.put, List.setIfInBounds_toArray, List.set_cons_zero, List.set_cons_succ]
    refine take_skipH 8 (some 12) rfl rfl (by kernel_rfl) (by kernel_rfl) (by kernel_rfl) (fun _ _ _ h => h) (by rfl) hH ?_
    simp only [Act.put, List.setIfInBounds_toArray, List.set_cons_zero, List.set_cons_succ]
    refine take_skipH 9 (some 13) rfl rfl (by kernel_rfl) (by kernel_rfl) (by kernel_rfl) (fun _ _ _ h => h) (by rfl) hH ?_
    simp only [Act.put, List.setIfInBounds_toArray, List.set_cons_zero, List.set_cons_succ]
    refine take_skipH 10 (some 14) rfl rfl (by kernel_rfl) (by kernel_rfl) (by kernel_rfl) (fun _ _ _ h => h) (by rfl) hH ?_
    simp only [Act.put, List.setIfInBounds_toArray, List.set_cons_zero, List.set_cons_succ]
    refine take_held 11 (some 15) (.bool false) rfl rfl (by kernel_rfl) (by kernel_rfl) (by kernel_rfl) (fun _ _ _ h => h) (by rfl) (fun w hS => by obtain ⟨s0, x0, x1, x2, x3, x4, x5, x6, x7, x8, y0, y1, y2, y3, y4, y5, y6, y7, y8⟩ := hS; go_simp) hH ?_
    simp only [Act.put, List.setIfInBounds_toArray, List.set_cons_zero, List.set_cons_succ]
    refine take_held 12 (some 3) (.bool false) rfl rfl (by kernel_rfl) (by kernel_rfl) (by kernel_rfl) (fun _ _ _ h => h) (by rfl) (fun w hS => by obtain ⟨s0, x0, x1, x2, x3, x4, x5, x6, x7, x8, y0, y1, y2, y3, y4, y5, y6, y7, y8⟩ := hS; go_simp) hH ?_
    simp only [Act.put, List.setIfInBounds_toArray, List.set_cons_zero, List.set_cons_succ]
    refine wpAnyH_done (by kernel_rfl) ?_ _
    clear hH
    go_wp2
    go_ret
    exact ⟨ret_bool HA.out.symm, B2⟩
  · have HA : Hid (sameB x.key y.key = decide (x.zs = y.zs)) := (show sameB x.key y.key = _ by
      simp only [Bool.and_eq_true] at hv
      unfold sameB RV.key
      rw [hv.1]
      simp)
    have hv' : (pkEq ⟨x.p.src, x.p.dst, x.p.kind, x.p.id, x.p.hops, x.p.whole, x.p.off, x.p.more⟩ ⟨y.p.src, y.p.dst, y.p.kind, y.p.id, y.p.hops, y.p.whole, y.p.off, y.p.more⟩ && ((x.zs.length : Int) == (y.zs.length : Int))) = true := hv
    go_enter Tryz.func104, Tryz.ntmps104
    go_wp2
    obtain ⟨W0, hW0⟩ : ∃ W0, W0 = w.alloc (.cells #[.int .i64 y.p.src, .int .i64 y.p.dst, .int .i64 y.p.kind, .int .i64 y.p.id, .int .i64 y.p.hops, .bool y.p.whole, .int .i64 y.p.off, .bool y.p.more, .slice y.a y.zs.length y.c] 33) := ⟨_, rfl⟩
    have hS0 : w.heap.size + 1 ≤ W0.heap.size ∧ W0.cell? ⟨pb, 0, none⟩ = some (.int .i64 x.p.src) ∧ W0.cell? ⟨pb, 1, none⟩ = some (.int .i64 x.p.dst) ∧ W0.cell? ⟨pb, 2, none⟩ = some (.int .i64 x.p.kind) ∧ W0.cell? ⟨pb, 3, none⟩ = some (.int .i64 x.p.id) ∧ W0.cell? ⟨pb, 4, none⟩ = some (.int .i64 x.p.hops) ∧ W0.cell? ⟨pb, 5, none⟩ = some (.bool x.p.whole) ∧ W0.cell? ⟨pb, 6, none⟩ = some (.int .i64 x.p.off) ∧ W0.cell? ⟨pb, 7, none⟩ = some (.bool x.p.more) ∧ W0.cell? ⟨pb, 8, none⟩ = some (.slice x.a x.zs.length x.c) ∧ W0.cell? ⟨w.heap.size, 0, none⟩ = some (.int .i64 y.p.src) ∧ W0.cell? ⟨w.heap.size, 1, none⟩ = some (.int .i64 y.p.dst) ∧ W0.cell? ⟨w.heap.size, 2, none⟩ = some (.int .i64 y.p.kind) ∧ W0.cell? ⟨w.heap.size, 3, none⟩ = some (.int .i64 y.p.id) ∧ W0.cell? ⟨w.heap.size, 4, none⟩ = some (.int .i64 y.p.hops) ∧ W0.cell? ⟨w.heap.size, 5, none⟩ = some (.bool y.p.whole) ∧ W0.cell? ⟨w.heap.size, 6, none⟩ = some (.int .i64 y.p.off) ∧ W0.cell? ⟨w.heap.size, 7, none⟩ = some (.bool y.p.more) ∧ W0.cell? ⟨w.heap.size, 8, none⟩ = some (.slice y.a y.zs.length y.c) := by
      subst hW0
      refine ⟨by simp, ?_, ?_, ?_, ?_, ?_, ?_, ?_, ?_, ?_, ?_, ?_, ?_, ?_, ?_, ?_, ?_, ?_, ?_⟩ <;> go_simp
    have b0 : Below w.heap.size w W0 := by subst hW0; exact Joins.below_alloc1 _ _
    rw [← hW0]
    clear hW0
    refine wp_region_held_drew (S := fun w' => w.heap.size + 1 ≤ w'.heap.size ∧ w'.cell? ⟨pb, 0, none⟩ = some (.int .i64 x.p.src) ∧ w'.cell? ⟨pb, 1, none⟩ = some (.int .i64 x.p.dst) ∧ w'.cell? ⟨pb, 2, none⟩ = some (.int .i64 x.p.kind) ∧ w'.cell? ⟨pb, 3, none⟩ = some (.int .i64 x.p.id) ∧ w'.cell? ⟨pb, 4, none⟩ = some (.int .i64 x.p.hops) ∧ w'.cell? ⟨pb, 5, none⟩ = some (.bool x.p.whole) ∧ w'.cell? ⟨pb, 6, none⟩ = some (.int .i64 x.p.off) ∧ w'.cell? ⟨pb, 7, none⟩ = some (.bool x.p.more) ∧ w'.cell? ⟨pb, 8, none⟩ = some (.slice x.a x.zs.length x.c) ∧ w'.cell? ⟨w.heap.size, 0, none⟩ = some (.int .i64 y.p.src) ∧ w'.cell? ⟨w.heap.size, 1, none⟩ = some (.int .i64 y.p.dst) ∧ w'.cell? ⟨w.heap.size, 2, none⟩ = some (.int .i64 y.p.kind) ∧ w'.cell? ⟨w.heap.size, 3, none⟩ = some (.int .i64 y.p.id) ∧ w'.cell? ⟨w.heap.size, 4, none⟩ = some (.int .i64 y.p.hops) ∧ w'.cell? ⟨w.heap.size, 5, none⟩ = some (.bool y.p.whole) ∧ w'.cell? ⟨w.heap.size, 6, none⟩ = some (.int .i64 y.p.off) ∧ w'.cell? ⟨w.heap.size, 7, none⟩ = some (.bool y.p.more) ∧ w'.cell? ⟨w.heap.size, 8, none⟩ = some (.slice y.a y.zs.length y.c)) (by kernel_rfl) hS0 (fun hH => ?_)
    clear c0 c1 c2 c3 c4 c5 c6 c7 c8
    obtain ⟨s0, x0, x1, x2, x3, x4, x5, x6, x7, x8, y0, y1, y2, y3, y4, y5, y6, y7, y8⟩ := hS0
    refine take_held 0 (some 4) (.agg #[.int .i64 x.p.src, .int .i64 x.p.dst, .int .i64 x.p.kind, .int .i64 x.p.id, .int .i64 x.p.hops, .bool x.p.whole, .int .i64 x.p.off, .bool x.p.more, .slice x.a x.zs.length x.c]) rfl rfl (by kernel_rfl) (by kernel_rfl) (by kernel_rfl) (fun _ _ _ h => h) (by rfl) (fun w hS => by obtain ⟨s0, x0, x1, x2, x3, x4, x5, x6, x7, x8, y0, y1, y2, y3, y4, y5, y6, y7, y8⟩ := hS; go_simp) hH ?_
    simp only [Act.put, List.setIfInBounds_toArray, List.set_cons_zero, List.set_cons_succ]
    refine take_held 2 (some 6) (.agg #[.int .i64 y.p.src, .int .i64 y.p.dst, .int .i64 y.p.kind, .int .i64 y.p.id, .int .i64 y.p.hops, .bool y.p.whole, .int .i64 y.p.off, .bool y.p.more, .slice y.a y.zs.length y.c]) rfl rfl (by kernel_rfl) (by kernel_rfl) (by kernel_rfl) (fun _ _ _ h => h) (by rfl) (fun w hS => by obtain ⟨s0, x0, x1, x2, x3, x4, x5, x6, x7, x8, y0, y1, y2, y3, y4, y5, y6, y7, y8⟩ := hS; go_simp) hH ?_
    simp only [Act.put, List.setIfInBounds_toArray, List.set_cons_zero, List.set_cons_succ]
    refine wpAnyH_ready (rs := [1]) (by kernel_rfl) (by simp) ?_
    refine AllReadyH.cons rfl (fun K hK => ?_) AllReadyH.nil
    go_simp
    refine (K1.out _).mono ?_
    rintro e w1 ⟨rfl, b1⟩
    have b1' : Below W0.heap.size W0 w1 := ((Below.refl _ W0).drew).trans b1
    have hc1 : ∀ b o, b < w.heap.size + 1 → w1.cell? ⟨b, o, none⟩ = W0.cell? ⟨b, o, none⟩ := fun b o h => b1'.cell (p := ⟨b, o, none⟩) (by simp only; omega)
    have s1 : w.heap.size + 1 ≤ w1.heap.size := Nat.le_trans s0 b1'.size
    go_simp
    refine hK.out _ _ ⟨s1, (hc1 pb 0 (by omega)).trans x0, (hc1 pb 1 (by omega)).trans x1, (hc1 pb 2 (by omega)).trans x2, (hc1 pb 3 (by omega)).trans x3, (hc1 pb 4 (by omega)).trans x4, (hc1 pb 5 (by omega)).trans x5, (hc1 pb 6 (by omega)).trans x6, (hc1 pb 7 (by omega)).trans x7, (hc1 pb 8 (by omega)).trans x8, (hc1 w.heap.size 0 (by omega)).trans y0, (hc1 w.heap.size 1 (by omega)).trans y1, (hc1 w.heap.size 2 (by omega)).trans y2, (hc1 w.heap.size 3 (by omega)).trans y3, (hc1 w.heap.size 4 (by omega)).trans y4, (hc1 w.heap.size 5 (by omega)).trans y5, (hc1 w.heap.size 6 (by omega)).trans y6, (hc1 w.heap.size 7 (by omega)).trans y7, (hc1 w.heap.size 8 (by omega)).trans y8⟩ (fun hH => ?_)
    clear hK K b1
    refine wpAnyH_ready (rs := [3]) (by kernel_rfl) (by simp) ?_
    refine AllReadyH.cons rfl (fun K hK => ?_) AllReadyH.nil
    go_simp
    refine (K2.out _).mono ?_
    rintro e w2 ⟨rfl, b2⟩
    have b2' : Below W0.heap.size W0 w2 := b1'.trans (b2.mono b1'.size)
    have hc2 : ∀ b o, b < w.heap.size + 1 → w2.cell? ⟨b, o, none⟩ = W0.cell? ⟨b, o, none⟩ := fun b o h => b2'.cell (p := ⟨b, o, none⟩) (by simp only; omega)
    have s2 : w.heap.size + 1 ≤ w2.heap.size := Nat.le_trans s0 b2'.size
    go_simp
    refine hK.out _ _ ⟨s2, (hc2 pb 0 (by omega)).trans x0, (hc2 pb 1 (by omega)).trans x1, (hc2 pb 2 (by omega)).trans x2, (hc2 pb 3 (by omega)).trans x3, (hc2 pb 4 (by omega)).trans x4, (hc2 pb 5 (by omega)).trans x5, (hc2 pb 6 (by omega)).trans x6, (hc2 pb 7 (by omega)).trans x7, (hc2 pb 8 (by omega)).trans x8, (hc2 w.heap.size 0 (by omega)).trans y0, (hc2 w.heap.size 1 (by omega)).trans y1, (hc2 w.heap.size 2 (by omega)).trans y2, (hc2 w.heap.size 3 (by omega)).trans y3, (hc2 w.heap.size 4 (by omega)).trans y4, (hc2 w.heap.size 5 (by omega)).trans y5, (hc2 w.heap.size 6 (by omega)).trans y6, (hc2 w.heap.size 7 (by omega)).trans y7, (hc2 w.heap.size 8 (by omega)).trans y8⟩ (fun hH => ?_)
    clear hK K b2
    have B2 : Below w.heap.size w w2 := b0.trans (b2'.mono b0.size)
    refine take_held 4 (some 8) (.bool true) rfl rfl (by kernel_rfl) (by kernel_rfl) (by kernel_rfl) (fun _ _ _ h => h) (by rfl) (fun w hS => by obtain ⟨s0, x0, x1, x2, x3, x4, x5, x6, x7, x8, y0, y1, y2, y3, y4, y5, y6, y7, y8⟩ := hS; go_simp; first | done | (rw [hv']) | (simp [hv'])) hH ?_
    simp only [Act.put, List.setIfInBounds_toArray, List.set_cons_zero, List.set_cons_succ]
    refine take_held 5 (some 9) (.bool true) rfl rfl (by kernel_rfl) (by kernel_rfl) (by kernel_rfl) (fun _ _ _ h => h) (by rfl) (fun w hS => by obtain ⟨s0, x0, x1, x2, x3, x4, x5, x6, x7, x8, y0, y1, y2, y3, y4, y5, y6, y7, y8⟩ := hS; go_simp) hH ?_
    simp only [Act.put, List.setIfInBounds_toArray, List.set_cons_zero, List.set_cons_succ]
    refine take_held 6 (some 10) (.pointer (some ⟨pb, 8, none⟩)) rfl rfl (by kernel_rfl) (by kernel_rfl) (by kernel_rfl) (fun _ _ _ h => h) (by rfl) (fun w hS => by obtain ⟨s0, x0, x1, x2, x3, x4, x5, x6, x7, x8, y0, y1, y2, y3, y4, y5, y6, y7, y8⟩ := hS; go_simp) hH ?_
    simp only [Act.put, List.setIfInBounds_toArray, List.set_cons_zero, List.set_cons_succ]
    refine take_held 7 (some 11) (.slice x.a x.zs.length x.c) rfl rfl (by kernel_rfl) (by kernel_rfl) (by kernel_rfl) (fun _ _ _ h => h) (by rfl) (fun w hS => by obtain ⟨s0, x0, x1, x2, x3, x4, x5, x6, x7, x8, y0, y1, y2, y3, y4, y5, y6, y7, y8⟩ := hS; go_simp) hH ?_
    simp only [Act.put, List.setIfInBounds_toArray, List.set_cons_zero, List.set_cons_succ]
    refine take_held 8 (some 12) (.pointer (some ⟨w.heap.size, 8, none⟩)) rfl rfl (by kernel_rfl) (by kernel_rfl) (by kernel_rfl) (fun _ _ _ h => h) (by rfl) (fun w hS => by obtain ⟨s0, x0, x1, x2, x3, x4, x5, x6, x7, x8, y0, y1, y2, y3, y4, y5, y6, y7, y8⟩ := hS; go_simp) hH ?_
    simp only [Act.put, List.setIfInBounds_toArray, List.set_cons_zero, List.set_cons_succ]
    refine take_held 9 (some 13) (.slice y.a y.zs.length y.c) rfl rfl (by kernel_rfl) (by kernel_rfl) (by kernel_rfl) (fun _ _ _ h => h) (by rfl) (fun w hS => by obtain ⟨s0, x0, x1, x2, x3, x4, x5, x6, x7, x8, y0, y1, y2, y3, y4, y5, y6, y7, y8⟩ := hS; go_simp) hH ?_
    simp only [Act.put, List.setIfInBounds_toArray, List.set_cons_zero, List.set_cons_succ]
    refine wpAnyH_ready (rs := [10]) (by kernel_rfl) (by simp) ?_
    refine AllReadyH.cons rfl (fun K hK => ?_) AllReadyH.nil
    go_simp
    refine (KE.out _ B2).mono ?_
    rintro e w3 ⟨rfl, rfl⟩
    go_simp
    refine hK.out _ _ hH (fun hH => ?_)
    clear hK K
    refine take_held 11 (some 15) (.bool (decide (x.zs = y.zs))) rfl rfl (by kernel_rfl) (by kernel_rfl) (by kernel_rfl) (fun _ _ _ h => h) (by rfl) (fun w hS => by obtain ⟨s0, x0, x1, x2, x3, x4, x5, x6, x7, x8, y0, y1, y2, y3, y4, y5, y6, y7, y8⟩ := hS; go_simp) hH ?_
    simp only [Act.put, List.setIfInBounds_toArray, List.set_cons_zero, List.set_cons_succ]
    refine take_held 12 (some 3) (.bool (decide (x.zs = y.zs))) rfl rfl (by kernel_rfl) (by kernel_rfl) (by kernel_rfl) (fun _ _ _ h => h) (by rfl) (fun w hS => by obtain ⟨s0, x0, x1, x2, x3, x4, x5, x6, x7, x8, y0, y1, y2, y3, y4, y5, y6, y7, y8⟩ := hS; go_simp) hH ?_
    simp only [Act.put, List.setIfInBounds_toArray, List.set_cons_zero, List.set_cons_succ]
    refine wpAnyH_done (by kernel_rfl) ?_ _
    clear hH
    go_wp2
    go_ret
    exact ⟨ret_bool HA.out.symm, B2⟩
end Go.Proofs.YtjbkgmbakjnlhabGreatDoor
