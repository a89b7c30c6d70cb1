import Derived.Test.YtjbkgmbakjnlhaaGreatDoorPartAa
import Derived.Test.YtjbkgmbakjnlhaaGreatDoorPartAv
import Derived.Test.YtjbkgmbakjnlhaaGreatDoorPartAj
import Derived.Test.YtjbkgmbakjnlhaaGreatDoorPartAu
import Derived.Test.YtjbkgmbakjnlhaaGreatDoorPartAb
import Derived.Deep.RegionHeld3
import Derived.Test.YtjbkgmbakjnlhaaGreatDoorPartAl
namespace Go.Proofs.YtjbkgmbakjnlhaaGreatDoor
set_option maxRecDepth 100000
open Go.RowKit
set_option maxHeartbeats 25600000 in
theorem lw9 {Q : Exit → Act → World → Prop} (hP : PanicOk Q) {gl n cl bp bb gg nG cG k l : Nat} {wr : World} {nw : Int} {ob : Option Addr} {cb : Nat} {ts : List SV} {x : RV} {v0 v1 v2 v8 v9 v10  : Value} {f : Nat → Value} (hki : (k : Int) < (n : Int)) (HBC : Hid (∀ u, Below wr.heap.size wr u → u.cell? ⟨bb, 0, none⟩ = some (.int .i64 nw) ∧ u.cell? ⟨bb, 1, none⟩ = some (.slice ob l cb))) (HXC : Hid (∀ u, Below wr.heap.size wr u → X9 u gl (k * 9) x)) (KC : Hid (∀ u, Below wr.heap.size wr u → Calls Tryz.prog 10 #[.agg #[.int .i64 nw, .slice ob l cb], .agg #[.int .i64 x.p.src, .int .i64 x.p.dst, .int .i64 x.p.kind, .int .i64 x.p.id, .int .i64 x.p.hops, .bool x.p.whole, .int .i64 x.p.off, .bool x.p.more, .slice x.a x.zs.length x.c]] u (fun e u' => ∃ (now' : Int) (oa' : Option Addr) (cl' : Nat) (us : List SV) (y : RV) (c : Int), e = .returned (.tuple #[.agg #[.int .i64 now', .slice oa' us.length cl'], .agg #[.int .i64 y.p.src, .int .i64 y.p.dst, .int .i64 y.p.kind, .int .i64 y.p.id, .int .i64 y.p.hops, .bool y.p.whole, .int .i64 y.p.off, .bool y.p.more, .slice y.a y.zs.length y.c], .int .i64 c]) ∧ TakeP nw ts x.key now' (us.map SV.key) y.key c ∧ us.length ≤ 4 ∧ us.length ≤ cl' ∧ cl' ≤ 9223372036854775807 ∧ BT u' u.heap.size oa' us ∧ DataB u' u.heap.size y ∧ Below u.heap.size u u'))) (hQ : Hid (∀ f wx zA zB now1 oa1 cl1 m us y c1', m ≤ 4 → m ≤ cl1 → cl1 ≤ 9223372036854775807 → us.length = m → TakeP nw ts x.key now1 (us.map SV.key) y.key c1' → TkD wr wx zA zB now1 oa1 m cl1 us y → Q .normal (frL v0 v1 v2 (.pointer (some ⟨bp, 0, none⟩)) (.slice (some ⟨gl, 0, none⟩) n cl) (.pointer (some ⟨bb, 0, none⟩)) (.slice (some ⟨gg, 0, none⟩) nG cG) (.int .i64 k) (.pointer (some ⟨zA, 0, none⟩)) (.pointer (some ⟨zB, 0, none⟩)) (.int .i64 c1') f) wx)) : (Cd.fst (Cd.inn (Cd.fst (Cd.snd (Cd.inn (Cd.inn (Cd.snd (Cd.fst (Cd.snd (Cd.snd (Cd.snd (Cd.snd (Cd.snd (Option.getD Tryz.f4.body .skip)))))))))))))).wp Tryz.prog Q (frL v0 v1 v2 (.pointer (some ⟨bp, 0, none⟩)) (.slice (some ⟨gl, 0, none⟩) n cl) (.pointer (some ⟨bb, 0, none⟩)) (.slice (some ⟨gg, 0, none⟩) nG cG) (.int .i64 k) v8 v9 v10 f) wr := by
 refine wp_is (c' := .region _ _ _) rfl ?_
 unfold frL
 refine wp_region_held_drew (S := fun u => Below wr.heap.size wr u) (by kernel_rfl) (draw1 _) (fun hH => ?_)
 refine zTq hP 0 28 (.agg #[.int .i64 nw, .slice ob l cb]) rfl (fun w hS => by obtain ⟨s0, s1⟩ := HBC.out _ hS; go_simp) hH ?_; simp only [Act.put, zX, zY, zZ]
 refine zTq hP 1 29 (.slice (some ⟨gl, 0, none⟩) n cl) rfl (fun w hS => by go_simp) hH ?_; simp only [Act.put, zX, zY, zZ]
 refine zTq hP 2 30 (.int .i64 k) rfl (fun w hS => by go_simp) hH ?_; simp only [Act.put, zX, zY, zZ]
 refine zTq hP 3 31 (.pointer (some ⟨gl, k * 9, none⟩)) rfl (fun w hS => by go_simp) hH ?_; simp only [Act.put, zX, zY, zZ]
 refine zTq hP 4 32 (.agg #[.int .i64 x.p.src, .int .i64 x.p.dst, .int .i64 x.p.kind, .int .i64 x.p.id, .int .i64 x.p.hops, .bool x.p.whole, .int .i64 x.p.off, .bool x.p.more, .slice x.a x.zs.length x.c]) rfl (fun w hS => by obtain ⟨y0, y1, y2, y3, y4, y5, y6, y7, y8⟩ := HXC.out _ hS; go_simp) hH ?_; simp only [Act.put, zX, zY, zZ]
 refine call1_region (W := wr) (cA := #[.int .i64 0, .slice none 0 0]) (cB := #[.int .i64 0, .int .i64 0, .int .i64 0, .int .i64 0, .int .i64 0, .bool false, .int .i64 0, .bool false, .slice none 0 0]) (tA := 27) (tB := 29) (iA := 10) (iB := 11) (dA := 8) (dB := 9) (i1 := 5) (d1 := 33) (sx := 28) (sy := 32) (f1 := 10) (vx := .agg #[.int .i64 nw, .slice ob l cb]) (vy := .agg #[.int .i64 x.p.src, .int .i64 x.p.dst, .int .i64 x.p.kind, .int .i64 x.p.id, .int .i64 x.p.hops, .bool x.p.whole, .int .i64 x.p.off, .bool x.p.more, .slice x.a x.zs.length x.c]) (GOOD := fun u r u' => ∃ (now1 : Int) (oa1 : Option Addr) (cl1 : Nat) (us : List SV) (y : RV) (c1' : Int), r = .tuple #[.agg #[.int .i64 now1, .slice oa1 us.length cl1], .agg #[.int .i64 y.p.src, .int .i64 y.p.dst, .int .i64 y.p.kind, .int .i64 y.p.id, .int .i64 y.p.hops, .bool y.p.whole, .int .i64 y.p.off, .bool y.p.more, .slice y.a y.zs.length y.c], .int .i64 c1'] ∧ TakeP nw ts x.key now1 (us.map SV.key) y.key c1' ∧ us.length ≤ 4 ∧ us.length ≤ cl1 ∧ cl1 ≤ 9223372036854775807 ∧ BT u' u.heap.size oa1 us ∧ DataB u' u.heap.size y) (fun _ h => h) _ (fun a r => ((((a.put (some 33) r).put (some 27) r).put (some 34) (ext r 0)).put (some 35) (ext r 1)).put (some 36) (ext r 2)) (fun bA bB => #[true, true, true, true, true, false, false, false, false, false, bA, bB, false, false, false]) (fun bA bB => #[true, true, true, true, true, true, false, false, false, false, bA, bB, false, false, false]) (fun bA bB => #[true, true, true, true, true, true, true, true, true, true, bA, bB, false, false, false]) ?g1 ?g2 (by kernel_rfl) (by kernel_rfl) (by kernel_rfl) (by kernel_rfl) (by kernel_rfl) (by kernel_rfl) (by kernel_rfl) (by decide) (by decide) (by decide) (by decide) (by decide) (by decide) (by decide) rfl rfl ?g3 ?g4 ?g5 ?g6 3 ?g7 ?g8 _ (draw1 _) _ rfl _ rfl
 case g1 => intro bA bB; exact ⟨by kernel_rfl, by kernel_rfl⟩
 case g2 => intro bA bB; exact ⟨by kernel_rfl, by kernel_rfl, by kernel_rfl⟩
 case g3 =>
  intro a w K h1 h2 h
  simp only [Act.eval, Array.getD_eq_getD_getElem?] at h1 h2
  exact wpOp_call rfl rfl 33 rfl 10 #[.agg #[.int .i64 nw, .slice ob l cb], .agg #[.int .i64 x.p.src, .int .i64 x.p.dst, .int .i64 x.p.kind, .int .i64 x.p.id, .int .i64 x.p.hops, .bool x.p.whole, .int .i64 x.p.off, .bool x.p.more, .slice x.a x.zs.length x.c]] (by go_simp) h
 case g4 => intro a w K h; exact wpOp_made rfl rfl 8 rfl (by go_simp) h
 case g5 => intro a w K h; exact wpOp_made rfl rfl 9 rfl (by go_simp) h
 case g6 =>
  intro u hu
  refine (KC.out u hu).mono ?_
  rintro e w' ⟨now1, oa1, cl1, us, y, c1', rfl, h1, h2, h3, h4, h5, h6, h7⟩
  exact ⟨_, rfl, ⟨now1, oa1, cl1, us, y, c1', rfl, h1, h2, h3, h4, h5, h6⟩, h7⟩
 case g7 =>
  intro u0 r u' bA bB zA zB u f hg hb h
  obtain ⟨now1, oa1, cl1, us, y, c1', rfl, -⟩ := hg
  refine bx_take 6 27 (.tuple #[.agg #[.int .i64 now1, .slice oa1 us.length cl1], .agg #[.int .i64 y.p.src, .int .i64 y.p.dst, .int .i64 y.p.kind, .int .i64 y.p.id, .int .i64 y.p.hops, .bool y.p.whole, .int .i64 y.p.off, .bool y.p.more, .slice y.a y.zs.length y.c], .int .i64 c1']) rfl rfl rfl (by kernel_rfl) (by cases bA <;> cases bB <;> kernel_rfl) (fun _ _ _ h => hP _ _ _ _ _ h) (by decide) (by decide) (fun w => run_move rfl ((bx2_eval (by decide) (by decide)).trans (by rfl))) hb ?_
  refine bx_take 7 34 (.agg #[.int .i64 now1, .slice oa1 us.length cl1]) rfl rfl rfl (by kernel_rfl) (by cases bA <;> cases bB <;> kernel_rfl) (fun _ _ _ h => hP _ _ _ _ _ h) (by decide) (by decide) (fun w => run_extract (i := 0) rfl ((bx2_eval (by decide) (by decide)).trans (by rfl)) (by rfl)) hb ?_
  refine bx_take 8 35 (.agg #[.int .i64 y.p.src, .int .i64 y.p.dst, .int .i64 y.p.kind, .int .i64 y.p.id, .int .i64 y.p.hops, .bool y.p.whole, .int .i64 y.p.off, .bool y.p.more, .slice y.a y.zs.length y.c]) rfl rfl rfl (by kernel_rfl) (by cases bA <;> cases bB <;> kernel_rfl) (fun _ _ _ h => hP _ _ _ _ _ h) (by decide) (by decide) (fun w => run_extract (i := 1) rfl ((bx2_eval (by decide) (by decide)).trans (by rfl)) (by rfl)) hb ?_
  refine bx_take 9 36 (.int .i64 c1') rfl rfl rfl (by kernel_rfl) (by cases bA <;> cases bB <;> kernel_rfl) (fun _ _ _ h => hP _ _ _ _ _ h) (by decide) (by decide) (fun w => run_extract (i := 2) rfl ((bx2_eval (by decide) (by decide)).trans (by rfl)) (by rfl)) hb ?_
  exact h
 case g8 =>
  intro u0 r u' zA zB u h0 h1 hg sB h2 pA pB
  obtain ⟨now1, oa1, cl1, us, y, c1', rfl, hTP, hu, hv', hx', T, D⟩ := hg
  obtain ⟨gA, lA⟩ := sB.boxA rfl
  obtain ⟨gB, lB⟩ := sB.boxB rfl
  have TD := TkD.of (now1 := now1) (oa1 := oa1) (l1 := us.length) (cl1 := cl1) (us := us) (y := y) h0 T D h1 h2 gA gB lA lB pA pB
  have gB' : (u.setRow zA #[.int .i64 now1, .slice oa1 us.length cl1]).heap[zB]? = some (.cells #[.int .i64 0, .int .i64 0, .int .i64 0, .int .i64 0, .int .i64 0, .bool false, .int .i64 0, .bool false, .slice none 0 0] 29 (0, 0)) := (setRow_other _ _ _ _ (fun e => by rw [e, gA] at gB; cases gB)).trans gB
  have S12 := below_setRow sB.below lA #[.int .i64 now1, .slice oa1 us.length cl1]
  have S13 := TD.be
  have hH := sB.below
  clear T D h0 h1 h2 pA pB sB
  simp only [bx2, pf, cond_true, Act.put, ext, Array.getD_eq_getD_getElem?, List.getElem?_toArray, List.getElem?_cons_zero, List.getElem?_cons_succ, Option.getD_some, zX, zY, zZ]
  refine zRd 12 (by kernel_rfl) rfl (fun K hK => ?_)
  rw [if_pos (by rfl)]
  refine wp_store_row 27 (.tmp 8) (.tmp 34) rfl zA #[.int .i64 now1, .slice oa1 us.length cl1] (by rfl) (by rfl) 27 _ gA info2' rfl (bcells_all _ _ _ _) ?_
  refine hK.out _ _ S12 (fun hH => ?_)
  clear hK K
  simp only [Act.put, zX, zY, zZ]
  refine zRd 13 (by kernel_rfl) rfl (fun K hK => ?_)
  rw [if_pos (by rfl)]
  refine wp_store_row 29 (.tmp 9) (.tmp 35) rfl zB (pcells y.p (.slice y.a y.zs.length y.c)) (by rfl) (by rfl) 29 _ gB' info9' rfl (pcells_all1 _ _ _ _) ?_
  refine hK.out _ _ S13 (fun hH => ?_)
  clear hK K
  simp only [Act.put, zX, zY, zZ]
  refine zTq hP 14 10 (.int .i64 c1') rfl (fun w hS => by go_simp) hH ?_; simp only [Act.put, zX, zY, zZ]
  refine wpAnyH_done (by kernel_rfl) ?_ _
  refine frL_end (C := fun a => Q .normal a _) rfl rfl rfl (fun f => ?_)
  exact hQ.out f _ zA zB now1 oa1 cl1 us.length us y c1' hu hv' hx' rfl hTP TD
theorem sq {P : Program} {c : Code} {Q : Exit → Act → World → Prop} {a : Act} {w : World} (hc : c = .seq (Cd.fst c) (Cd.snd c)) (h : (Cd.fst c).wp P (Exit.then (fun a w => (Cd.snd c).wp P Q a w) Q) a w) : c.wp P Q a w := wp_is hc (wp_seq h)
theorem then_n {R : Act → World → Prop} {Q : Exit → Act → World → Prop} {a : Act} {w : World} (h : R a w) : Exit.then R Q .normal a w := h
theorem then_x {R : Act → World → Prop} {Q : Exit → Act → World → Prop} {a : Act} {w : World} {i : Nat} (h : Q (.exit i) a w) : Exit.then R Q (.exit i) a w := h
theorem blk_n {Q : Exit → Act → World → Prop} {a : Act} {w : World} {i : Nat} (h : Q .normal a w) : Exit.inBlock i Q .normal a w := h
theorem blk_x {Q : Exit → Act → World → Prop} {a : Act} {w : World} {i : Nat} (h : Q .normal a w) : Exit.inBlock i Q (.exit i) a w := by simp [Exit.inBlock, h]
theorem cd_f {P : Program} {c : Code} {t : Operand} {Q : Exit → Act → World → Prop} {a : Act} {w : World} (hc : c = .cond t (Cd.thn c) .skip) (h : a.eval t = .bool false) (hq : Q .normal a w) : c.wp P Q a w := wp_is hc (wp_cond_false h (wp_skip hq))
theorem cd_t {P : Program} {c : Code} {t : Operand} {Q : Exit → Act → World → Prop} {a : Act} {w : World} (hc : c = .cond t (Cd.thn c) .skip) (h : a.eval t = .bool true) (hq : (Cd.thn c).wp P Q a w) : c.wp P Q a w := wp_is hc (wp_cond_true h hq)
theorem blk {P : Program} {c : Code} {i : Nat} {Q : Exit → Act → World → Prop} {a : Act} {w : World} (hc : c = .block i (Cd.inn c)) (h : (Cd.inn c).wp P (Exit.inBlock i Q) a w) : c.wp P Q a w := wp_is hc (wp_block h)
set_option maxHeartbeats 25600000 in
theorem lw10_no {Q : Exit → Act → World → Prop} {gl n cl bp bb gg nG cG k : Nat} {zA zB : Nat} {c' : Int} {wx : World} {q y : RV} {v0 v1 v2 : Value} {f : Nat → Value} (hB : Boxed wx zB q.p (.slice q.a q.zs.length q.c)) (hC : Boxed wx bp y.p (.slice y.a y.zs.length y.c)) (hno : ¬ (c' = 0 ∧ q.p.src = y.p.src)) (hQ : Hid (∀ f, Q .normal (frL v0 v1 v2 (.pointer (some ⟨bp, 0, none⟩)) (.slice (some ⟨gl, 0, none⟩) n cl) (.pointer (some ⟨bb, 0, none⟩)) (.slice (some ⟨gg, 0, none⟩) nG cG) (.int .i64 k) (.pointer (some ⟨zA, 0, none⟩)) (.pointer (some ⟨zB, 0, none⟩)) (.int .i64 c') f) wx)) : (Cd.fst (Cd.snd (Cd.inn (Cd.fst (Cd.snd (Cd.inn (Cd.inn (Cd.snd (Cd.fst (Cd.snd (Cd.snd (Cd.snd (Cd.snd (Cd.snd (Option.getD Tryz.f4.body .skip))))))))))))))).wp Tryz.prog Q (frL v0 v1 v2 (.pointer (some ⟨bp, 0, none⟩)) (.slice (some ⟨gl, 0, none⟩) n cl) (.pointer (some ⟨bb, 0, none⟩)) (.slice (some ⟨gg, 0, none⟩) nG cG) (.int .i64 k) (.pointer (some ⟨zA, 0, none⟩)) (.pointer (some ⟨zB, 0, none⟩)) (.int .i64 c') f) wx := by
 obtain ⟨lq, q0, q1, q2, q3, q4, q5, q6, q7, q8⟩ := hB
 obtain ⟨ly, y0, y1, y2, y3, y4, y5, y6, y7, y8⟩ := hC
 refine wp_is (c' := .seq _ _) rfl ?_
 unfold frL
 by_cases hc : c' = 0
 ·have hcb : (c' == 0) = true := beq_iff_eq.2 hc
  have hsb : (q.p.src == y.p.src) = false := beq_eq_false_iff_ne.2 fun h => hno ⟨hc, h⟩
  clear hno hc
  go_wp2
  refine frL_end (C := fun a => Q .normal a _) rfl rfl rfl (fun f => ?_)
  exact hQ.out f
 ·have hcb : (c' == 0) = false := beq_eq_false_iff_ne.2 hc
  clear hno hc
  go_wp2
  refine frL_end (C := fun a => Q .normal a _) rfl rfl rfl (fun f => ?_)
  exact hQ.out f
set_option maxHeartbeats 25600000 in
theorem lw11 {Q : Exit → Act → World → Prop} (hP : PanicOk Q) {gl n cl bp bb gg nG cG k : Nat} {zA zB : Nat} {c' : Int} {wx : World} {x q y : RV} {v0 v1 v2 : Value} {f : Nat → Value} (hki : (k : Int) < (n : Int)) (hxw : x.p.whole = false) (HB : Hid (∀ u, Below wx.heap.size wx u → Boxed u zB q.p (.slice q.a q.zs.length q.c) ∧ Boxed u bp y.p (.slice y.a y.zs.length y.c) ∧ X9 u gl (k * 9) x)) (KS : Hid (∀ u, Below wx.heap.size wx u → Calls Tryz.prog 12 #[.agg #[.int .i64 q.p.src, .int .i64 q.p.dst, .int .i64 q.p.kind, .int .i64 q.p.id, .int .i64 q.p.hops, .bool q.p.whole, .int .i64 q.p.off, .bool q.p.more, .slice q.a q.zs.length q.c], .agg #[.int .i64 y.p.src, .int .i64 y.p.dst, .int .i64 y.p.kind, .int .i64 y.p.id, .int .i64 y.p.hops, .bool y.p.whole, .int .i64 y.p.off, .bool y.p.more, .slice y.a y.zs.length y.c]] u fun e w' => e = .returned (.bool true) ∧ Below u.heap.size u w')) (KL : Hid (∀ u, Below wx.heap.size wx u → Calls Tryz.prog 18 #[.slice (some ⟨gg, 0, none⟩) nG cG, .agg #[.int .i64 x.p.src, .int .i64 x.p.dst, .int .i64 x.p.kind, .int .i64 x.p.id, .int .i64 x.p.hops, .bool x.p.whole, .int .i64 x.p.off, .bool x.p.more, .slice x.a x.zs.length x.c], .agg #[.int .i64 y.p.src, .int .i64 y.p.dst, .int .i64 y.p.kind, .int .i64 y.p.id, .int .i64 y.p.hops, .bool y.p.whole, .int .i64 y.p.off, .bool y.p.more, .slice y.a y.zs.length y.c]] u fun e w' => e = .returned (.bool true) ∧ Below u.heap.size u w')) (hQ : Hid (∀ f wy, Below wx.heap.size wx wy → Q .normal (frL v0 v1 (.bool true) (.pointer (some ⟨bp, 0, none⟩)) (.slice (some ⟨gl, 0, none⟩) n cl) (.pointer (some ⟨bb, 0, none⟩)) (.slice (some ⟨gg, 0, none⟩) nG cG) (.int .i64 k) (.pointer (some ⟨zA, 0, none⟩)) (.pointer (some ⟨zB, 0, none⟩)) (.int .i64 c') f) wy)) : (Cd.fst (Cd.thn (Cd.snd (Cd.fst (Cd.snd (Cd.inn (Cd.fst (Cd.snd (Cd.inn (Cd.inn (Cd.snd (Cd.fst (Cd.snd (Cd.snd (Cd.snd (Cd.snd (Cd.snd (Option.getD Tryz.f4.body .skip)))))))))))))))))).wp Tryz.prog Q (frL v0 v1 v2 (.pointer (some ⟨bp, 0, none⟩)) (.slice (some ⟨gl, 0, none⟩) n cl) (.pointer (some ⟨bb, 0, none⟩)) (.slice (some ⟨gg, 0, none⟩) nG cG) (.int .i64 k) (.pointer (some ⟨zA, 0, none⟩)) (.pointer (some ⟨zB, 0, none⟩)) (.int .i64 c') f) wx := by
 have HXW : Hid (x.p.whole = false) := hxw
 clear hxw
 have E0 : Hid (Below wx.heap.size wx wx.drew) := draw1 _
 refine wp_is (c' := .region _ _ _) rfl ?_
 unfold frL
 refine wp_region_held_drew (S := fun u => Below wx.heap.size wx u) (by kernel_rfl) E0.out (fun hH => ?_)
 refine zTq hP 0 46 (.agg #[.int .i64 q.p.src, .int .i64 q.p.dst, .int .i64 q.p.kind, .int .i64 q.p.id, .int .i64 q.p.hops, .bool q.p.whole, .int .i64 q.p.off, .bool q.p.more, .slice q.a q.zs.length q.c]) rfl (fun w hS => by obtain ⟨⟨lq, q0, q1, q2, q3, q4, q5, q6, q7, q8⟩, -⟩ := HB.out _ hS; go_simp) hH ?_; simp only [Act.put, zX, zY, zZ]
 refine zTq hP 1 47 (.agg #[.int .i64 y.p.src, .int .i64 y.p.dst, .int .i64 y.p.kind, .int .i64 y.p.id, .int .i64 y.p.hops, .bool y.p.whole, .int .i64 y.p.off, .bool y.p.more, .slice y.a y.zs.length y.c]) rfl (fun w hS => by obtain ⟨-, ⟨ly, y0, y1, y2, y3, y4, y5, y6, y7, y8⟩, -⟩ := HB.out _ hS; go_simp) hH ?_; simp only [Act.put, zX, zY, zZ]
 refine zRd 2 (by kernel_rfl) rfl (fun K hK => ?_)
 go_simp
 (with_reducible refine (KS.out _ E0.out).mono ?_)
 rintro e u1 ⟨rfl, d1⟩
 have E1 : Hid (Below wx.heap.size wx u1) := E0.out.trans (d1.mono E0.out.size)
 go_simp
 refine hK.out _ _ E1.out (fun hH => ?_)
 clear hK K d1 KS
 (first | (simp only [zX, zY, zZ]) | skip)
 refine zTq hP 3 49 (.bool true) rfl (fun w hS => by go_simp) hH ?_; simp only [Act.put, zX, zY, zZ]
 refine zTq hP 4 50 (.slice (some ⟨gl, 0, none⟩) n cl) rfl (fun w hS => by go_simp) hH ?_; simp only [Act.put, zX, zY, zZ]
 refine zTq hP 5 51 (.int .i64 k) rfl (fun w hS => by go_simp) hH ?_; simp only [Act.put, zX, zY, zZ]
 refine zTq hP 6 52 (.pointer (some ⟨gl, k * 9, none⟩)) rfl (fun w hS => by go_simp) hH ?_; simp only [Act.put, zX, zY, zZ]
 refine zTq hP 7 53 (.pointer (some ⟨gl, k * 9 + 5, none⟩)) rfl (fun w hS => by go_simp) hH ?_; simp only [Act.put, zX, zY, zZ]
 refine zTq hP 8 54 (.bool false) rfl (fun w hS => by obtain ⟨-, -, ⟨x0, x1, x2, x3, x4, x5, x6, x7, x8⟩⟩ := HB.out _ hS; rw [HXW.out] at x5; go_simp) hH ?_; simp only [Act.put, zX, zY, zZ]
 refine zTq hP 9 55 (.bool true) rfl (fun w hS => by go_simp) hH ?_; simp only [Act.put, zX, zY, zZ]
 refine zTq hP 10 56 (.bool true) rfl (fun w hS => by go_simp) hH ?_; simp only [Act.put, zX, zY, zZ]
 refine zTq hP 11 57 (.bool true) rfl (fun w hS => by go_simp) hH ?_; simp only [Act.put, zX, zY, zZ]
 refine zTq hP 12 58 (.slice (some ⟨gg, 0, none⟩) nG cG) rfl (fun w hS => by go_simp) hH ?_; simp only [Act.put, zX, zY, zZ]
 refine zTq hP 13 59 (.slice (some ⟨gl, 0, none⟩) n cl) rfl (fun w hS => by go_simp) hH ?_; simp only [Act.put, zX, zY, zZ]
 refine zTq hP 14 60 (.int .i64 k) rfl (fun w hS => by go_simp) hH ?_; simp only [Act.put, zX, zY, zZ]
 refine zTq hP 15 61 (.pointer (some ⟨gl, k * 9, none⟩)) rfl (fun w hS => by go_simp) hH ?_; simp only [Act.put, zX, zY, zZ]
 refine zTq hP 16 62 (.agg #[.int .i64 x.p.src, .int .i64 x.p.dst, .int .i64 x.p.kind, .int .i64 x.p.id, .int .i64 x.p.hops, .bool x.p.whole, .int .i64 x.p.off, .bool x.p.more, .slice x.a x.zs.length x.c]) rfl (fun w hS => by obtain ⟨-, -, ⟨x0, x1, x2, x3, x4, x5, x6, x7, x8⟩⟩ := HB.out _ hS; go_simp) hH ?_; simp only [Act.put, zX, zY, zZ]
 refine zTq hP 17 63 (.agg #[.int .i64 y.p.src, .int .i64 y.p.dst, .int .i64 y.p.kind, .int .i64 y.p.id, .int .i64 y.p.hops, .bool y.p.whole, .int .i64 y.p.off, .bool y.p.more, .slice y.a y.zs.length y.c]) rfl (fun w hS => by obtain ⟨-, ⟨ly, y0, y1, y2, y3, y4, y5, y6, y7, y8⟩, -⟩ := HB.out _ hS; go_simp) hH ?_; simp only [Act.put, zX, zY, zZ]
 refine zRd 18 (by kernel_rfl) rfl (fun K hK => ?_)
 go_simp
 (with_reducible refine (KL.out _ E1.out).mono ?_)
 rintro e u2 ⟨rfl, d2⟩
 have E2 : Hid (Below wx.heap.size wx u2) := E1.out.trans (d2.mono E1.out.size)
 go_simp
 refine hK.out _ _ E2.out (fun hH => ?_)
 clear hK K d2 KL
 (first | (simp only [zX, zY, zZ]) | skip)
 refine zTq hP 19 65 (.bool true) rfl (fun w hS => by go_simp) hH ?_; simp only [Act.put, zX, zY, zZ]
 refine zTq hP 20 2 (.bool true) rfl (fun w hS => by go_simp) hH ?_; simp only [Act.put, zX, zY, zZ]
 refine wpAnyH_done (by kernel_rfl) ?_ _
 refine frL_end (C := fun a => Q .normal a _) rfl rfl rfl (fun f => ?_)
 exact hQ.out f _ E2.out
set_option maxHeartbeats 25600000 in
theorem lw10 {Q : Exit → Act → World → Prop} {gl n cl bp bb gg nG cG k : Nat} {zA zB : Nat} {c' : Int} {wx : World} {q y : RV} {v0 v1 v2 : Value} {f : Nat → Value} (hcb : (c' == 0) = true) (hsb : (q.p.src == y.p.src) = true) (hB : Boxed wx zB q.p (.slice q.a q.zs.length q.c)) (hC : Boxed wx bp y.p (.slice y.a y.zs.length y.c)) (hQ : Hid (∀ (a : Act), a.eval (.tmp 45) = .bool true → (∃ f, a = frL v0 v1 v2 (.pointer (some ⟨bp, 0, none⟩)) (.slice (some ⟨gl, 0, none⟩) n cl) (.pointer (some ⟨bb, 0, none⟩)) (.slice (some ⟨gg, 0, none⟩) nG cG) (.int .i64 k) (.pointer (some ⟨zA, 0, none⟩)) (.pointer (some ⟨zB, 0, none⟩)) (.int .i64 c') f) → Q .normal a wx)) : (Cd.fst (Cd.fst (Cd.snd (Cd.inn (Cd.fst (Cd.snd (Cd.inn (Cd.inn (Cd.snd (Cd.fst (Cd.snd (Cd.snd (Cd.snd (Cd.snd (Cd.snd (Option.getD Tryz.f4.body .skip)))))))))))))))).wp Tryz.prog Q (frL v0 v1 v2 (.pointer (some ⟨bp, 0, none⟩)) (.slice (some ⟨gl, 0, none⟩) n cl) (.pointer (some ⟨bb, 0, none⟩)) (.slice (some ⟨gg, 0, none⟩) nG cG) (.int .i64 k) (.pointer (some ⟨zA, 0, none⟩)) (.pointer (some ⟨zB, 0, none⟩)) (.int .i64 c') f) wx := by
 obtain ⟨lq, q0, q1, q2, q3, q4, q5, q6, q7, q8⟩ := hB
 obtain ⟨ly, y0, y1, y2, y3, y4, y5, y6, y7, y8⟩ := hC
 refine wp_is (c' := .region _ _ _) rfl ?_
 unfold frL
 go_wp2
 refine hQ.out _ (by rfl) ?_
 exact frL_end (C := fun a => ∃ f, a = frL v0 v1 v2 (.pointer (some ⟨bp, 0, none⟩)) (.slice (some ⟨gl, 0, none⟩) n cl) (.pointer (some ⟨bb, 0, none⟩)) (.slice (some ⟨gg, 0, none⟩) nG cG) (.int .i64 k) (.pointer (some ⟨zA, 0, none⟩)) (.pointer (some ⟨zB, 0, none⟩)) (.int .i64 c') f) rfl rfl rfl (fun f => ⟨f, rfl⟩)
set_option maxHeartbeats 25600000 in
theorem lw10_yes {Q : Exit → Act → World → Prop} (hP : PanicOk Q) {gl n cl bp bb gg nG cG k : Nat} {zA zB : Nat} {c' : Int} {wx : World} {x q y : RV} {v0 v1 v2 : Value} {f : Nat → Value} (hki : (k : Int) < (n : Int)) (hxw : x.p.whole = false) (hc : c' = 0) (hs : q.p.src = y.p.src) (HB : Hid (∀ u, Below wx.heap.size wx u → Boxed u zB q.p (.slice q.a q.zs.length q.c) ∧ Boxed u bp y.p (.slice y.a y.zs.length y.c) ∧ X9 u gl (k * 9) x)) (KS : Hid (∀ u, Below wx.heap.size wx u → Calls Tryz.prog 12 #[.agg #[.int .i64 q.p.src, .int .i64 q.p.dst, .int .i64 q.p.kind, .int .i64 q.p.id, .int .i64 q.p.hops, .bool q.p.whole, .int .i64 q.p.off, .bool q.p.more, .slice q.a q.zs.length q.c], .agg #[.int .i64 y.p.src, .int .i64 y.p.dst, .int .i64 y.p.kind, .int .i64 y.p.id, .int .i64 y.p.hops, .bool y.p.whole, .int .i64 y.p.off, .bool y.p.more, .slice y.a y.zs.length y.c]] u fun e w' => e = .returned (.bool true) ∧ Below u.heap.size u w')) (KL : Hid (∀ u, Below wx.heap.size wx u → Calls Tryz.prog 18 #[.slice (some ⟨gg, 0, none⟩) nG cG, .agg #[.int .i64 x.p.src, .int .i64 x.p.dst, .int .i64 x.p.kind, .int .i64 x.p.id, .int .i64 x.p.hops, .bool x.p.whole, .int .i64 x.p.off, .bool x.p.more, .slice x.a x.zs.length x.c], .agg #[.int .i64 y.p.src, .int .i64 y.p.dst, .int .i64 y.p.kind, .int .i64 y.p.id, .int .i64 y.p.hops, .bool y.p.whole, .int .i64 y.p.off, .bool y.p.more, .slice y.a y.zs.length y.c]] u fun e w' => e = .returned (.bool true) ∧ Below u.heap.size u w')) (hQ : Hid (∀ f wy, Below wx.heap.size wx wy → Q .ret (frL v0 v1 (.bool true) (.pointer (some ⟨bp, 0, none⟩)) (.slice (some ⟨gl, 0, none⟩) n cl) (.pointer (some ⟨bb, 0, none⟩)) (.slice (some ⟨gg, 0, none⟩) nG cG) (.int .i64 k) (.pointer (some ⟨zA, 0, none⟩)) (.pointer (some ⟨zB, 0, none⟩)) (.int .i64 c') f) wy)) : (Cd.fst (Cd.snd (Cd.inn (Cd.fst (Cd.snd (Cd.inn (Cd.inn (Cd.snd (Cd.fst (Cd.snd (Cd.snd (Cd.snd (Cd.snd (Cd.snd (Option.getD Tryz.f4.body .skip))))))))))))))).wp Tryz.prog Q (frL v0 v1 v2 (.pointer (some ⟨bp, 0, none⟩)) (.slice (some ⟨gl, 0, none⟩) n cl) (.pointer (some ⟨bb, 0, none⟩)) (.slice (some ⟨gg, 0, none⟩) nG cG) (.int .i64 k) (.pointer (some ⟨zA, 0, none⟩)) (.pointer (some ⟨zB, 0, none⟩)) (.int .i64 c') f) wx := by
 obtain ⟨⟨lq, q0, q1, q2, q3, q4, q5, q6, q7, q8⟩, ⟨ly, y0, y1, y2, y3, y4, y5, y6, y7, y8⟩, -⟩ := HB.out wx (Below.refl _ _)
 have hcb : (c' == 0) = true := beq_iff_eq.2 hc
 have hsb : (q.p.src == y.p.src) = true := beq_iff_eq.2 hs
 refine sq (by kernel_rfl) ?_
 refine lw10 hcb hsb ⟨lq, q0, q1, q2, q3, q4, q5, q6, q7, q8⟩ ⟨ly, y0, y1, y2, y3, y4, y5, y6, y7, y8⟩ (fun a hb hf => then_n ?_)
 obtain ⟨f, rfl⟩ := hf
 refine cd_t (by kernel_rfl) hb (sq (by kernel_rfl) (lw11 (hP.then _) hki hxw HB KS KL (fun f wy E => then_n ?_)))
 exact wp_is (c' := .ret) (by kernel_rfl) (wp_ret (hQ.out f wy E))
end Go.Proofs.YtjbkgmbakjnlhaaGreatDoor
