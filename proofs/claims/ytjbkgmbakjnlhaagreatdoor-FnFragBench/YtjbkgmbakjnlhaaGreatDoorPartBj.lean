import Derived.Test.YtjbkgmbakjnlhaaGreatDoorPartBe
import Derived.Test.YtjbkgmbakjnlhaaGreatDoorPartBh
namespace Go.Proofs.YtjbkgmbakjnlhaaGreatDoor
set_option maxRecDepth 100000
open Go.RowKit
set_option maxHeartbeats 25600000 in
theorem bn23 {Q : Exit → Act → World → Prop} (hP : PanicOk Q) {w1 : World} {gl n cl k m1 zA zB zC zD cl1 : Nat} {now1 c1' : Int} {oa1 : Option Addr}  {x y1 : RV} {v0 v1 v2 v6 v7 v8 v9 v19 v16 v20 : Value} {f : Nat → Value} {w12 : World} {z cJ : Nat} {aJ : Option Addr} (hki : (k : Int) < (n : Int)) (HB12 : Hid (∀ u, Below w12.heap.size w12 u → Boxed u z y1.p (.slice aJ y1.zs.length cJ) ∧ Boxed u zB y1.p (.slice y1.a y1.zs.length y1.c) ∧ (u.cell? ⟨zA, 0, none⟩ = some (.int .i64 now1) ∧ u.cell? ⟨zA, 1, none⟩ = some (.slice oa1 m1 cl1)) ∧ X9 u gl (k * 9) x)) (KJ : Hid (∀ u, Below w12.heap.size w12 u → Calls Tryz.prog 12 #[.agg #[.int .i64 y1.p.src, .int .i64 y1.p.dst, .int .i64 y1.p.kind, .int .i64 y1.p.id, .int .i64 y1.p.hops, .bool y1.p.whole, .int .i64 y1.p.off, .bool y1.p.more, .slice aJ y1.zs.length cJ], .agg #[.int .i64 y1.p.src, .int .i64 y1.p.dst, .int .i64 y1.p.kind, .int .i64 y1.p.id, .int .i64 y1.p.hops, .bool y1.p.whole, .int .i64 y1.p.off, .bool y1.p.more, .slice y1.a y1.zs.length y1.c]] u fun e w' => e = .returned (.bool true) ∧ Below u.heap.size u w')) (KO : Hid (∀ u, Below w12.heap.size w12 u → Calls Tryz.prog 14 #[.agg #[.int .i64 now1, .slice oa1 m1 cl1], .agg #[.int .i64 x.p.src, .int .i64 x.p.dst, .int .i64 x.p.kind, .int .i64 x.p.id, .int .i64 x.p.hops, .bool x.p.whole, .int .i64 x.p.off, .bool x.p.more, .slice x.a x.zs.length x.c]] u fun e w' => e = .returned (.int .i64 (-1)) ∧ Below u.heap.size u w')) (hQ : Hid (∀ f wx, Below w12.heap.size w12 wx → Q .normal (fr v0 v1 v2 (.slice (some ⟨gl, 0, none⟩) n cl) (.pointer (some ⟨w1.heap.size, 0, none⟩)) (.int .i64 k) v6 v7 v8 v9 (.pointer (some ⟨zA, 0, none⟩)) (.pointer (some ⟨zB, 0, none⟩)) (.int .i64 c1') (.pointer (some ⟨zC, 0, none⟩)) (.pointer (some ⟨zD, 0, none⟩)) (.int .i64 c1') (v16) (.pointer (some ⟨z, 0, none⟩)) (.int .i64 0) v19 v20 f) wx)) : (Cd.snd (Cd.snd (Cd.snd (Cd.thn (Cd.snd (Cd.fst (Cd.snd (Cd.snd (Cd.snd (Cd.snd (Cd.inn (Cd.fst (Cd.snd (Cd.inn (Cd.inn (Cd.snd (Cd.fst (Cd.snd (Cd.snd (Cd.snd (Cd.snd (Option.getD Tryz.f3.body .skip)))))))))))))))))))))).wp Tryz.prog Q (fr v0 v1 v2 (.slice (some ⟨gl, 0, none⟩) n cl) (.pointer (some ⟨w1.heap.size, 0, none⟩)) (.int .i64 k) v6 v7 v8 v9 (.pointer (some ⟨zA, 0, none⟩)) (.pointer (some ⟨zB, 0, none⟩)) (.int .i64 c1') (.pointer (some ⟨zC, 0, none⟩)) (.pointer (some ⟨zD, 0, none⟩)) (.int .i64 c1') (v16) (.pointer (some ⟨z, 0, none⟩)) (.int .i64 0) v19 v20 f) w12 := by
 have E13 : Hid (Below w12.heap.size w12 w12.drew) := draw1 _
 refine wp_is (c' := .seq _ _) rfl ?_
 refine wp_seq_k (fun K0 hK0 => ?_)
 have hP := hP.then K0
 unfold fr
 refine wp_region_held_drew (S := fun u => Below w12.heap.size w12 u) (by kernel_rfl) E13.out (fun hH => ?_)
 refine zTq hP 0 171 (.int .i64 0) rfl (fun w hS => by go_simp) hH ?_; simp only [Act.put, zX, zY, zZ]
 refine zTq hP 1 172 (.bool false) rfl (fun w hS => by go_simp) hH ?_; simp only [Act.put, zX, zY, zZ]
 refine zTq hP 2 173 (.bool false) rfl (fun w hS => by go_simp) hH ?_; simp only [Act.put, zX, zY, zZ]
 refine zTq hP 3 174 (.agg #[.int .i64 y1.p.src, .int .i64 y1.p.dst, .int .i64 y1.p.kind, .int .i64 y1.p.id, .int .i64 y1.p.hops, .bool y1.p.whole, .int .i64 y1.p.off, .bool y1.p.more, .slice aJ y1.zs.length cJ]) rfl (fun w hS => by obtain ⟨⟨lq, q0, q1, q2, q3, q4, q5, q6, q7, q8⟩, -⟩ := HB12.out _ hS; go_simp) hH ?_; simp only [Act.put, zX, zY, zZ]
 refine zTq hP 4 175 (.agg #[.int .i64 y1.p.src, .int .i64 y1.p.dst, .int .i64 y1.p.kind, .int .i64 y1.p.id, .int .i64 y1.p.hops, .bool y1.p.whole, .int .i64 y1.p.off, .bool y1.p.more, .slice y1.a y1.zs.length y1.c]) rfl (fun w hS => by obtain ⟨-, ⟨lq, q0, q1, q2, q3, q4, q5, q6, q7, q8⟩, -⟩ := HB12.out _ hS; go_simp) hH ?_; simp only [Act.put, zX, zY, zZ]
 refine zRd 5 (by kernel_rfl) rfl (fun K hK => ?_)
 go_simp
 (with_reducible refine (KJ.out _ E13.out).mono ?_)
 rintro e u13 ⟨rfl, d13⟩
 have E14 : Hid (Below w12.heap.size w12 u13) := E13.out.trans (d13.mono E13.out.size)
 go_simp
 refine hK.out _ _ E14.out (fun hH => ?_)
 clear hK K d13 KJ
 (first | (simp only [zX, zY, zZ]) | skip)
 refine zTq hP 6 177 (.bool false) rfl (fun w hS => by go_simp) hH ?_; simp only [Act.put, zX, zY, zZ]
 refine zTq hP 7 178 (.bool false) rfl (fun w hS => by go_simp) hH ?_; simp only [Act.put, zX, zY, zZ]
 refine zTq hP 8 179 (.bool false) rfl (fun w hS => by go_simp) hH ?_; simp only [Act.put, zX, zY, zZ]
 refine zTq hP 9 180 (.agg #[.int .i64 now1, .slice oa1 m1 cl1]) rfl (fun w hS => by obtain ⟨-, -, ⟨s0', s1'⟩, -⟩ := HB12.out _ hS; go_simp) hH ?_; simp only [Act.put, zX, zY, zZ]
 refine zTq hP 10 181 (.slice (some ⟨gl, 0, none⟩) n cl) rfl (fun w hS => by go_simp) hH ?_; simp only [Act.put, zX, zY, zZ]
 refine zTq hP 11 182 (.int .i64 k) rfl (fun w hS => by go_simp) hH ?_; simp only [Act.put, zX, zY, zZ]
 refine zTq hP 12 183 (.pointer (some ⟨gl, k * 9, none⟩)) rfl (fun w hS => by go_simp) hH ?_; simp only [Act.put, zX, zY, zZ]
 refine zTq hP 13 184 (.agg #[.int .i64 x.p.src, .int .i64 x.p.dst, .int .i64 x.p.kind, .int .i64 x.p.id, .int .i64 x.p.hops, .bool x.p.whole, .int .i64 x.p.off, .bool x.p.more, .slice x.a x.zs.length x.c]) rfl (fun w hS => by obtain ⟨-, -, -, ⟨y0, y1, y2, y3, y4, y5, y6, y7, y8⟩⟩ := HB12.out _ hS; go_simp) hH ?_; simp only [Act.put, zX, zY, zZ]
 refine zRd 14 (by kernel_rfl) rfl (fun K hK => ?_)
 go_simp
 (with_reducible refine (KO.out _ E14.out).mono ?_)
 rintro e u14 ⟨rfl, d14⟩
 have E15 : Hid (Below w12.heap.size w12 u14) := E14.out.trans (d14.mono E14.out.size)
 go_simp
 refine hK.out _ _ E15.out (fun hH => ?_)
 clear hK K d14 KO
 (first | (simp only [zX, zY, zZ]) | skip)
 refine zTq hP 15 186 (.bool false) rfl (fun w hS => by go_simp) hH ?_; simp only [Act.put, zX, zY, zZ]
 refine zTq hP 16 187 (.bool false) rfl (fun w hS => by go_simp) hH ?_; simp only [Act.put, zX, zY, zZ]
 refine wpAnyH_done (by kernel_rfl) ?_ _
 refine hK0 _ _ ?_
 refine wp_cond_false rfl (wp_skip ?_)
 refine fr_end (C := fun a => Q .normal a _) rfl rfl rfl (fun f => ?_)
 exact hQ.out f _ E15.out
set_option maxHeartbeats 25600000 in
theorem bn27 {Q : Exit → Act → World → Prop} {w1 w6 : World} {gl n cl k l m1 m2 zA zB zC zD cl1 cl2 k2 cb : Nat} {now1 c1' : Int} {ob oa1 oa2 a2 : Option Addr}  {y1 : RV} {v0 v1 v2 v6 v7 v8 v9 v16 v17 v18 : Value} {f : Nat → Value} {wx : World} {j lost : Nat} (EX : Below w6.heap.size w6 wx) (HF6 : Hid (F6 w1 w6 zA zB zC zD l m1 cl1 m2 cl2 cb k2 now1 ob oa1 oa2 a2 y1)) (hA : Hid (j < l → ∀ f, Q .normal (fr v0 v1 v2 (.slice (some ⟨gl, 0, none⟩) n cl) (.pointer (some ⟨w1.heap.size, 0, none⟩)) (.int .i64 k) v6 v7 v8 v9 (.pointer (some ⟨zA, 0, none⟩)) (.pointer (some ⟨zB, 0, none⟩)) (.int .i64 c1') (.pointer (some ⟨zC, 0, none⟩)) (.pointer (some ⟨zD, 0, none⟩)) (.int .i64 c1') v16 v17 v18 (.int .i64 lost) (.int .i64 j) f) wx)) (hB : Hid (¬ j < l → ∀ f, Q (.exit 2) (fr v0 v1 v2 (.slice (some ⟨gl, 0, none⟩) n cl) (.pointer (some ⟨w1.heap.size, 0, none⟩)) (.int .i64 k) v6 v7 v8 v9 (.pointer (some ⟨zA, 0, none⟩)) (.pointer (some ⟨zB, 0, none⟩)) (.int .i64 c1') (.pointer (some ⟨zC, 0, none⟩)) (.pointer (some ⟨zD, 0, none⟩)) (.int .i64 c1') v16 v17 v18 (.int .i64 lost) (.int .i64 j) f) wx)) : (Cd.fst (Cd.inn (Cd.inn (Cd.snd (Cd.fst (Cd.snd (Cd.snd (Cd.snd (Cd.snd (Cd.snd (Cd.snd (Cd.inn (Cd.fst (Cd.snd (Cd.inn (Cd.inn (Cd.snd (Cd.fst (Cd.snd (Cd.snd (Cd.snd (Cd.snd (Option.getD Tryz.f3.body .skip))))))))))))))))))))))).wp Tryz.prog Q (fr v0 v1 v2 (.slice (some ⟨gl, 0, none⟩) n cl) (.pointer (some ⟨w1.heap.size, 0, none⟩)) (.int .i64 k) v6 v7 v8 v9 (.pointer (some ⟨zA, 0, none⟩)) (.pointer (some ⟨zB, 0, none⟩)) (.int .i64 c1') (.pointer (some ⟨zC, 0, none⟩)) (.pointer (some ⟨zD, 0, none⟩)) (.int .i64 c1') v16 v17 v18 (.int .i64 lost) (.int .i64 j) f) wx := by
 obtain ⟨⟨b0, b1⟩, -⟩ := HF6.out wx EX
 clear HF6 EX
 refine wp_is (c' := .seq _ _) rfl ?_
 unfold fr
 by_cases hj : j < l
 ·have hj' : (j : Int) < (l : Int) := by omega
  have HJ : Hid (j < l) := hj
  clear hj
  go_wp2
  refine fr_end (C := fun a => Q .normal a _) rfl rfl rfl (fun f => ?_)
  exact hA.out HJ.out f
 ·have hj' : ¬ ((j : Int) < (l : Int)) := by omega
  have HJ : Hid (¬ j < l) := hj
  clear hj
  go_wp2
  refine fr_end (C := fun a => Q (.exit 2) a _) rfl rfl rfl (fun f => ?_)
  exact hB.out HJ.out f
set_option maxHeartbeats 25600000 in
theorem bn30 {Q : Exit → Act → World → Prop} {w1 w6 : World} {gl n cl k l m1 m2 zA zB zC zD cl1 cl2 k2 cb : Nat} {now1 c1' : Int} {ob oa1 oa2 a2 : Option Addr}  {y1 : RV} {v0 v1 v2 v6 v7 v8 v9 v16 v17 v18 : Value} {f : Nat → Value} {wx : World} {j lost : Nat} (hlost : lost ≤ 1) (hj0 : j = 0) (hl4 : l = 4) (EX : Below w6.heap.size w6 wx) (HF6 : Hid (F6 w1 w6 zA zB zC zD l m1 cl1 m2 cl2 cb k2 now1 ob oa1 oa2 a2 y1)) (hQ : Hid (∀ f, Q .normal (fr v0 v1 v2 (.slice (some ⟨gl, 0, none⟩) n cl) (.pointer (some ⟨w1.heap.size, 0, none⟩)) (.int .i64 k) v6 v7 v8 v9 (.pointer (some ⟨zA, 0, none⟩)) (.pointer (some ⟨zB, 0, none⟩)) (.int .i64 c1') (.pointer (some ⟨zC, 0, none⟩)) (.pointer (some ⟨zD, 0, none⟩)) (.int .i64 c1') v16 v17 v18 (.int .i64 (lost + 1 : Nat)) (.int .i64 j) f) wx)) : (Cd.thn (Cd.snd (Cd.inn (Cd.fst (Cd.snd (Cd.inn (Cd.inn (Cd.snd (Cd.fst (Cd.snd (Cd.snd (Cd.snd (Cd.snd (Cd.snd (Cd.snd (Cd.inn (Cd.fst (Cd.snd (Cd.inn (Cd.inn (Cd.snd (Cd.fst (Cd.snd (Cd.snd (Cd.snd (Cd.snd (Option.getD Tryz.f3.body .skip))))))))))))))))))))))))))).wp Tryz.prog Q (fr v0 v1 v2 (.slice (some ⟨gl, 0, none⟩) n cl) (.pointer (some ⟨w1.heap.size, 0, none⟩)) (.int .i64 k) v6 v7 v8 v9 (.pointer (some ⟨zA, 0, none⟩)) (.pointer (some ⟨zB, 0, none⟩)) (.int .i64 c1') (.pointer (some ⟨zC, 0, none⟩)) (.pointer (some ⟨zD, 0, none⟩)) (.int .i64 c1') v16 v17 v18 (.int .i64 lost) (.int .i64 j) f) wx := by
 obtain ⟨⟨b0, b1⟩, -⟩ := HF6.out wx EX
 clear HF6 EX
 subst hj0 hl4
 refine wp_is (c' := .seq _ _) rfl ?_
 have hw : IntKind.i64.wrap ((lost : Int) + 1) = ((lost + 1 : Nat) : Int) := by rw [IntKind.wrap_i64]; omega
 unfold fr
 go_wp2
 refine fr_end (C := fun a => Q .normal a _) rfl rfl rfl (fun f => ?_)
 exact hQ.out f
set_option maxHeartbeats 25600000 in
theorem bn28 {Q : Exit → Act → World → Prop} {w1 : World} {gl n cl k zA zB zC zD : Nat} {c1' : Int}    {v0 v1 v2 v6 v7 v8 v9 v16 v17 v18 : Value} {f : Nat → Value} {wx : World} {j lost : Nat} (hj4 : j ≤ 4) (hQ : Hid (∀ f, Q .normal (fr v0 v1 v2 (.slice (some ⟨gl, 0, none⟩) n cl) (.pointer (some ⟨w1.heap.size, 0, none⟩)) (.int .i64 k) v6 v7 v8 v9 (.pointer (some ⟨zA, 0, none⟩)) (.pointer (some ⟨zB, 0, none⟩)) (.int .i64 c1') (.pointer (some ⟨zC, 0, none⟩)) (.pointer (some ⟨zD, 0, none⟩)) (.int .i64 c1') v16 v17 v18 (.int .i64 lost) (.int .i64 (j + 1 : Nat)) f) wx)) : (Cd.snd (Cd.snd (Cd.inn (Cd.inn (Cd.snd (Cd.fst (Cd.snd (Cd.snd (Cd.snd (Cd.snd (Cd.snd (Cd.snd (Cd.inn (Cd.fst (Cd.snd (Cd.inn (Cd.inn (Cd.snd (Cd.fst (Cd.snd (Cd.snd (Cd.snd (Cd.snd (Option.getD Tryz.f3.body .skip)))))))))))))))))))))))).wp Tryz.prog Q (fr v0 v1 v2 (.slice (some ⟨gl, 0, none⟩) n cl) (.pointer (some ⟨w1.heap.size, 0, none⟩)) (.int .i64 k) v6 v7 v8 v9 (.pointer (some ⟨zA, 0, none⟩)) (.pointer (some ⟨zB, 0, none⟩)) (.int .i64 c1') (.pointer (some ⟨zC, 0, none⟩)) (.pointer (some ⟨zD, 0, none⟩)) (.int .i64 c1') v16 v17 v18 (.int .i64 lost) (.int .i64 j) f) wx := by
 refine wp_is (c' := .region _ _ _) rfl ?_
 have hw : IntKind.i64.wrap ((j : Int) + 1) = ((j + 1 : Nat) : Int) := by rw [IntKind.wrap_i64]; omega
 unfold fr
 go_wp2
 refine fr_end (C := fun a => Q .normal a _) rfl rfl rfl (fun f => ?_)
 exact hQ.out f
set_option maxHeartbeats 25600000 in
theorem bn33 {Q : Exit → Act → World → Prop} {w1 : World} {gl n cl k zA zB zC zD : Nat} {c1' : Int}    {v0 v1 v2 v6 v7 v8 v9 v16 v17 v18 v20 : Value} {f : Nat → Value} {wx : World} {lost : Nat} (hlost : lost ≤ 1) (hQ : Hid (∀ f, Q .normal (fr v0 v1 v2 (.slice (some ⟨gl, 0, none⟩) n cl) (.pointer (some ⟨w1.heap.size, 0, none⟩)) (.int .i64 k) v6 v7 v8 v9 (.pointer (some ⟨zA, 0, none⟩)) (.pointer (some ⟨zB, 0, none⟩)) (.int .i64 c1') (.pointer (some ⟨zC, 0, none⟩)) (.pointer (some ⟨zD, 0, none⟩)) (.int .i64 c1') v16 v17 v18 (.int .i64 lost) (v20) f) wx)) : (Cd.fst (Cd.snd (Cd.snd (Cd.snd (Cd.snd (Cd.snd (Cd.snd (Cd.snd (Cd.inn (Cd.fst (Cd.snd (Cd.inn (Cd.inn (Cd.snd (Cd.fst (Cd.snd (Cd.snd (Cd.snd (Cd.snd (Option.getD Tryz.f3.body .skip)))))))))))))))))))).wp Tryz.prog Q (fr v0 v1 v2 (.slice (some ⟨gl, 0, none⟩) n cl) (.pointer (some ⟨w1.heap.size, 0, none⟩)) (.int .i64 k) v6 v7 v8 v9 (.pointer (some ⟨zA, 0, none⟩)) (.pointer (some ⟨zB, 0, none⟩)) (.int .i64 c1') (.pointer (some ⟨zC, 0, none⟩)) (.pointer (some ⟨zD, 0, none⟩)) (.int .i64 c1') v16 v17 v18 (.int .i64 lost) (v20) f) wx := by
 refine wp_is (c' := .seq _ _) rfl ?_
 have hw : ¬ ((lost : Int) > 1) := by omega
 have hw2 : ¬ ((1 : Int) < lost) := by omega
 unfold fr
 go_wp2
 refine fr_end (C := fun a => Q .normal a _) rfl rfl rfl (fun f => ?_)
 exact hQ.out f
set_option maxHeartbeats 25600000 in
theorem bn35 {Q : Exit → Act → World → Prop} {w1 : World} {gl n cl k l m1 zA cl1 cb : Nat} {now1 : Int} {ob oa1 : Option Addr}   {v0 v1 v2 v6 v7 v8 v9 v11 v12 v13 v14 v15 v16 v17 v18 v19 v20 : Value} {f : Nat → Value} {wx : World} (f0 : wx.cell? ⟨zA, 0, none⟩ = some (.int .i64 now1)) (f1 : wx.cell? ⟨zA, 1, none⟩ = some (.slice oa1 m1 cl1)) (j0 : wx.cell? ⟨w1.heap.size, 0, none⟩ = some (.int .i64 now1)) (j1 : wx.cell? ⟨w1.heap.size, 1, none⟩ = some (.slice ob l cb)) (fz : ∀ o, wx.frozen? ⟨w1.heap.size, o, none⟩ = false) (hQ : Hid (∀ f, Q .normal (fr v0 v1 v2 (.slice (some ⟨gl, 0, none⟩) n cl) (.pointer (some ⟨w1.heap.size, 0, none⟩)) (.int .i64 k) v6 v7 v8 v9 (.pointer (some ⟨zA, 0, none⟩)) v11 v12 v13 v14 v15 v16 v17 v18 v19 v20 f) ((wx.setCell ⟨w1.heap.size, 0, none⟩ (.int .i64 now1)).setCell ⟨w1.heap.size, 1, none⟩ (.slice oa1 m1 cl1)))) : (Cd.snd (Cd.snd (Cd.snd (Cd.snd (Cd.snd (Cd.snd (Cd.snd (Cd.snd (Cd.inn (Cd.fst (Cd.snd (Cd.inn (Cd.inn (Cd.snd (Cd.fst (Cd.snd (Cd.snd (Cd.snd (Cd.snd (Option.getD Tryz.f3.body .skip)))))))))))))))))))).wp Tryz.prog Q (fr v0 v1 v2 (.slice (some ⟨gl, 0, none⟩) n cl) (.pointer (some ⟨w1.heap.size, 0, none⟩)) (.int .i64 k) v6 v7 v8 v9 (.pointer (some ⟨zA, 0, none⟩)) v11 v12 v13 v14 v15 v16 v17 v18 v19 v20 f) wx := by
 refine wp_is (c' := .region _ _ _) rfl ?_
 unfold fr
 go_wp2
 refine fr_end (C := fun a => Q .normal a _) rfl rfl rfl (fun f => ?_)
 exact hQ.out f
set_option maxHeartbeats 25600000 in
theorem bn7 {Q : Exit → Act → World → Prop} {w1 wx : World} {gl n cl k : Nat} {v0 v1 v2 v6 v7 v8 v9 v10 v11 v12 v13 v14 v15 v16 v17 v18 v19 v20 : Value} {f : Nat → Value} (hk : k ≤ 112) (hQ : Hid (∀ f, Q .normal (fr v0 v1 v2 (.slice (some ⟨gl, 0, none⟩) n cl) (.pointer (some ⟨w1.heap.size, 0, none⟩)) (.int .i64 (k + 1 : Nat)) v6 v7 v8 v9 v10 v11 v12 v13 v14 v15 v16 v17 v18 v19 v20 f) wx)) : (Cd.snd (Cd.snd (Cd.inn (Cd.inn (Cd.snd (Cd.fst (Cd.snd (Cd.snd (Cd.snd (Cd.snd (Option.getD Tryz.f3.body .skip))))))))))).wp Tryz.prog Q (fr v0 v1 v2 (.slice (some ⟨gl, 0, none⟩) n cl) (.pointer (some ⟨w1.heap.size, 0, none⟩)) (.int .i64 k) v6 v7 v8 v9 v10 v11 v12 v13 v14 v15 v16 v17 v18 v19 v20 f) wx := by
 refine wp_is (c' := .region _ _ _) rfl ?_
 have hw : IntKind.i64.wrap ((k : Int) + 1) = ((k + 1 : Nat) : Int) := by rw [IntKind.wrap_i64]; omega
 unfold fr
 go_wp2
 refine fr_end (C := fun a => Q .normal a _) rfl rfl rfl (fun f => ?_)
 exact hQ.out f
set_option maxHeartbeats 25600000 in
theorem bn6 {Q : Exit → Act → World → Prop} {w1 wx : World} {gl n cl k : Nat} {v0 v1 v2 v6 v7 v8 v9 v10 v11 v12 v13 v14 v15 v16 v17 v18 v19 v20 : Value} {f : Nat → Value} (hA : Hid (k < n → ∀ f, Q .normal (fr v0 v1 v2 (.slice (some ⟨gl, 0, none⟩) n cl) (.pointer (some ⟨w1.heap.size, 0, none⟩)) (.int .i64 k) v6 v7 v8 v9 v10 v11 v12 v13 v14 v15 v16 v17 v18 v19 v20 f) wx)) (hB : Hid (¬ k < n → ∀ f, Q (.exit 0) (fr v0 v1 v2 (.slice (some ⟨gl, 0, none⟩) n cl) (.pointer (some ⟨w1.heap.size, 0, none⟩)) (.int .i64 k) v6 v7 v8 v9 v10 v11 v12 v13 v14 v15 v16 v17 v18 v19 v20 f) wx)) : (Cd.fst (Cd.inn (Cd.inn (Cd.snd (Cd.fst (Cd.snd (Cd.snd (Cd.snd (Cd.snd (Option.getD Tryz.f3.body .skip)))))))))).wp Tryz.prog Q (fr v0 v1 v2 (.slice (some ⟨gl, 0, none⟩) n cl) (.pointer (some ⟨w1.heap.size, 0, none⟩)) (.int .i64 k) v6 v7 v8 v9 v10 v11 v12 v13 v14 v15 v16 v17 v18 v19 v20 f) wx := by
 refine wp_is (c' := .seq _ _) rfl ?_
 unfold fr
 by_cases hj : k < n
 ·have hj' : (k : Int) < (n : Int) := by omega
  have HJ : Hid (k < n) := hj
  clear hj
  go_wp2
  refine fr_end (C := fun a => Q .normal a _) rfl rfl rfl (fun f => ?_)
  exact hA.out HJ.out f
 ·have hj' : ¬ ((k : Int) < (n : Int)) := by omega
  have HJ : Hid (¬ k < n) := hj
  clear hj
  go_wp2
  refine fr_end (C := fun a => Q (.exit 0) a _) rfl rfl rfl (fun f => ?_)
  exact hB.out HJ.out f
set_option maxHeartbeats 25600000 in
theorem bn25 {Q : Exit → Act → World → Prop} {w1 wx : World} {gl n cl k : Nat} {v0 v1 v2 v6 v7 v8 v9 v10 v11 v12 v13 v14 v15 v16 v17 v18 v19 v20 : Value} {f : Nat → Value} (hQ : Hid (∀ f, Q .normal (fr v0 v1 v2 (.slice (some ⟨gl, 0, none⟩) n cl) (.pointer (some ⟨w1.heap.size, 0, none⟩)) (.int .i64 k) v6 v7 v8 v9 v10 v11 v12 v13 v14 v15 v16 v17 v18 (.int .i64 0) v20 f) wx)) : (Cd.fst (Cd.snd (Cd.snd (Cd.snd (Cd.snd (Cd.snd (Cd.inn (Cd.fst (Cd.snd (Cd.inn (Cd.inn (Cd.snd (Cd.fst (Cd.snd (Cd.snd (Cd.snd (Cd.snd (Option.getD Tryz.f3.body .skip)))))))))))))))))).wp Tryz.prog Q (fr v0 v1 v2 (.slice (some ⟨gl, 0, none⟩) n cl) (.pointer (some ⟨w1.heap.size, 0, none⟩)) (.int .i64 k) v6 v7 v8 v9 v10 v11 v12 v13 v14 v15 v16 v17 v18 v19 v20 f) wx := by
 refine wp_is (c' := .region _ _ _) rfl ?_
 unfold fr
 go_wp2
 refine fr_end (C := fun a => Q .normal a _) rfl rfl rfl (fun f => ?_)
 exact hQ.out f
set_option maxHeartbeats 25600000 in
theorem bn26 {Q : Exit → Act → World → Prop} {w1 wx : World} {gl n cl k : Nat} {v0 v1 v2 v6 v7 v8 v9 v10 v11 v12 v13 v14 v15 v16 v17 v18 v19 v20 : Value} {f : Nat → Value} (hQ : Hid (∀ f, Q .normal (fr v0 v1 v2 (.slice (some ⟨gl, 0, none⟩) n cl) (.pointer (some ⟨w1.heap.size, 0, none⟩)) (.int .i64 k) v6 v7 v8 v9 v10 v11 v12 v13 v14 v15 v16 v17 v18 v19 (.int .i64 0) f) wx)) : (Cd.fst (Cd.fst (Cd.snd (Cd.snd (Cd.snd (Cd.snd (Cd.snd (Cd.snd (Cd.inn (Cd.fst (Cd.snd (Cd.inn (Cd.inn (Cd.snd (Cd.fst (Cd.snd (Cd.snd (Cd.snd (Cd.snd (Option.getD Tryz.f3.body .skip)))))))))))))))))))).wp Tryz.prog Q (fr v0 v1 v2 (.slice (some ⟨gl, 0, none⟩) n cl) (.pointer (some ⟨w1.heap.size, 0, none⟩)) (.int .i64 k) v6 v7 v8 v9 v10 v11 v12 v13 v14 v15 v16 v17 v18 v19 v20 f) wx := by
 refine wp_is (c' := .region _ _ _) rfl ?_
 unfold fr
 go_wp2
 refine fr_end (C := fun a => Q .normal a _) rfl rfl rfl (fun f => ?_)
 exact hQ.out f
set_option maxHeartbeats 25600000 in
theorem bn29 {Q : Exit → Act → World → Prop} (hP : PanicOk Q) {w1 w6 : World} {gl n cl k l m1 m2 zA zB zC zD cl1 cl2 k2 cb : Nat} {now1 c1' : Int} {ob oa1 oa2 a2 : Option Addr}  {x y1 : RV} {v0 v1 v2 v6 v7 v8 v9 v16 v17 v18 : Value} {f : Nat → Value} {wx : World} {j lost gS gP nP cP : Nat} {q : RV} {al : Bool} (hki : (k : Int) < (n : Int)) (hjl : (j : Int) < (l : Int)) (hnP : (0 : Int) < (nP : Int)) (hob : ob = some ⟨gS, 0, none⟩) (EX : Below w6.heap.size w6 wx) (HF6 : Hid (F6 w1 w6 zA zB zC zD l m1 cl1 m2 cl2 cb k2 now1 ob oa1 oa2 a2 y1)) (HXC16 : Hid (∀ u, Below w6.heap.size w6 u → X9 u gl (k * 9) x)) (HPC : Hid (∀ u, Below w6.heap.size w6 u → u.cell? ⟨gS, j * 3, none⟩ = some (.slice (some ⟨gP, 0, none⟩) nP cP))) (HQC : Hid (∀ u, Below w6.heap.size w6 u → u.cell? ⟨gP, 0, none⟩ = some (.int .i64 q.p.src) ∧ u.cell? ⟨gP, 1, none⟩ = some (.int .i64 q.p.dst) ∧ u.cell? ⟨gP, 2, none⟩ = some (.int .i64 q.p.kind) ∧ u.cell? ⟨gP, 3, none⟩ = some (.int .i64 q.p.id) ∧ u.cell? ⟨gP, 4, none⟩ = some (.int .i64 q.p.hops) ∧ u.cell? ⟨gP, 5, none⟩ = some (.bool q.p.whole) ∧ u.cell? ⟨gP, 6, none⟩ = some (.int .i64 q.p.off) ∧ u.cell? ⟨gP, 7, none⟩ = some (.bool q.p.more) ∧ u.cell? ⟨gP, 8, none⟩ = some (.slice q.a q.zs.length q.c))) (KA : Hid (∀ u, Below w6.heap.size w6 u → Calls Tryz.prog 16 #[.agg #[.int .i64 q.p.src, .int .i64 q.p.dst, .int .i64 q.p.kind, .int .i64 q.p.id, .int .i64 q.p.hops, .bool q.p.whole, .int .i64 q.p.off, .bool q.p.more, .slice q.a q.zs.length q.c], .agg #[.int .i64 x.p.src, .int .i64 x.p.dst, .int .i64 x.p.kind, .int .i64 x.p.id, .int .i64 x.p.hops, .bool x.p.whole, .int .i64 x.p.off, .bool x.p.more, .slice x.a x.zs.length x.c]] u fun e w' => e = .returned (.bool al) ∧ Below u.heap.size u w')) (KO : Hid (∀ u, Below w6.heap.size w6 u → Calls Tryz.prog 14 #[.agg #[.int .i64 now1, .slice oa1 m1 cl1], .agg #[.int .i64 q.p.src, .int .i64 q.p.dst, .int .i64 q.p.kind, .int .i64 q.p.id, .int .i64 q.p.hops, .bool q.p.whole, .int .i64 q.p.off, .bool q.p.more, .slice q.a q.zs.length q.c]] u fun e w' => ∃ r : Int, e = .returned (.int .i64 r) ∧ (r < 0 → al = false → j = 0 ∧ l = 4) ∧ Below u.heap.size u w')) (hQ : Hid (∀ (a : Act) (wy : World) (b : Bool), a.eval (.tmp 221) = .bool b → (b = true → j = 0 ∧ l = 4) → Below w6.heap.size w6 wy → (∃ f, a = fr v0 v1 v2 (.slice (some ⟨gl, 0, none⟩) n cl) (.pointer (some ⟨w1.heap.size, 0, none⟩)) (.int .i64 k) v6 v7 v8 v9 (.pointer (some ⟨zA, 0, none⟩)) (.pointer (some ⟨zB, 0, none⟩)) (.int .i64 c1') (.pointer (some ⟨zC, 0, none⟩)) (.pointer (some ⟨zD, 0, none⟩)) (.int .i64 c1') v16 v17 v18 (.int .i64 lost) (.int .i64 j) f) → Q .normal a wy)) : (Cd.fst (Cd.inn (Cd.fst (Cd.snd (Cd.inn (Cd.inn (Cd.snd (Cd.fst (Cd.snd (Cd.snd (Cd.snd (Cd.snd (Cd.snd (Cd.snd (Cd.inn (Cd.fst (Cd.snd (Cd.inn (Cd.inn (Cd.snd (Cd.fst (Cd.snd (Cd.snd (Cd.snd (Cd.snd (Option.getD Tryz.f3.body .skip)))))))))))))))))))))))))).wp Tryz.prog Q (fr v0 v1 v2 (.slice (some ⟨gl, 0, none⟩) n cl) (.pointer (some ⟨w1.heap.size, 0, none⟩)) (.int .i64 k) v6 v7 v8 v9 (.pointer (some ⟨zA, 0, none⟩)) (.pointer (some ⟨zB, 0, none⟩)) (.int .i64 c1') (.pointer (some ⟨zC, 0, none⟩)) (.pointer (some ⟨zD, 0, none⟩)) (.int .i64 c1') v16 v17 v18 (.int .i64 lost) (.int .i64 j) f) wx := by
 subst hob
 have E2 : Hid (Below w6.heap.size w6 wx.drew) := EX.drew
 have hj0 : ¬ ((j : Int) < 0) := by omega
 refine wp_is (c' := .region _ _ _) rfl ?_
 unfold fr
 refine wp_region_held_drew (S := fun u => Below w6.heap.size w6 u) (by kernel_rfl) E2.out (fun hH => ?_)
 refine zTq hP 0 195 (.pointer (some ⟨w1.heap.size, 1, none⟩)) rfl (fun w hS => by go_simp) hH ?_; simp only [Act.put, zX, zY, zZ]
 refine zTq hP 1 196 (.slice (some ⟨gS, 0, none⟩) l cb) rfl (fun w hS => by obtain ⟨⟨s0', s1'⟩, -⟩ := HF6.out _ hS; go_simp) hH ?_; simp only [Act.put, zX, zY, zZ]
 refine zTq hP 2 197 (.int .i64 j) rfl (fun w hS => by go_simp) hH ?_; simp only [Act.put, zX, zY, zZ]
 refine zTq hP 3 198 (.pointer (some ⟨gS, j * 3, none⟩)) rfl (fun w hS => by go_simp) hH ?_; simp only [Act.put, zX, zY, zZ]
 refine zTq hP 4 199 (.pointer (some ⟨gS, j * 3, none⟩)) rfl (fun w hS => by go_simp) hH ?_; simp only [Act.put, zX, zY, zZ]
 refine zTq hP 5 200 (.slice (some ⟨gP, 0, none⟩) nP cP) rfl (fun w hS => by have s0c := HPC.out _ hS; go_simp) hH ?_; simp only [Act.put, zX, zY, zZ]
 refine zTq hP 6 201 (.pointer (some ⟨gP, 0, none⟩)) rfl (fun w hS => by go_simp; intro h; exfalso; omega) hH ?_; simp only [Act.put, zX, zY, zZ]
 refine zTq hP 7 202 (.agg #[.int .i64 q.p.src, .int .i64 q.p.dst, .int .i64 q.p.kind, .int .i64 q.p.id, .int .i64 q.p.hops, .bool q.p.whole, .int .i64 q.p.off, .bool q.p.more, .slice q.a q.zs.length q.c]) rfl (fun w hS => by obtain ⟨q0, q1, q2, q3, q4, q5, q6, q7, q8⟩ := HQC.out _ hS; go_simp) hH ?_; simp only [Act.put, zX, zY, zZ]
 refine zTq hP 8 203 (.slice (some ⟨gl, 0, none⟩) n cl) rfl (fun w hS => by go_simp) hH ?_; simp only [Act.put, zX, zY, zZ]
 refine zTq hP 9 204 (.int .i64 k) rfl (fun w hS => by go_simp) hH ?_; simp only [Act.put, zX, zY, zZ]
 refine zTq hP 10 205 (.pointer (some ⟨gl, k * 9, none⟩)) rfl (fun w hS => by go_simp) hH ?_; simp only [Act.put, zX, zY, zZ]
 refine zTq hP 11 206 (.agg #[.int .i64 x.p.src, .int .i64 x.p.dst, .int .i64 x.p.kind, .int .i64 x.p.id, .int .i64 x.p.hops, .bool x.p.whole, .int .i64 x.p.off, .bool x.p.more, .slice x.a x.zs.length x.c]) rfl (fun w hS => by obtain ⟨y0, y1, y2, y3, y4, y5, y6, y7, y8⟩ := HXC16.out _ hS; go_simp) hH ?_; simp only [Act.put, zX, zY, zZ]
 refine zRd 12 (by kernel_rfl) rfl (fun K hK => ?_)
 go_simp
 (with_reducible refine (KA.out _ E2.out).mono ?_)
 rintro e u2 ⟨rfl, d2⟩
 have E3 : Hid (Below w6.heap.size w6 u2) := E2.out.trans (d2.mono E2.out.size)
 go_simp
 refine hK.out _ _ E3.out (fun hH => ?_)
 clear hK K d2 KA
 (first | (simp only [zX, zY, zZ]) | skip)
 cases al
 ·skip
  refine zTq hP 13 208 (.bool true) rfl (fun w hS => by go_simp) hH ?_; simp only [Act.put, zX, zY, zZ]
  refine zTq hP 14 209 (.bool true) rfl (fun w hS => by go_simp) hH ?_; simp only [Act.put, zX, zY, zZ]
  refine zTq hP 15 210 (.agg #[.int .i64 now1, .slice oa1 m1 cl1]) rfl (fun w hS => by obtain ⟨-, ⟨s0', s1'⟩, -⟩ := HF6.out _ hS; go_simp) hH ?_; simp only [Act.put, zX, zY, zZ]
  refine zTq hP 16 211 (.pointer (some ⟨w1.heap.size, 1, none⟩)) rfl (fun w hS => by go_simp) hH ?_; simp only [Act.put, zX, zY, zZ]
  refine zTq hP 17 212 (.slice (some ⟨gS, 0, none⟩) l cb) rfl (fun w hS => by obtain ⟨⟨s0', s1'⟩, -⟩ := HF6.out _ hS; go_simp) hH ?_; simp only [Act.put, zX, zY, zZ]
  refine zTq hP 18 213 (.int .i64 j) rfl (fun w hS => by go_simp) hH ?_; simp only [Act.put, zX, zY, zZ]
  refine zTq hP 19 214 (.pointer (some ⟨gS, j * 3, none⟩)) rfl (fun w hS => by go_simp) hH ?_; simp only [Act.put, zX, zY, zZ]
  refine zTq hP 20 215 (.pointer (some ⟨gS, j * 3, none⟩)) rfl (fun w hS => by go_simp) hH ?_; simp only [Act.put, zX, zY, zZ]
  refine zTq hP 21 216 (.slice (some ⟨gP, 0, none⟩) nP cP) rfl (fun w hS => by have s0c := HPC.out _ hS; go_simp) hH ?_; simp only [Act.put, zX, zY, zZ]
  refine zTq hP 22 217 (.pointer (some ⟨gP, 0, none⟩)) rfl (fun w hS => by go_simp; intro h; exfalso; omega) hH ?_; simp only [Act.put, zX, zY, zZ]
  refine zTq hP 23 218 (.agg #[.int .i64 q.p.src, .int .i64 q.p.dst, .int .i64 q.p.kind, .int .i64 q.p.id, .int .i64 q.p.hops, .bool q.p.whole, .int .i64 q.p.off, .bool q.p.more, .slice q.a q.zs.length q.c]) rfl (fun w hS => by obtain ⟨q0, q1, q2, q3, q4, q5, q6, q7, q8⟩ := HQC.out _ hS; go_simp) hH ?_; simp only [Act.put, zX, zY, zZ]
  refine zRd 24 (by kernel_rfl) rfl (fun K hK => ?_)
  go_simp
  (with_reducible refine (KO.out _ E3.out).mono ?_)
  rintro e u3 ⟨r, rfl, hr, d3⟩
  have E4 : Hid (Below w6.heap.size w6 u3) := E3.out.trans (d3.mono E3.out.size)
  have HR : Hid (r < 0 → false = false → j = 0 ∧ l = 4) := hr
  go_simp
  refine hK.out _ _ E4.out (fun hH => ?_)
  clear hK K d3 KO hr
  (first | (simp only [zX, zY, zZ]) | skip)
  refine zTq hP 25 220 (.bool (decide (r < 0))) rfl (fun w hS => by go_simp) hH ?_; simp only [Act.put, zX, zY, zZ]
  refine zTq hP 26 221 (.bool (decide (r < 0))) rfl (fun w hS => by go_simp) hH ?_; simp only [Act.put, zX, zY, zZ]
  refine wpAnyH_done (by kernel_rfl) ?_ _
  refine hQ.out _ _ (decide (r < 0)) (by rfl) ?_ ?_ ?_
  ·exact fun h => HR.out (of_decide_eq_true h) rfl
  ·exact E4.out
  ·exact fr_end (C := fun a => ∃ f, a = fr v0 v1 v2 (.slice (some ⟨gl, 0, none⟩) n cl) (.pointer (some ⟨w1.heap.size, 0, none⟩)) (.int .i64 k) v6 v7 v8 v9 (.pointer (some ⟨zA, 0, none⟩)) (.pointer (some ⟨zB, 0, none⟩)) (.int .i64 c1') (.pointer (some ⟨zC, 0, none⟩)) (.pointer (some ⟨zD, 0, none⟩)) (.int .i64 c1') v16 v17 v18 (.int .i64 lost) (.int .i64 j) f) rfl rfl rfl (fun f => ⟨f, rfl⟩)
 ·skip
  refine zTq hP 13 208 (.bool false) rfl (fun w hS => by go_simp) hH ?_; simp only [Act.put, zX, zY, zZ]
  refine zTq hP 14 209 (.bool false) rfl (fun w hS => by go_simp) hH ?_; simp only [Act.put, zX, zY, zZ]
  refine take_skipH 15 (some 210) rfl rfl (by kernel_rfl) (by kernel_rfl) (by kernel_rfl) (fun _ _ _ h => hP _ _ _ _ _ h) (by rfl) hH ?_
  simp only [Act.put, zX, zY, zZ]
  refine take_skipH 16 (some 211) rfl rfl (by kernel_rfl) (by kernel_rfl) (by kernel_rfl) (fun _ _ _ h => hP _ _ _ _ _ h) (by rfl) hH ?_
  simp only [Act.put, zX, zY, zZ]
  refine take_skipH 17 (some 212) rfl rfl (by kernel_rfl) (by kernel_rfl) (by kernel_rfl) (fun _ _ _ h => hP _ _ _ _ _ h) (by rfl) hH ?_
  simp only [Act.put, zX, zY, zZ]
  refine take_skipH 18 (some 213) rfl rfl (by kernel_rfl) (by kernel_rfl) (by kernel_rfl) (fun _ _ _ h => hP _ _ _ _ _ h) (by rfl) hH ?_
  simp only [Act.put, zX, zY, zZ]
  refine take_skipH 19 (some 214) rfl rfl (by kernel_rfl) (by kernel_rfl) (by kernel_rfl) (fun _ _ _ h => hP _ _ _ _ _ h) (by rfl) hH ?_
  simp only [Act.put, zX, zY, zZ]
  refine take_skipH 20 (some 215) rfl rfl (by kernel_rfl) (by kernel_rfl) (by kernel_rfl) (fun _ _ _ h => hP _ _ _ _ _ h) (by rfl) hH ?_
  simp only [Act.put, zX, zY, zZ]
  refine take_skipH 21 (some 216) rfl rfl (by kernel_rfl) (by kernel_rfl) (by kernel_rfl) (fun _ _ _ h => hP _ _ _ _ _ h) (by rfl) hH ?_
  simp only [Act.put, zX, zY, zZ]
  refine take_skipH 22 (some 217) rfl rfl (by kernel_rfl) (by kernel_rfl) (by kernel_rfl) (fun _ _ _ h => hP _ _ _ _ _ h) (by rfl) hH ?_
  simp only [Act.put, zX, zY, zZ]
  refine take_skipH 23 (some 218) rfl rfl (by kernel_rfl) (by kernel_rfl) (by kernel_rfl) (fun _ _ _ h => hP _ _ _ _ _ h) (by rfl) hH ?_
  simp only [Act.put, zX, zY, zZ]
  refine take_skipH 24 (some 219) rfl rfl (by kernel_rfl) (by kernel_rfl) (by kernel_rfl) (fun _ _ _ h => hP _ _ _ _ _ h) (by rfl) hH ?_
  simp only [Act.put, zX, zY, zZ]
  refine take_skipH 25 (some 220) rfl rfl (by kernel_rfl) (by kernel_rfl) (by kernel_rfl) (fun _ _ _ h => hP _ _ _ _ _ h) (by rfl) hH ?_
  simp only [Act.put, zX, zY, zZ]
  refine zTq hP 26 221 (.bool false) rfl (fun w hS => by go_simp) hH ?_; simp only [Act.put, zX, zY, zZ]
  refine wpAnyH_done (by kernel_rfl) ?_ _
  refine hQ.out _ _ (false) (by rfl) ?_ ?_ ?_
  ·exact fun h => (by cases h)
  ·exact E3.out
  ·exact fr_end (C := fun a => ∃ f, a = fr v0 v1 v2 (.slice (some ⟨gl, 0, none⟩) n cl) (.pointer (some ⟨w1.heap.size, 0, none⟩)) (.int .i64 k) v6 v7 v8 v9 (.pointer (some ⟨zA, 0, none⟩)) (.pointer (some ⟨zB, 0, none⟩)) (.int .i64 c1') (.pointer (some ⟨zC, 0, none⟩)) (.pointer (some ⟨zD, 0, none⟩)) (.int .i64 c1') v16 v17 v18 (.int .i64 lost) (.int .i64 j) f) rfl rfl rfl (fun f => ⟨f, rfl⟩)
end Go.Proofs.YtjbkgmbakjnlhaaGreatDoor
