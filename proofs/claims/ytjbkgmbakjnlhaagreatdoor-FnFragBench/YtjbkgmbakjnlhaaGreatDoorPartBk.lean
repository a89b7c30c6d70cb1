import Derived.Test.YtjbkgmbakjnlhaaGreatDoorPartBj
import Derived.Test.YtjbkgmbakjnlhaaGreatDoorPartBg
import Derived.Test.YtjbkgmbakjnlhaaGreatDoorPartBe
import Derived.Test.YtjbkgmbakjnlhaaGreatDoorPartBf
import Derived.Test.YtjbkgmbakjnlhaaGreatDoorPartBh
import Derived.Test.YtjbkgmbakjnlhaaGreatDoorPartBi
import Derived.Test.YtjbkgmbakjnlhaaGreatDoorITake
import Derived.Test.YtjbkgmbakjnlhaaGreatDoorSTake
namespace Go.Proofs.YtjbkgmbakjnlhaaGreatDoor
set_option maxRecDepth 100000
open Go.RowKit
theorem sq {P : Program} {c : Code} {Q : Exit → Act → World → Prop} {a : Act} {w : World} (hc : c = .seq (Cd.fst c) (Cd.snd c)) (h : (Cd.fst c).wp P (Exit.then (fun a w => (Cd.snd c).wp P Q a w) Q) a w) : c.wp P Q a w := wp_is hc (wp_seq h)
theorem then_n {R : Act → World → Prop} {Q : Exit → Act → World → Prop} {a : Act} {w : World} (h : R a w) : Exit.then R Q .normal a w := h
theorem then_x {R : Act → World → Prop} {Q : Exit → Act → World → Prop} {a : Act} {w : World} {i : Nat} (h : Q (.exit i) a w) : Exit.then R Q (.exit i) a w := h
theorem blk_n {Q : Exit → Act → World → Prop} {a : Act} {w : World} {i : Nat} (h : Q .normal a w) : Exit.inBlock i Q .normal a w := h
theorem blk_x {Q : Exit → Act → World → Prop} {a : Act} {w : World} {i : Nat} (h : Q .normal a w) : Exit.inBlock i Q (.exit i) a w := by simp [Exit.inBlock, h]
theorem cd_f {P : Program} {c : Code} {t : Operand} {Q : Exit → Act → World → Prop} {a : Act} {w : World} (hc : c = .cond t (Cd.thn c) .skip) (h : a.eval t = .bool false) (hq : Q .normal a w) : c.wp P Q a w := wp_is hc (wp_cond_false h (wp_skip hq))
theorem cd_t {P : Program} {c : Code} {t : Operand} {Q : Exit → Act → World → Prop} {a : Act} {w : World} (hc : c = .cond t (Cd.thn c) .skip) (h : a.eval t = .bool true) (hq : (Cd.thn c).wp P Q a w) : c.wp P Q a w := wp_is hc (wp_cond_true h hq)
theorem blk {P : Program} {c : Code} {i : Nat} {Q : Exit → Act → World → Prop} {a : Act} {w : World} (hc : c = .block i (Cd.inn c)) (h : (Cd.inn c).wp P (Exit.inBlock i Q) a w) : c.wp P Q a w := wp_is hc (wp_block h)
set_option maxHeartbeats 25600000 in
theorem bnSlots {Q : Exit → Act → World → Prop} (hP : PanicOk Q) {w1 w6 : World} {gl n cl k l m1 m2 zA zB zC zD cl1 cl2 k2 cb : Nat} {now1 c1' : Int} {ob oa1 oa2 a2 : Option Addr} {ts us1 us2 : List SV} {x y1 : RV} {v0 v1 v2 v6 v7 v8 v9 v16 v17 v18 : Value} {f : Nat → Value} {wx : World} (hki : (k : Int) < (n : Int)) (hl4 : l ≤ 4) (hm1 : m1 ≤ 4) (EX : Below w6.heap.size w6 wx) (HF6 : Hid (F6 w1 w6 zA zB zC zD l m1 cl1 m2 cl2 cb k2 now1 ob oa1 oa2 a2 y1)) (HXC16 : Hid (∀ u, Below w6.heap.size w6 u → X9 u gl (k * 9) x)) (HS6 : Hid (∀ u, Below w6.heap.size w6 u → (SLq u oa1 us1 ∧ ROk u y1) ∧ (SLq u oa2 us2 ∧ ROk u ⟨y1.p, a2, k2, y1.zs⟩) ∧ ROk u x ∧ SLq u ob ts)) (HTL : Hid (ts.length = l)) (HM1 : Hid (us1.length = m1)) (HOK : Hid (benchOk now1 ts)) (HOK1 : Hid (benchOk now1 us1)) (HTK : Hid (takeK now1 (ts.map SV.key) x.key = (us1.map SV.key, y1.key, c1'))) (hQ : Hid (∀ f u20 wy (lost : Nat), lost ≤ 1 → Below w6.heap.size w6 wy → Q .normal (fr v0 v1 v2 (.slice (some ⟨gl, 0, none⟩) n cl) (.pointer (some ⟨w1.heap.size, 0, none⟩)) (.int .i64 k) v6 v7 v8 v9 (.pointer (some ⟨zA, 0, none⟩)) (.pointer (some ⟨zB, 0, none⟩)) (.int .i64 c1') (.pointer (some ⟨zC, 0, none⟩)) (.pointer (some ⟨zD, 0, none⟩)) (.int .i64 c1') v16 v17 v18 (.int .i64 lost) (u20) f) wy)) : (Cd.snd (Cd.fst (Cd.snd (Cd.snd (Cd.snd (Cd.snd (Cd.snd (Cd.snd (Cd.inn (Cd.fst (Cd.snd (Cd.inn (Cd.inn (Cd.snd (Cd.fst (Cd.snd (Cd.snd (Cd.snd (Cd.snd (Option.getD Tryz.f3.body .skip)))))))))))))))))))).wp Tryz.prog Q (fr v0 v1 v2 (.slice (some ⟨gl, 0, none⟩) n cl) (.pointer (some ⟨w1.heap.size, 0, none⟩)) (.int .i64 k) v6 v7 v8 v9 (.pointer (some ⟨zA, 0, none⟩)) (.pointer (some ⟨zB, 0, none⟩)) (.int .i64 c1') (.pointer (some ⟨zC, 0, none⟩)) (.pointer (some ⟨zD, 0, none⟩)) (.int .i64 c1') v16 v17 v18 (.int .i64 0) (.int .i64 0) f) wx := by
 refine blk (i := 2) (by kernel_rfl) ?_
 refine wp_is (c' := .loop (Cd.inn (Cd.inn (Cd.snd (Cd.fst (Cd.snd (Cd.snd (Cd.snd (Cd.snd (Cd.snd (Cd.snd (Cd.inn (Cd.fst (Cd.snd (Cd.inn (Cd.inn (Cd.snd (Cd.fst (Cd.snd (Cd.snd (Cd.snd (Cd.snd (Option.getD Tryz.f3.body .skip))))))))))))))))))))))) (by kernel_rfl) ?_
 refine wp_loop (fun a w => ∃ (j lost : Nat) (f : Nat → Value), j ≤ l ∧ lost ≤ 1 ∧ lost ≤ j ∧ a = fr v0 v1 v2 (.slice (some ⟨gl, 0, none⟩) n cl) (.pointer (some ⟨w1.heap.size, 0, none⟩)) (.int .i64 k) v6 v7 v8 v9 (.pointer (some ⟨zA, 0, none⟩)) (.pointer (some ⟨zB, 0, none⟩)) (.int .i64 c1') (.pointer (some ⟨zC, 0, none⟩)) (.pointer (some ⟨zD, 0, none⟩)) (.int .i64 c1') v16 v17 v18 (.int .i64 lost) (.int .i64 j) f ∧ Below w6.heap.size w6 w) (fun a _ => l - (intOf (a.eval (.tmp 20))).toNat) ⟨0, 0, f, by omega, by omega, by omega, rfl, EX⟩ ?_
 rintro a wz ⟨j, lost, f, hjl, hlo, hlj, rfl, EZ⟩
 refine sq (by kernel_rfl) (bn27 EZ HF6 (fun hj f => then_n ?_) (fun hj f => then_x (then_x (blk_x (hQ.out f _ wz lost hlo EZ)))))
 have hji : (j : Int) < (l : Int) := by omega
 obtain ⟨s, hs⟩ := get_of_lt (show j < ts.length by rw [HTL.out]; exact hj)
 obtain ⟨gS, hob, hSL⟩ : ∃ g, ob = some ⟨g, 0, none⟩ ∧ SL w6 g ts := by
  rcases (HS6.out w6 (Below.refl _ _)).2.2.2 with h | h
  ·rw [h] at hs; exact absurd hs (by simp)
  ·exact h
 have hsm := List.mem_of_getElem? hs
 obtain ⟨gP, hsa, hRL⟩ := (hSL.each s hsm).at_
 have hwt := ((benchOk_pw.1 HOK.out).2.2.1 s hsm).2
 obtain ⟨q, hq⟩ := waits_first hwt
 have hql : (0 : Int) < (s.xs.length : Int) := by have := (List.getElem?_eq_some_iff.1 hq).1; omega
 have hqz := (hRL.each q (List.mem_of_getElem? hq)).len
 have HPC : Hid (∀ u, Below w6.heap.size w6 u → u.cell? ⟨gS, j * 3, none⟩ = some (.slice (some ⟨gP, 0, none⟩) s.xs.length s.c)) := fun u h => by
  have := ((hSL.below h).elem j s hs).1
  rw [hsa] at this
  exact this
 have HQC : Hid (∀ u, Below w6.heap.size w6 u → u.cell? ⟨gP, 0, none⟩ = some (.int .i64 q.p.src) ∧ u.cell? ⟨gP, 1, none⟩ = some (.int .i64 q.p.dst) ∧ u.cell? ⟨gP, 2, none⟩ = some (.int .i64 q.p.kind) ∧ u.cell? ⟨gP, 3, none⟩ = some (.int .i64 q.p.id) ∧ u.cell? ⟨gP, 4, none⟩ = some (.int .i64 q.p.hops) ∧ u.cell? ⟨gP, 5, none⟩ = some (.bool q.p.whole) ∧ u.cell? ⟨gP, 6, none⟩ = some (.int .i64 q.p.off) ∧ u.cell? ⟨gP, 7, none⟩ = some (.bool q.p.more) ∧ u.cell? ⟨gP, 8, none⟩ = some (.slice q.a q.zs.length q.c)) := fun u h => by
  obtain ⟨c0, c1, c2, c3, c4, c5, c6, c7, c8⟩ := ((hRL.below h).elem 0 q hq).head
  exact ⟨c0, c1, c2, c3, c4, c5, c6, c7, c8⟩
 obtain ⟨al, hal⟩ : ∃ al, alikeB (q.p, q.zs) (x.p, x.zs) = al := ⟨_, rfl⟩
 have KA : Hid (∀ u, Below w6.heap.size w6 u → Calls Tryz.prog 16 #[.agg #[.int .i64 q.p.src, .int .i64 q.p.dst, .int .i64 q.p.kind, .int .i64 q.p.id, .int .i64 q.p.hops, .bool q.p.whole, .int .i64 q.p.off, .bool q.p.more, .slice q.a q.zs.length q.c], .agg #[.int .i64 x.p.src, .int .i64 x.p.dst, .int .i64 x.p.kind, .int .i64 x.p.id, .int .i64 x.p.hops, .bool x.p.whole, .int .i64 x.p.off, .bool x.p.more, .slice x.a x.zs.length x.c]] u fun e w' => e = .returned (.bool al) ∧ Below u.heap.size u w') := fun u h => by
  have h5 := specAlike_any q.p x.p q.a x.a q.zs x.zs q.c x.c u hqz (HS6.out u h).2.2.1.len
  rw [hal] at h5
  exact h5
 have KO : Hid (∀ u, Below w6.heap.size w6 u → Calls Tryz.prog 14 #[.agg #[.int .i64 now1, .slice oa1 m1 cl1], .agg #[.int .i64 q.p.src, .int .i64 q.p.dst, .int .i64 q.p.kind, .int .i64 q.p.id, .int .i64 q.p.hops, .bool q.p.whole, .int .i64 q.p.off, .bool q.p.more, .slice q.a q.zs.length q.c]] u fun e w' => ∃ r : Int, e = .returned (.int .i64 r) ∧ (r < 0 → al = false → j = 0 ∧ l = 4) ∧ Below u.heap.size u w') := fun u h => by
  have h5 := wfOf_q now1 oa1 cl1 us1 q u (HS6.out u h).1.1 (by rw [HM1.out]; omega) hqz (fun s hs => by obtain ⟨j, hj⟩ := List.getElem?_of_mem hs; exact waits_first (HOK1.out.2.2 j s hj).2.1)
  rw [HM1.out] at h5
  refine h5.mono ?_
  rintro e w' ⟨r, rfl, hr, hb⟩
  refine ⟨r, rfl, fun hr0 hal0 => ?_, hb⟩
  have hna : ¬ alikeTo s x := by
   rintro ⟨v, hv, hva⟩
   rw [hq] at hv
   obtain rfl := Option.some.inj hv
   rw [hal0] at hal
   have e1 : alikeB (q.p, q.zs) (x.p, x.zs) = true := hva
   rw [hal] at e1
   cases e1
  rcases take_stays HOK.out HTK.out hs hna with hk | ⟨h0, h4⟩
  ·obtain ⟨t, ht, hta⟩ := found_again hwt hq HOK1.out hk
   rcases hr with ⟨-, hno⟩ | ⟨i, _, rfl, _⟩
   ·obtain ⟨i, hi⟩ := List.getElem?_of_mem ht
    exact absurd hta (hno i t (by have := (List.getElem?_eq_some_iff.1 hi).1; rw [HM1.out] at this; exact this) hi)
   ·omega
  ·exact ⟨h0, by rw [← HTL.out]; exact h4⟩
 refine sq (by kernel_rfl) (blk (i := 3) (by kernel_rfl) (sq (by kernel_rfl) (bn29 (((hP.blk 2).then _).then _ |>.blk 3 |>.then _) hki hji hql hob EZ HF6 HXC16 HPC HQC KA KO (fun a wy b hb hbt EY hf => then_n ?_))))
 obtain ⟨f, rfl⟩ := hf
 have T28 : ∀ (f : Nat → Value) (lost' : Nat), lost' ≤ 1 → lost' ≤ j + 1 → ((Cd.snd (Cd.snd (Cd.inn (Cd.inn (Cd.snd (Cd.fst (Cd.snd (Cd.snd (Cd.snd (Cd.snd (Cd.snd (Cd.snd (Cd.inn (Cd.fst (Cd.snd (Cd.inn (Cd.inn (Cd.snd (Cd.fst (Cd.snd (Cd.snd (Cd.snd (Cd.snd (Option.getD Tryz.f3.body .skip))))))))))))))))))))))))).wp Tryz.prog (Exit.then (fun a' w' => (∃ (j lost : Nat) (f : Nat → Value), j ≤ l ∧ lost ≤ 1 ∧ lost ≤ j ∧ a' = fr v0 v1 v2 (.slice (some ⟨gl, 0, none⟩) n cl) (.pointer (some ⟨w1.heap.size, 0, none⟩)) (.int .i64 k) v6 v7 v8 v9 (.pointer (some ⟨zA, 0, none⟩)) (.pointer (some ⟨zB, 0, none⟩)) (.int .i64 c1') (.pointer (some ⟨zC, 0, none⟩)) (.pointer (some ⟨zD, 0, none⟩)) (.int .i64 c1') v16 v17 v18 (.int .i64 lost) (.int .i64 j) f ∧ Below w6.heap.size w6 w') ∧ l - (intOf (a'.eval (.tmp 20))).toNat < l - (intOf ((fr v0 v1 v2 (.slice (some ⟨gl, 0, none⟩) n cl) (.pointer (some ⟨w1.heap.size, 0, none⟩)) (.int .i64 k) v6 v7 v8 v9 (.pointer (some ⟨zA, 0, none⟩)) (.pointer (some ⟨zB, 0, none⟩)) (.int .i64 c1') (.pointer (some ⟨zC, 0, none⟩)) (.pointer (some ⟨zD, 0, none⟩)) (.int .i64 c1') v16 v17 v18 (.int .i64 lost) (.int .i64 j) f).eval (.tmp 20))).toNat) (Exit.inBlock 2 Q)) (fr v0 v1 v2 (.slice (some ⟨gl, 0, none⟩) n cl) (.pointer (some ⟨w1.heap.size, 0, none⟩)) (.int .i64 k) v6 v7 v8 v9 (.pointer (some ⟨zA, 0, none⟩)) (.pointer (some ⟨zB, 0, none⟩)) (.int .i64 c1') (.pointer (some ⟨zC, 0, none⟩)) (.pointer (some ⟨zD, 0, none⟩)) (.int .i64 c1') v16 v17 v18 (.int .i64 lost') (.int .i64 j) f) wy := fun f lost' h1 h2 => bn28 (by omega) (fun f => then_n ⟨⟨j + 1, lost', f, by omega, h1, h2, rfl, EY⟩, (show l - (intOf (.int .i64 ((j + 1 : Nat) : Int))).toNat < l - (intOf (.int .i64 (j : Int))).toNat by simp [intOf]; omega)⟩)
 cases b
 ·exact cd_f (by kernel_rfl) hb (blk_n (then_n (T28 f lost hlo (by omega))))
 ·obtain ⟨h0, h4⟩ := hbt rfl
  refine cd_t (by kernel_rfl) hb (bn30 hlo h0 h4 EY HF6 (fun f => blk_n (then_n (T28 f (lost + 1) (by omega) (by omega)))))
set_option maxHeartbeats 25600000 in
theorem bnTold {Q : Exit → Act → World → Prop} (hP : PanicOk Q) {w1 w6 : World} {gl n cl k l m1 m2 zA zB zC zD cl1 cl2 k2 cb : Nat} {now1 c1' : Int} {ob oa1 oa2 a2 : Option Addr} {ts us1 us2 : List SV} {x y1 : RV} {v0 v1 v2 v6 v7 v8 v9 v16 v17 v18 v19 v20 : Value} {f : Nat → Value} {w10 : World} (hki : (k : Int) < (n : Int)) (hl4 : l ≤ 4) (hm1 : m1 ≤ 4) (EX : Below w6.heap.size w6 w10) (HF6 : Hid (F6 w1 w6 zA zB zC zD l m1 cl1 m2 cl2 cb k2 now1 ob oa1 oa2 a2 y1)) (HXC16 : Hid (∀ u, Below w6.heap.size w6 u → X9 u gl (k * 9) x)) (HS6 : Hid (∀ u, Below w6.heap.size w6 u → (SLq u oa1 us1 ∧ ROk u y1) ∧ (SLq u oa2 us2 ∧ ROk u ⟨y1.p, a2, k2, y1.zs⟩) ∧ ROk u x ∧ SLq u ob ts)) (HTL : Hid (ts.length = l)) (HM1 : Hid (us1.length = m1)) (HOK : Hid (benchOk now1 ts)) (HOK1 : Hid (benchOk now1 us1)) (HTK : Hid (takeK now1 (ts.map SV.key) x.key = (us1.map SV.key, y1.key, c1'))) (hc0 : c1' = 0) (hyx : y1.key ≠ x.key) (hQ : Hid (∀ f u16 u17 u18 wy, Below w6.heap.size w6 wy → Q .normal (fr v0 v1 v2 (.slice (some ⟨gl, 0, none⟩) n cl) (.pointer (some ⟨w1.heap.size, 0, none⟩)) (.int .i64 k) v6 v7 v8 v9 (.pointer (some ⟨zA, 0, none⟩)) (.pointer (some ⟨zB, 0, none⟩)) (.int .i64 c1') (.pointer (some ⟨zC, 0, none⟩)) (.pointer (some ⟨zD, 0, none⟩)) (.int .i64 c1') (u16) (u17) (u18) v19 v20 f) wy)) : (Cd.thn (Cd.snd (Cd.fst (Cd.snd (Cd.snd (Cd.snd (Cd.snd (Cd.inn (Cd.fst (Cd.snd (Cd.inn (Cd.inn (Cd.snd (Cd.fst (Cd.snd (Cd.snd (Cd.snd (Cd.snd (Option.getD Tryz.f3.body .skip))))))))))))))))))).wp Tryz.prog Q (fr v0 v1 v2 (.slice (some ⟨gl, 0, none⟩) n cl) (.pointer (some ⟨w1.heap.size, 0, none⟩)) (.int .i64 k) v6 v7 v8 v9 (.pointer (some ⟨zA, 0, none⟩)) (.pointer (some ⟨zB, 0, none⟩)) (.int .i64 c1') (.pointer (some ⟨zC, 0, none⟩)) (.pointer (some ⟨zD, 0, none⟩)) (.int .i64 c1') v16 v17 v18 v19 v20 f) w10 := by
 have HW : Hid (∀ s ∈ ts, ∃ y, s.xs[0]? = some y) := fun s hs => (by obtain ⟨j, hj⟩ := List.getElem?_of_mem hs; exact waits_first (HOK.out.2.2 j s hj).2.1)
 have HW1 : Hid (∀ s ∈ us1, ∃ y, s.xs[0]? = some y) := fun s hs => (by obtain ⟨j, hj⟩ := List.getElem?_of_mem hs; exact waits_first (HOK1.out.2.2 j s hj).2.1)
 have hxz := (HS6.out w6 (Below.refl _ _)).2.2.1.len
 have htk := HTK.out
 rw [hc0] at htk
 obtain ⟨i0, s0, hs0, hal0, hfst, hbad0, hj0, h40, hks, hokx, -⟩ := take_told HOK.out htk hyx
 have hi0 : i0 < l := by have h := (List.getElem?_eq_some_iff.1 hs0).1; rw [HTL.out] at h; exact h
 have hgo := told_gone HOK.out HOK1.out hs0 hal0 hokx hks
 have K19 : Hid (∀ u, Below w6.heap.size w6 u → Calls Tryz.prog 14 #[.agg #[.int .i64 now1, .slice ob l cb], .agg #[.int .i64 x.p.src, .int .i64 x.p.dst, .int .i64 x.p.kind, .int .i64 x.p.id, .int .i64 x.p.hops, .bool x.p.whole, .int .i64 x.p.off, .bool x.p.more, .slice x.a x.zs.length x.c]] u fun e w' => e = .returned (.int .i64 i0) ∧ Below u.heap.size u w') := fun u h => by
  have h5 := wfOf_q now1 ob cb ts x u (HS6.out u h).2.2.2 (by rw [HTL.out]; omega) hxz HW.out
  rw [HTL.out] at h5
  refine h5.mono ?_
  rintro e w' ⟨r, rfl, hr, hb⟩
  refine ⟨?_, hb⟩
  rcases hr with ⟨rfl, hno⟩ | ⟨i, s, rfl, hil, his, hia, hif⟩
  ·exact absurd hal0 (hno i0 s0 hi0 hs0)
  ·have : i = i0 := by
    rcases Nat.lt_trichotomy i i0 with h1 | h1 | h1
    ·exact absurd hia (hfst i s h1 his)
    ·exact h1
    ·exact absurd hal0 (hif i0 s0 h1 hs0)
   rw [this]
 have hi0l : (i0 : Int) < (l : Int) := by omega
 obtain ⟨gS, hob, hSL⟩ : ∃ g, ob = some ⟨g, 0, none⟩ ∧ SL w6 g ts := by
  rcases (HS6.out w6 (Below.refl _ _)).2.2.2 with h | h
  ·rw [h] at hs0; exact absurd hs0 (by simp)
  ·exact h
 have hsm := List.mem_of_getElem? hs0
 obtain ⟨gP, hsa, hRL⟩ := (hSL.each s0 hsm).at_
 have HPC : Hid (∀ u, Below w6.heap.size w6 u → u.cell? ⟨gS, i0 * 3, none⟩ = some (.slice (some ⟨gP, 0, none⟩) s0.xs.length s0.c)) := fun u h => by
  have := ((hSL.below h).elem i0 s0 hs0).1
  rw [hsa] at this
  exact this
 have HRP : Hid (∀ u, Below w6.heap.size w6 u → RL u gP s0.xs) := fun u h => hRL.below h
 have HJ0 : Hid (joinL ((s0.xs ++ [x]).map RV.key) = (0, y1.key)) := by
  rw [List.map_append]
  exact hj0
 refine sq (by kernel_rfl) (bn19 (hP.then _) hki EX HF6 HXC16 K19 (fun f w11 E11 => then_n ?_))
 have s2c := ((hSL.below E11).elem i0 s0 hs0).e2
 rw [hbad0] at s2c
 refine sq (by kernel_rfl) (bn20 hob hi0l E11 HF6 s2c (fun f => then_n ?_))
 refine sq (by kernel_rfl) (bn22 (hP.then _) hki hi0l (by omega) hob E11 HF6 HXC16 HS6 HPC HRP (show Hid _ from rfl) HJ0 (fun f w12 z aJ cJ E12 hz oz => then_n ?_))
 have s12 := E12.size
 have HB12 : Hid (∀ u, Below w12.heap.size w12 u → Boxed u z y1.p (.slice aJ y1.zs.length cJ) ∧ Boxed u zB y1.p (.slice y1.a y1.zs.length y1.c) ∧ (u.cell? ⟨zA, 0, none⟩ = some (.int .i64 now1) ∧ u.cell? ⟨zA, 1, none⟩ = some (.slice oa1 m1 cl1)) ∧ X9 u gl (k * 9) x) := fun u h => by
  have h6 := E12.trans (h.mono s12)
  obtain ⟨-, g1, -, g2, -⟩ := HF6.out u h6
  exact ⟨Boxed.of_block ((h.block _ (lt_of_block hz)).trans hz), g2, g1, HXC16.out u h6⟩
 have KJ : Hid (∀ u, Below w12.heap.size w12 u → Calls Tryz.prog 12 #[.agg #[.int .i64 y1.p.src, .int .i64 y1.p.dst, .int .i64 y1.p.kind, .int .i64 y1.p.id, .int .i64 y1.p.hops, .bool y1.p.whole, .int .i64 y1.p.off, .bool y1.p.more, .slice aJ y1.zs.length cJ], .agg #[.int .i64 y1.p.src, .int .i64 y1.p.dst, .int .i64 y1.p.kind, .int .i64 y1.p.id, .int .i64 y1.p.hops, .bool y1.p.whole, .int .i64 y1.p.off, .bool y1.p.more, .slice y1.a y1.zs.length y1.c]] u fun e w' => e = .returned (.bool true) ∧ Below u.heap.size u w') := fun u h => wfSame_same y1.p aJ y1.a y1.zs.length cJ y1.c y1.zs u ((RdB.of_own rfl oz).below h) (HS6.out u (E12.trans (h.mono s12))).1.2.rd (HS6.out u (E12.trans (h.mono s12))).1.2.len
 have KO : Hid (∀ u, Below w12.heap.size w12 u → Calls Tryz.prog 14 #[.agg #[.int .i64 now1, .slice oa1 m1 cl1], .agg #[.int .i64 x.p.src, .int .i64 x.p.dst, .int .i64 x.p.kind, .int .i64 x.p.id, .int .i64 x.p.hops, .bool x.p.whole, .int .i64 x.p.off, .bool x.p.more, .slice x.a x.zs.length x.c]] u fun e w' => e = .returned (.int .i64 (-1)) ∧ Below u.heap.size u w') := fun u h => by
  have h5 := wfOf_q now1 oa1 cl1 us1 x u (HS6.out u (E12.trans (h.mono s12))).1.1 (by rw [HM1.out]; omega) hxz HW1.out
  rw [HM1.out] at h5
  refine h5.mono ?_
  rintro e w' ⟨r, rfl, hr, hb⟩
  refine ⟨?_, hb⟩
  rcases hr with ⟨rfl, -⟩ | ⟨i, s, rfl, -, his, hia, -⟩
  ·rfl
  ·exact absurd hia (hgo s (List.mem_of_getElem? his))
 exact bn23 hP hki HB12 KJ KO (fun f wy EY => hQ.out f _ _ _ wy (E12.trans (EY.mono s12)))
set_option maxHeartbeats 25600000 in
theorem bnTake {Q : Exit → Act → World → Prop} (hP : PanicOk Q) {w1 : World} {gl n cl : Nat} {xs : List RV} (C : LCx w1 gl n xs) {wr : World} {k l : Nat} {nw : Int} {ob : Option Addr} {cb : Nat} {ts : List SV} (S : BSt w1 wr k l nw ob cb ts) {x : RV} (hkn : k < n) (hx : xs[k]? = some x) {v0 v1 v2 v6 v7 v8 v9 v10 v11 v12 v13 v14 v15 v16 v17 v18 v19 v20 : Value} {f : Nat → Value} (htick : ¬ (x.p.kind = 0 ∧ x.p.hops = 0)) (hQ : Hid (∀ f u10 u11 u12 u13 u14 u15 u16 u17 u18 u19 u20 wx l' nw' ob' cb' ts', BSt w1 wx (k + 1) l' nw' ob' cb' ts' → Q .normal (fr v0 v1 v2 (.slice (some ⟨gl, 0, none⟩) n cl) (.pointer (some ⟨w1.heap.size, 0, none⟩)) (.int .i64 k) v6 v7 v8 v9 (u10) (u11) (u12) (u13) (u14) (u15) (u16) (u17) (u18) (u19) (u20) f) wx)) : (Cd.inn (Cd.fst (Cd.snd (Cd.inn (Cd.inn (Cd.snd (Cd.fst (Cd.snd (Cd.snd (Cd.snd (Cd.snd (Option.getD Tryz.f3.body .skip)))))))))))).wp Tryz.prog Q (fr v0 v1 v2 (.slice (some ⟨gl, 0, none⟩) n cl) (.pointer (some ⟨w1.heap.size, 0, none⟩)) (.int .i64 k) v6 v7 v8 v9 v10 v11 v12 v13 v14 v15 v16 v17 v18 v19 v20 f) wr := by
 have hki : (k : Int) < (n : Int) := by omega
 refine sq (by kernel_rfl) (bn8_no C S hkn hx htick (fun f1 => then_n ?_))
 clear htick
 obtain ⟨HXL, hgl, HX, HG⟩ := C
 obtain ⟨hl, hlb, hlx, hnk, HTL, HOK, HQT, HBX, HBE⟩ := S
 have lj := lt_of_block HBX.out
 have hbs := HBE.out.size
 have hglr : gl < wr.heap.size := by omega
 have HSL : Hid (SLq wr ob ts) := HQT.out wr fun b _ _ => rfl
 have HXR : Hid (ROk wr x) := (HX.out wr k x HBE.out hx).1
 have HBC14 : Hid (∀ u, Below wr.heap.size wr u → u.cell? ⟨w1.heap.size, 0, none⟩ = some (.int .i64 nw) ∧ u.cell? ⟨w1.heap.size, 1, none⟩ = some (.slice ob l cb)) := fun u h => ⟨zCr ((h.block _ lj).trans HBX.out), zCr ((h.block _ lj).trans HBX.out)⟩
 have HXC14 : Hid (∀ u, Below wr.heap.size wr u → X9 u gl (k * 9) x) := fun u h => (HX.out u k x (HBE.out.trans (h.mono hbs)) hx).2
 have K14 : Hid (∀ u, Below wr.heap.size wr u → Calls Tryz.prog 10 #[.agg #[.int .i64 nw, .slice ob l cb], .agg #[.int .i64 x.p.src, .int .i64 x.p.dst, .int .i64 x.p.kind, .int .i64 x.p.id, .int .i64 x.p.hops, .bool x.p.whole, .int .i64 x.p.off, .bool x.p.more, .slice x.a x.zs.length x.c]] u (fun e u' => ∃ (now' : Int) (oa' : Option Addr) (cl' : Nat) (us : List SV) (y : RV) (c : Int), e = .returned (.tuple #[.agg #[.int .i64 now', .slice oa' us.length cl'], .agg #[.int .i64 y.p.src, .int .i64 y.p.dst, .int .i64 y.p.kind, .int .i64 y.p.id, .int .i64 y.p.hops, .bool y.p.whole, .int .i64 y.p.off, .bool y.p.more, .slice y.a y.zs.length y.c], .int .i64 c]) ∧ TakeP nw ts x.key now' (us.map SV.key) y.key c ∧ us.length ≤ 4 ∧ us.length ≤ cl' ∧ cl' ≤ 9223372036854775807 ∧ BT u' u.heap.size oa' us ∧ DataB u' u.heap.size y ∧ Below u.heap.size u u')) := fun u h => by
  have h5 := implTake_any nw ob cb ts x u (HSL.out.below h) (by rw [HTL.out]; omega) (by rw [HTL.out]; omega) hlx (HXR.out.below h) (HG.out u (HBE.out.trans (h.mono hbs)))
  rw [HTL.out] at h5
  refine h5.mono ?_
  rintro e u' ⟨now', ks, oa', cc, us, y, c, rfl, hP, hT, -, hb⟩
  have hk := hT.keys
  subst hk
  exact ⟨now', oa', cc, us, y, c, rfl, hP, hT.len, hT.cap, hT.capM, hT.ans.bt, hT.data, hb⟩
 refine sq (by kernel_rfl) (bn14 (hP.then _) hki HBC14 HXC14 K14 (fun f2 w5 zA zB now1 oa1 cl1 m1 us1 y1 c1' hm1 hm1c hx1 HM1 HP1 HT1 => then_n ?_))
 have HB5 := HT1.be
 have s5 := HB5.size
 have K15 : Hid (∀ u, Below w5.heap.size w5 u → Calls Tryz.prog 11 #[.agg #[.int .i64 nw, .slice ob l cb], .agg #[.int .i64 x.p.src, .int .i64 x.p.dst, .int .i64 x.p.kind, .int .i64 x.p.id, .int .i64 x.p.hops, .bool x.p.whole, .int .i64 x.p.off, .bool x.p.more, .slice x.a x.zs.length x.c]] u (fun e u' => ∃ (now' : Int) (oa' : Option Addr) (cl' : Nat) (us : List SV) (y : RV) (c : Int), e = .returned (.tuple #[.agg #[.int .i64 now', .slice oa' us.length cl'], .agg #[.int .i64 y.p.src, .int .i64 y.p.dst, .int .i64 y.p.kind, .int .i64 y.p.id, .int .i64 y.p.hops, .bool y.p.whole, .int .i64 y.p.off, .bool y.p.more, .slice y.a y.zs.length y.c], .int .i64 c]) ∧ TakeP nw ts x.key now' (us.map SV.key) y.key c ∧ us.length ≤ 4 ∧ us.length ≤ cl' ∧ cl' ≤ 9223372036854775807 ∧ BT u' u.heap.size oa' us ∧ DataB u' u.heap.size y ∧ Below u.heap.size u u')) := fun u h => by
  have h5 := specTake_any nw ob cb ts x u ((HSL.out.below HB5).below h) (by rw [HTL.out]; omega) (by rw [HTL.out]; omega) hlx ((HXR.out.below HB5).below h)
  rw [HTL.out] at h5
  refine h5.mono ?_
  rintro e u' ⟨now', ks, oa', cc, us, y, c, rfl, hP, hT, hb⟩
  have hk := hT.keys
  subst hk
  exact ⟨now', oa', cc, us, y, c, rfl, hP, hT.len, hT.cap, hT.capM, hT.ans.bt, hT.data, hb⟩
 refine sq (by kernel_rfl) (bn15 (hP.then _) hki (fun u h => HBC14.out u (HB5.trans (h.mono s5))) (fun u h => HXC14.out u (HB5.trans (h.mono s5))) K15 (fun f3 w6 zC zD now2 oa2 cl2 m2 us2 y2 c2' hm2 hm2c hx2 HM2 HP2 HT2 => then_n ?_))
 obtain ⟨e1, hkk, e3, e4⟩ := HP1.same HP2 rfl rfl
 subst e1 e4
 obtain ⟨hnow, htk⟩ : now1 = nw ∧ takeK nw (ts.map SV.key) x.key = (us1.map SV.key, y1.key, c1') := by
  rcases HP1 with ⟨h, _⟩ | ⟨_, h1, h2⟩
  ·exact absurd HOK.out h
  ·exact ⟨h1, h2⟩
 subst hnow
 have HTK : Hid (takeK now1 (ts.map SV.key) x.key = (us1.map SV.key, y1.key, c1')) := htk
 have HOK1 : Hid (benchOk now1 us1) := take_ok HOK.out htk
 obtain ⟨p2, a2, k2, zs2⟩ := y2
 obtain rfl : y1.p = p2 := congrArg Prod.fst e3
 obtain rfl : y1.zs = zs2 := congrArg Prod.snd e3
 have HT1' : TkD wr w6 zA zB now1 oa1 m1 cl1 us1 y1 := HT1.below HT2.be
 have HB6 : Below wr.heap.size wr w6 := HT1'.be
 have s6 := HB6.size
 have HF6 : Hid (F6 w1 w6 zA zB zC zD l m1 cl1 m2 cl2 cb k2 now1 ob oa1 oa2 a2 y1) := fun u h => by
  have g1 := HT1'.below h
  have g2 := HT2.below h
  exact ⟨HBC14.out u (HB6.trans (h.mono s6)), ⟨zCr g1.bxA, zCr g1.bxA⟩, ⟨zCr g2.bxA, zCr g2.bxA⟩, Boxed.of_block g1.bxB, Boxed.of_block g2.bxB⟩
 have HXC16 : Hid (∀ u, Below w6.heap.size w6 u → X9 u gl (k * 9) x) := fun u h => HXC14.out u (HB6.trans (h.mono s6))
 have HS6 : Hid (∀ u, Below w6.heap.size w6 u → (SLq u oa1 us1 ∧ ROk u y1) ∧ (SLq u oa2 us2 ∧ ROk u ⟨y1.p, a2, k2, y1.zs⟩) ∧ ROk u x ∧ SLq u ob ts) := fun u h => ⟨(HT1'.below h).now, (HT2.below h).now, (HXR.out.below HB6).below h, (HSL.out.below HB6).below h⟩
 have KWS : Hid (Calls Tryz.prog 12 #[.agg #[.int .i64 y1.p.src, .int .i64 y1.p.dst, .int .i64 y1.p.kind, .int .i64 y1.p.id, .int .i64 y1.p.hops, .bool y1.p.whole, .int .i64 y1.p.off, .bool y1.p.more, .slice y1.a y1.zs.length y1.c], .agg #[.int .i64 y1.p.src, .int .i64 y1.p.dst, .int .i64 y1.p.kind, .int .i64 y1.p.id, .int .i64 y1.p.hops, .bool y1.p.whole, .int .i64 y1.p.off, .bool y1.p.more, .slice a2 y1.zs.length k2]] w6 fun e w' => e = .returned (.bool true) ∧ Below w6.heap.size w6 w') := wfSame_same y1.p y1.a a2 y1.zs.length y1.c k2 y1.zs w6 (HS6.out w6 (Below.refl _ _)).1.2.rd (HS6.out w6 (Below.refl _ _)).2.1.2.rd (HS6.out w6 (Below.refl _ _)).1.2.len
 have KWB : Hid (∀ u, Below w6.heap.size w6 u → Calls Tryz.prog 9 #[.agg #[.int .i64 now1, .slice oa1 m1 cl1], .agg #[.int .i64 now1, .slice oa2 m2 cl2]] u fun e w' => e = .returned (.bool true) ∧ Below u.heap.size u w') := fun u h => by
  have h5 := wfBench_q now1 oa1 oa2 cl1 cl2 us1 us2 u (HS6.out u h).1.1 (HS6.out u h).2.1.1 hkk.symm (by rw [HM1]; omega)
  rw [HM1, HM2] at h5
  exact h5
 have KBO : Hid (∀ u, Below w6.heap.size w6 u → Calls Tryz.prog 13 #[.agg #[.int .i64 now1, .slice oa1 m1 cl1]] u (SaysB (benchOk now1 us1) u)) := fun u h => by
  have h5 := implBenchOk_q now1 oa1 cl1 us1 u (HS6.out u h).1.1 (by rw [HM1]; omega) (by rw [HM1]; omega) hx1
  rw [HM1] at h5
  exact h5
 refine sq (by kernel_rfl) (bn16 HF6 KWS KWB KBO HOK1 (fun f4 w9 E9 => then_n ?_))
 have REST : ∀ f v16 v17 v18 wx, Below w6.heap.size w6 wx → (Cd.snd (Cd.snd (Cd.snd (Cd.snd (Cd.snd (Cd.inn (Cd.fst (Cd.snd (Cd.inn (Cd.inn (Cd.snd (Cd.fst (Cd.snd (Cd.snd (Cd.snd (Cd.snd (Option.getD Tryz.f3.body .skip))))))))))))))))).wp Tryz.prog Q (fr v0 v1 v2 (.slice (some ⟨gl, 0, none⟩) n cl) (.pointer (some ⟨w1.heap.size, 0, none⟩)) (.int .i64 k) v6 v7 v8 v9 (.pointer (some ⟨zA, 0, none⟩)) (.pointer (some ⟨zB, 0, none⟩)) (.int .i64 c1') (.pointer (some ⟨zC, 0, none⟩)) (.pointer (some ⟨zD, 0, none⟩)) (.int .i64 c1') v16 v17 v18 v19 v20 f) wx := fun f v16 v17 v18 wx EX => by
  refine sq (by kernel_rfl) (bn25 (fun f => then_n ?_))
  refine sq (by kernel_rfl) (sq (by kernel_rfl) (bn26 (fun f => then_n (bnSlots (hP.then _) hki hl hm1 EX HF6 HXC16 HS6 HTL HM1 HOK HOK1 HTK (fun f u20 wy lost hlo EY => then_n ?_)))))
  refine sq (by kernel_rfl) (bn33 hlo (fun f => then_n ?_))
  have sy := EY.size
  obtain ⟨⟨j0, j1⟩, ⟨f0, f1⟩, -⟩ := HF6.out wy EY
  have TY := HT1'.below EY
  have ZY : wy.heap[w1.heap.size]? = some (.cells #[.int .i64 now1, .slice ob l cb] 27 (0, 0)) := (EY.block _ (by omega)).trans ((HB6.block _ lj).trans HBX.out)
  refine bn35 f0 f1 j0 j1 (fun o => zUf ZY o) (fun f => hQ.out f _ _ _ _ _ _ _ _ _ _ _ _ m1 now1 oa1 cl1 us1 ⟨hm1, hm1c, hx1, by omega, HM1, HOK1.out, ?_, ?_, ?_⟩)
  ·intro u h
   exact (TY.q u fun b hb1 hb2 => (h b (by omega) (by simp [World.setCell]; omega)).trans ((zHs (by simp only; omega)).trans (zHs (by simp only; omega)))).1
  ·show _ = _
   rw [set_at (set_at ZY)]
   rfl
  ·exact Below.setCell (Below.setCell ((HBE.out.trans (HB6.mono hbs)).trans (EY.mono (by omega))) (by simp only; omega) _) (by simp only; omega) _
 refine sq (by kernel_rfl) (sq (by kernel_rfl) (bn18 ((hP.then _).then _) hki E9 HF6 HXC16 HS6 HOK HTK (fun a w10 b hb hbt HE10 hf => then_n ?_)))
 obtain ⟨f5, rfl⟩ := hf
 cases b
 ·exact cd_f (by kernel_rfl) hb (then_n (REST _ _ _ _ w10 HE10))
 ·obtain ⟨hc0, hyx⟩ := hbt rfl
  exact cd_t (by kernel_rfl) hb (bnTold (hP.then _) hki hl hm1 HE10 HF6 HXC16 HS6 HTL HM1 HOK HOK1 HTK hc0 hyx (fun f u16 u17 u18 wy EY => then_n (REST _ _ _ _ wy EY)))
end Go.Proofs.YtjbkgmbakjnlhaaGreatDoor
