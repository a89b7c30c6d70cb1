import Derived.Test.YtjbkgmbakjnlhaaGreatDoorPartBe
import Derived.Test.YtjbkgmbakjnlhaaGreatDoorPartBg
import Derived.Test.YtjbkgmbakjnlhaaGreatDoorPartAk
import Derived.Test.YtjbkgmbakjnlhaaGreatDoorBenchS
namespace Go.Proofs.YtjbkgmbakjnlhaaGreatDoor
set_option maxRecDepth 100000
open Go.RowKit
set_option maxHeartbeats 25600000 in
theorem bn18 {Q : Exit → Act → World → Prop} (hP : PanicOk Q) {w1 w6 : World} {gl n cl k l m1 m2 zA zB zC zD cl1 cl2 k2 cb : Nat} {now1 c1' : Int} {ob oa1 oa2 a2 : Option Addr} {ts us1 us2 : List SV} {x y1 : RV} {v0 v1 v2 v6 v7 v8 v9f v16 v17 v18 v19 v20 : Value} {f : Nat → Value} {v9 : World} (hki : (k : Int) < (n : Int)) (E9 : Below w6.heap.size w6 v9) (HF6 : Hid (F6 w1 w6 zA zB zC zD l m1 cl1 m2 cl2 cb k2 now1 ob oa1 oa2 a2 y1)) (HXC16 : Hid (∀ u, Below w6.heap.size w6 u → X9 u gl (k * 9) x)) (HS6 : Hid (∀ u, Below w6.heap.size w6 u → (SLq u oa1 us1 ∧ ROk u y1) ∧ (SLq u oa2 us2 ∧ ROk u ⟨y1.p, a2, k2, y1.zs⟩) ∧ ROk u x ∧ SLq u ob ts)) (HOK : Hid (benchOk now1 ts)) (HTK : Hid (takeK now1 (ts.map SV.key) x.key = (us1.map SV.key, y1.key, c1'))) (hQ : Hid (∀ (a : Act) (wx : World) (b : Bool), a.eval (.tmp 136) = .bool b → (b = true → c1' = 0 ∧ y1.key ≠ x.key) → Below w6.heap.size w6 wx → (∃ f, a = fr v0 v1 v2 (.slice (some ⟨gl, 0, none⟩) n cl) (.pointer (some ⟨w1.heap.size, 0, none⟩)) (.int .i64 k) v6 v7 v8 v9f (.pointer (some ⟨zA, 0, none⟩)) (.pointer (some ⟨zB, 0, none⟩)) (.int .i64 c1') (.pointer (some ⟨zC, 0, none⟩)) (.pointer (some ⟨zD, 0, none⟩)) (.int .i64 c1') v16 v17 v18 v19 v20 f) → Q .normal a wx)) : (Cd.fst (Cd.fst (Cd.snd (Cd.snd (Cd.snd (Cd.snd (Cd.inn (Cd.fst (Cd.snd (Cd.inn (Cd.inn (Cd.snd (Cd.fst (Cd.snd (Cd.snd (Cd.snd (Cd.snd (Option.getD Tryz.f3.body .skip)))))))))))))))))).wp Tryz.prog Q (fr v0 v1 v2 (.slice (some ⟨gl, 0, none⟩) n cl) (.pointer (some ⟨w1.heap.size, 0, none⟩)) (.int .i64 k) v6 v7 v8 v9f (.pointer (some ⟨zA, 0, none⟩)) (.pointer (some ⟨zB, 0, none⟩)) (.int .i64 c1') (.pointer (some ⟨zC, 0, none⟩)) (.pointer (some ⟨zD, 0, none⟩)) (.int .i64 c1') v16 v17 v18 v19 v20 f) v9 := by
 have E10 : Hid (Below w6.heap.size w6 v9.drew) := E9.drew
 refine wp_is (c' := .region _ _ _) rfl ?_
 unfold fr
 by_cases hc0 : c1' = 0
 ·have hcb : (c1' == 0) = true := beq_iff_eq.2 hc0
  have HC0 : Hid (c1' = 0) := hc0
  clear hc0
  have KX : Hid (∃ r : Bool, (r = false → y1.key ≠ x.key) ∧ ∀ u, Below w6.heap.size w6 u → Calls Tryz.prog 12 #[.agg #[.int .i64 y1.p.src, .int .i64 y1.p.dst, .int .i64 y1.p.kind, .int .i64 y1.p.id, .int .i64 y1.p.hops, .bool y1.p.whole, .int .i64 y1.p.off, .bool y1.p.more, .slice y1.a y1.zs.length y1.c], .agg #[.int .i64 x.p.src, .int .i64 x.p.dst, .int .i64 x.p.kind, .int .i64 x.p.id, .int .i64 x.p.hops, .bool x.p.whole, .int .i64 x.p.off, .bool x.p.more, .slice x.a x.zs.length x.c]] u fun e w' => e = .returned (.bool r) ∧ Below u.heap.size u w') := by
   by_cases hyx : y1.key = x.key
   ·refine ⟨true, fun h => (by cases h), fun u h => ?_⟩
    have e5 : y1.p = x.p := congrArg Prod.fst hyx
    have e6 : y1.zs = x.zs := congrArg Prod.snd hyx
    have g5 := (HS6.out u h).1.2
    have g6 := (HS6.out u h).2.2.1
    have h5 := wfSame_same x.p y1.a x.a x.zs.length y1.c x.c x.zs u (by have := g5.rd; rw [e6] at this; exact this) g6.rd g6.len
    rw [← e5, ← e6] at h5
    rw [← e5, ← e6]
    exact h5
   ·refine ⟨false, fun _ => hyx, fun u h => ?_⟩
    have htk0 := HTK.out
    rw [HC0.out] at htk0
    obtain ⟨i, s, -, -, -, -, hj, -, -, -, hcut⟩ := take_told HOK.out htk0 hyx
    obtain ⟨o1, o2⟩ := told_off hj
    refine wfSame_off y1.p x.p y1.a x.a y1.zs.length x.zs.length y1.c x.c u ?_
    by_cases hxo : x.p.off = 0
    ·exact Or.inr (fun e => hcut ⟨hxo, e.symm.trans o2⟩)
    ·exact Or.inl (fun e => hxo (e.symm.trans o1))
  obtain ⟨r, hr, hKX⟩ := KX.out
  have HKX : Hid (∀ u, Below w6.heap.size w6 u → Calls Tryz.prog 12 #[.agg #[.int .i64 y1.p.src, .int .i64 y1.p.dst, .int .i64 y1.p.kind, .int .i64 y1.p.id, .int .i64 y1.p.hops, .bool y1.p.whole, .int .i64 y1.p.off, .bool y1.p.more, .slice y1.a y1.zs.length y1.c], .agg #[.int .i64 x.p.src, .int .i64 x.p.dst, .int .i64 x.p.kind, .int .i64 x.p.id, .int .i64 x.p.hops, .bool x.p.whole, .int .i64 x.p.off, .bool x.p.more, .slice x.a x.zs.length x.c]] u fun e w' => e = .returned (.bool r) ∧ Below u.heap.size u w') := hKX
  clear KX hKX
  refine wp_region_held_drew (S := fun u => Below w6.heap.size w6 u) (by kernel_rfl) E10.out (fun hH => ?_)
  refine zTq hP 0 126 (.int .i64 c1') rfl (fun w hS => by go_simp) hH ?_; simp only [Act.put, zX, zY, zZ]
  refine zTq hP 1 127 (.bool true) rfl (fun w hS => by go_simp) hH ?_; simp only [Act.put, zX, zY, zZ]
  refine zTq hP 2 128 (.bool true) rfl (fun w hS => by go_simp) hH ?_; simp only [Act.put, zX, zY, zZ]
  refine zTq hP 3 129 (.agg #[.int .i64 y1.p.src, .int .i64 y1.p.dst, .int .i64 y1.p.kind, .int .i64 y1.p.id, .int .i64 y1.p.hops, .bool y1.p.whole, .int .i64 y1.p.off, .bool y1.p.more, .slice y1.a y1.zs.length y1.c]) rfl (fun w hS => by obtain ⟨-, -, -, ⟨lq, q0, q1, q2, q3, q4, q5, q6, q7, q8⟩, -⟩ := HF6.out _ hS; go_simp) hH ?_; simp only [Act.put, zX, zY, zZ]
  refine zTq hP 4 130 (.slice (some ⟨gl, 0, none⟩) n cl) rfl (fun w hS => by go_simp) hH ?_; simp only [Act.put, zX, zY, zZ]
  refine zTq hP 5 131 (.int .i64 k) rfl (fun w hS => by go_simp) hH ?_; simp only [Act.put, zX, zY, zZ]
  refine zTq hP 6 132 (.pointer (some ⟨gl, k * 9, none⟩)) rfl (fun w hS => by go_simp) hH ?_; simp only [Act.put, zX, zY, zZ]
  refine zTq hP 7 133 (.agg #[.int .i64 x.p.src, .int .i64 x.p.dst, .int .i64 x.p.kind, .int .i64 x.p.id, .int .i64 x.p.hops, .bool x.p.whole, .int .i64 x.p.off, .bool x.p.more, .slice x.a x.zs.length x.c]) rfl (fun w hS => by obtain ⟨y0, y1, y2, y3, y4, y5, y6, y7, y8⟩ := HXC16.out _ hS; go_simp) hH ?_; simp only [Act.put, zX, zY, zZ]
  refine zRd 8 (by kernel_rfl) rfl (fun K hK => ?_)
  go_simp
  (with_reducible refine (HKX.out _ E10.out).mono ?_)
  rintro e v10 ⟨rfl, d10⟩
  have E11 : Hid (Below w6.heap.size w6 v10) := E10.out.trans (d10.mono E10.out.size)
  go_simp
  refine hK.out _ _ E11.out (fun hH => ?_)
  clear hK K d10 HKX
  (first | (simp only [zX, zY, zZ]) | skip)
  refine zTq hP 9 135 (.bool (!r)) rfl (fun w hS => by go_simp) hH ?_; simp only [Act.put, zX, zY, zZ]
  refine zTq hP 10 136 (.bool (!r)) rfl (fun w hS => by go_simp) hH ?_; simp only [Act.put, zX, zY, zZ]
  refine wpAnyH_done (by kernel_rfl) ?_ _
  refine hQ.out _ _ (!r) (by rfl) ?_ ?_ ?_
  ·exact fun h => ⟨HC0.out, hr (by simpa using h)⟩
  ·exact E11.out
  ·exact fr_end (C := fun a => ∃ f, a = fr v0 v1 v2 (.slice (some ⟨gl, 0, none⟩) n cl) (.pointer (some ⟨w1.heap.size, 0, none⟩)) (.int .i64 k) v6 v7 v8 v9f (.pointer (some ⟨zA, 0, none⟩)) (.pointer (some ⟨zB, 0, none⟩)) (.int .i64 c1') (.pointer (some ⟨zC, 0, none⟩)) (.pointer (some ⟨zD, 0, none⟩)) (.int .i64 c1') v16 v17 v18 v19 v20 f) rfl rfl rfl (fun f => ⟨f, rfl⟩)
 ·have hcb : (c1' == 0) = false := beq_eq_false_iff_ne.2 hc0
  clear hc0
  refine wp_region_held_drew (S := fun u => Below w6.heap.size w6 u) (by kernel_rfl) E10.out (fun hH => ?_)
  refine zTq hP 0 126 (.int .i64 c1') rfl (fun w hS => by go_simp) hH ?_; simp only [Act.put, zX, zY, zZ]
  refine zTq hP 1 127 (.bool false) rfl (fun w hS => by go_simp) hH ?_; simp only [Act.put, zX, zY, zZ]
  refine zTq hP 2 128 (.bool false) rfl (fun w hS => by go_simp) hH ?_; simp only [Act.put, zX, zY, zZ]
  refine take_skipH 3 (some 129) rfl rfl (by kernel_rfl) (by kernel_rfl) (by kernel_rfl) (fun _ _ _ h => hP _ _ _ _ _ h) (by rfl) hH ?_
  simp only [Act.put, zX, zY, zZ]
  refine take_skipH 4 (some 130) rfl rfl (by kernel_rfl) (by kernel_rfl) (by kernel_rfl) (fun _ _ _ h => hP _ _ _ _ _ h) (by rfl) hH ?_
  simp only [Act.put, zX, zY, zZ]
  refine take_skipH 5 (some 131) rfl rfl (by kernel_rfl) (by kernel_rfl) (by kernel_rfl) (fun _ _ _ h => hP _ _ _ _ _ h) (by rfl) hH ?_
  simp only [Act.put, zX, zY, zZ]
  refine take_skipH 6 (some 132) rfl rfl (by kernel_rfl) (by kernel_rfl) (by kernel_rfl) (fun _ _ _ h => hP _ _ _ _ _ h) (by rfl) hH ?_
  simp only [Act.put, zX, zY, zZ]
  refine take_skipH 7 (some 133) rfl rfl (by kernel_rfl) (by kernel_rfl) (by kernel_rfl) (fun _ _ _ h => hP _ _ _ _ _ h) (by rfl) hH ?_
  simp only [Act.put, zX, zY, zZ]
  refine take_skipH 8 (some 134) rfl rfl (by kernel_rfl) (by kernel_rfl) (by kernel_rfl) (fun _ _ _ h => hP _ _ _ _ _ h) (by rfl) hH ?_
  simp only [Act.put, zX, zY, zZ]
  refine take_skipH 9 (some 135) rfl rfl (by kernel_rfl) (by kernel_rfl) (by kernel_rfl) (fun _ _ _ h => hP _ _ _ _ _ h) (by rfl) hH ?_
  simp only [Act.put, zX, zY, zZ]
  refine zTq hP 10 136 (.bool false) rfl (fun w hS => by go_simp) hH ?_; simp only [Act.put, zX, zY, zZ]
  refine wpAnyH_done (by kernel_rfl) ?_ _
  refine hQ.out _ _ (false) (by rfl) ?_ ?_ ?_
  ·exact fun h => (by cases h)
  ·exact E10.out
  ·exact fr_end (C := fun a => ∃ f, a = fr v0 v1 v2 (.slice (some ⟨gl, 0, none⟩) n cl) (.pointer (some ⟨w1.heap.size, 0, none⟩)) (.int .i64 k) v6 v7 v8 v9f (.pointer (some ⟨zA, 0, none⟩)) (.pointer (some ⟨zB, 0, none⟩)) (.int .i64 c1') (.pointer (some ⟨zC, 0, none⟩)) (.pointer (some ⟨zD, 0, none⟩)) (.int .i64 c1') v16 v17 v18 v19 v20 f) rfl rfl rfl (fun f => ⟨f, rfl⟩)
set_option maxHeartbeats 6400000 in
theorem wfOf_row (now : Int) (g cl k : Nat) (ss : List SV) (p : RV) (w : World) (hL : SL w g ss) (hk : k ≤ ss.length) (hm : ss.length ≤ 1048576) (hp : p.zs.length ≤ 1048576) (hW : ∀ (j : Nat) s, j < k → ss[j]? = some s → ∃ x, s.xs[0]? = some x) :
  Calls Tryz.prog 14 #[.agg #[.int .i64 now, .slice (some ⟨g, 0, none⟩) k cl], .agg #[.int .i64 p.p.src, .int .i64 p.p.dst, .int .i64 p.p.kind, .int .i64 p.p.id, .int .i64 p.p.hops, .bool p.p.whole, .int .i64 p.p.off, .bool p.p.more, .slice p.a p.zs.length p.c]] w (SlotPost ss k p w) := by
 have HL : Hid (SL w g ss) := hL
 have HW : Hid (∀ (j : Nat) s, j < k → ss[j]? = some s → ∃ x, s.xs[0]? = some x) := hW
 clear hL hW
 go_enter Tryz.func14, Tryz.ntmps14
 go_wp2
 go_loopw [5] (fun i wr => ∃ j : Nat, j ≤ k ∧ i = .int .i64 j ∧ Hid (∀ (i : Nat) r, i < j → ss[i]? = some r → ¬ alikeTo r p) ∧ Hid (Below (w.heap.size + 2) ((w.alloc (.cells #[.int .i64 now, .slice (some ⟨g, 0, none⟩) k cl] 27)).alloc (.cells (pcells p.p (.slice p.a p.zs.length p.c)) 29)) wr)) (fun i _ => k - (intOf i).toNat)
 case atStart => exact ⟨0, by omega, rfl, fun j s h => by omega, Below.refl _ _⟩
 case round =>
  obtain ⟨j, hj, rfl, HA, HB⟩ := hrel
  have HB' : Hid (Below w.heap.size w wr) := (Joins.below_alloc2 _ _ _).trans (HB.out.mono (by omega))
  have XB : wr.heap[w.heap.size]? = some (.cells #[.int .i64 now, .slice (some ⟨g, 0, none⟩) k cl] 27 (0, 0)) := (HB.out.block _ (by omega)).trans ((zHa (by simp)).trans (heap_new _ _ _ rfl))
  have xb : wr.cell? ⟨w.heap.size, 1, none⟩ = some (.slice (some ⟨g, 0, none⟩) k cl) := zCr XB
  have lxb := lt_of_block XB
  clear XB
  by_cases hjk : j < k
  ·have hjk' : (j : Int) < (k : Int) := by omega
   obtain ⟨y, hy⟩ := get_of_lt (show j < ss.length by omega)
   have Lr := HL.out.below HB'.out
   obtain ⟨d0, d1, d2⟩ := Lr.elem j y hy
   have hgr := Lr.lt
   have HY : Hid (ss[j]? = some y) := hy
   have HOY := Lr.each y (List.mem_of_getElem? hy)
   obtain ⟨gy, hya, RY⟩ := HOY.at_
   rw [hya] at d0
   obtain ⟨q, hq⟩ := HW.out j y hjk hy
   have HQ : Hid (y.xs[0]? = some q) := hq
   have hyl := HOY.len
   obtain ⟨ny, hny⟩ : ∃ ny, y.xs.length = ny := ⟨_, rfl⟩
   have hy0 : (0 : Int) < (ny : Int) := by
    rw [List.getElem?_eq_some_iff] at hq
    have := hq.1
    omega
   rw [hny] at d0 hyl
   have hny0 : 0 < ny := by omega
   obtain ⟨q0, q1, q2, q3, q4, q5, q6, q7, q8⟩ := (RY.elem 0 q hq).head
   have XP : wr.heap[w.heap.size + 1]? = some (.cells (pcells p.p (.slice p.a p.zs.length p.c)) 29 (0, 0)) := (HB.out.block _ (by omega)).trans (heap_new _ _ _ (by simp))
   obtain ⟨lx, p0, p1, p2, p3, p4, p5, p6, p7, p8⟩ := Boxed.of_block XP
   have lgy := RY.lt
   have lq := (RY.each q (List.mem_of_getElem? hq)).len
   have KA : Hid (∀ W : World, Calls Tryz.prog 16 #[.agg #[.int .i64 q.p.src, .int .i64 q.p.dst, .int .i64 q.p.kind, .int .i64 q.p.id, .int .i64 q.p.hops, .bool q.p.whole, .int .i64 q.p.off, .bool q.p.more, .slice q.a q.zs.length q.c], .agg #[.int .i64 p.p.src, .int .i64 p.p.dst, .int .i64 p.p.kind, .int .i64 p.p.id, .int .i64 p.p.hops, .bool p.p.whole, .int .i64 p.p.off, .bool p.p.more, .slice p.a p.zs.length p.c]] W fun e w' => e = .returned (.bool (alikeB (q.p, q.zs) (p.p, p.zs))) ∧ Below W.heap.size W w') := fun W => specAlike_any q.p p.p q.a p.a q.zs p.zs q.c p.c W lq hp
   obtain ⟨al, hal⟩ : ∃ al, alikeB (q.p, q.zs) (p.p, p.zs) = al := ⟨_, rfl⟩
   rw [hal] at KA
   have HAL : Hid (alikeB (q.p, q.zs) (p.p, p.zs) = al) := hal
   have HF : Hid (al = true ↔ alikeTo y p) := by
    constructor
    ·intro h
     exact ⟨q, HQ.out, HAL.out.trans h⟩
    ·rintro ⟨u, h1, h3⟩
     rw [HQ.out] at h1
     obtain rfl := Option.some.inj h1
     exact HAL.out.symm.trans h3
   clear hal hq hy Lr HOY RY hny XP
   go_wp2
   go_region_held3 (fun w' => w'.cell? ⟨w.heap.size, 1, none⟩ = some (.slice (some ⟨g, 0, none⟩) k cl) ∧ w'.cell? ⟨g, j * 3, none⟩ = some (.slice (some ⟨gy, 0, none⟩) ny y.c) ∧ w'.cell? ⟨w.heap.size + 1, 0, none⟩ = some (.int .i64 p.p.src) ∧ w'.cell? ⟨w.heap.size + 1, 1, none⟩ = some (.int .i64 p.p.dst) ∧ w'.cell? ⟨w.heap.size + 1, 2, none⟩ = some (.int .i64 p.p.kind) ∧ w'.cell? ⟨w.heap.size + 1, 3, none⟩ = some (.int .i64 p.p.id) ∧ w'.cell? ⟨w.heap.size + 1, 4, none⟩ = some (.int .i64 p.p.hops) ∧ w'.cell? ⟨w.heap.size + 1, 5, none⟩ = some (.bool p.p.whole) ∧ w'.cell? ⟨w.heap.size + 1, 6, none⟩ = some (.int .i64 p.p.off) ∧ w'.cell? ⟨w.heap.size + 1, 7, none⟩ = some (.bool p.p.more) ∧ w'.cell? ⟨w.heap.size + 1, 8, none⟩ = some (.slice p.a p.zs.length p.c) ∧ w'.cell? ⟨gy, 0, none⟩ = some (.int .i64 q.p.src) ∧ w'.cell? ⟨gy, 1, none⟩ = some (.int .i64 q.p.dst) ∧ w'.cell? ⟨gy, 2, none⟩ = some (.int .i64 q.p.kind) ∧ w'.cell? ⟨gy, 3, none⟩ = some (.int .i64 q.p.id) ∧ w'.cell? ⟨gy, 4, none⟩ = some (.int .i64 q.p.hops) ∧ w'.cell? ⟨gy, 5, none⟩ = some (.bool q.p.whole) ∧ w'.cell? ⟨gy, 6, none⟩ = some (.int .i64 q.p.off) ∧ w'.cell? ⟨gy, 7, none⟩ = some (.bool q.p.more) ∧ w'.cell? ⟨gy, 8, none⟩ = some (.slice q.a q.zs.length q.c)) (go_keep)
    (first
     | (go_at_call 16; (with_reducible refine (KA.out _).mono ?_); rintro e w1 ⟨rfl, b1⟩; have hc1 : ∀ b o, b < wr.heap.size → w1.cell? ⟨b, o, none⟩ = wr.cell? ⟨b, o, none⟩ := fun b o h => b1.cell (p := ⟨b, o, none⟩) (by simpa using h)))
   have B1 : Hid (Below (w.heap.size + 2) ((w.alloc (.cells #[.int .i64 now, .slice (some ⟨g, 0, none⟩) k cl] 27)).alloc (.cells (pcells p.p (.slice p.a p.zs.length p.c)) 29)) w1) := (HB.out.drew).trans (b1.mono (by simp; omega))
   clear hc1 b1
   cases al
   ·go_wp2
    go_roundw
    case rel =>
     refine ⟨j + 1, by omega, by go_num, fun i r hi hr => ?_, B1.out⟩
     rcases Nat.lt_or_ge i j with h' | h'
     ·exact HA.out i r h' hr
     ·obtain rfl : i = j := by omega
      rw [HY.out] at hr
      obtain rfl := Option.some.inj hr
      exact fun h => by have := HF.out.2 h; cases this
    case measure => simp [intOf]; omega
   ·go_wp2
    go_ret
    exact ⟨(j : Int), rfl, Or.inr ⟨j, y, rfl, hjk, HY.out, HF.out.1 (by trivial), fun i r h hr => HA.out i r h hr⟩, (Joins.below_alloc2 _ _ _).trans (B1.out.mono (by omega))⟩
  ·have hjk' : ¬ ((j : Int) < (k : Int)) := by omega
   go_wp2
   go_ret
   exact ⟨-1, rfl, Or.inl ⟨rfl, fun i r h hr => HA.out i r (by omega) hr⟩, HB'.out⟩
set_option maxHeartbeats 3200000 in
theorem wfOf_nil (now : Int) (oa : Option Addr) (cl : Nat) (p : RV) (w : World) :
  Calls Tryz.prog 14 #[.agg #[.int .i64 now, .slice oa 0 cl], .agg #[.int .i64 p.p.src, .int .i64 p.p.dst, .int .i64 p.p.kind, .int .i64 p.p.id, .int .i64 p.p.hops, .bool p.p.whole, .int .i64 p.p.off, .bool p.p.more, .slice p.a p.zs.length p.c]] w fun e w' => e = .returned (.int .i64 (-1)) ∧ Below w.heap.size w w' := by
 go_enter Tryz.func14, Tryz.ntmps14
 go_wp2
 go_loopw [5] (fun i wr => i = .int .i64 0 ∧ Hid (Below (w.heap.size + 2) ((w.alloc (.cells #[.int .i64 now, .slice oa 0 cl] 27)).alloc (.cells (pcells p.p (.slice p.a p.zs.length p.c)) 29)) wr)) (fun _ _ => 0)
 case atStart => exact ⟨rfl, Below.refl _ _⟩
 case round =>
  obtain ⟨rfl, HB⟩ := hrel
  have XB : wr.heap[w.heap.size]? = some (.cells #[.int .i64 now, .slice oa 0 cl] 27 (0, 0)) := (HB.out.block _ (by omega)).trans ((zHa (by simp)).trans (heap_new _ _ _ rfl))
  have xb : wr.cell? ⟨w.heap.size, 1, none⟩ = some (.slice oa 0 cl) := zCr XB
  have lxb := lt_of_block XB
  clear XB
  go_wp2
  go_ret
  exact ⟨rfl, (Joins.below_alloc2 _ _ _).trans (HB.out.mono (by omega))⟩
theorem wfOf_q (now : Int) (oa : Option Addr) (cl : Nat) (ss : List SV) (p : RV) (w : World) (hL : SLq w oa ss) (hm : ss.length ≤ 1048576) (hp : p.zs.length ≤ 1048576) (hW : ∀ s ∈ ss, ∃ x, s.xs[0]? = some x) :
  Calls Tryz.prog 14 #[.agg #[.int .i64 now, .slice oa ss.length cl], .agg #[.int .i64 p.p.src, .int .i64 p.p.dst, .int .i64 p.p.kind, .int .i64 p.p.id, .int .i64 p.p.hops, .bool p.p.whole, .int .i64 p.p.off, .bool p.p.more, .slice p.a p.zs.length p.c]] w (SlotPost ss ss.length p w) := by
 rcases hL with rfl | ⟨g, rfl, h⟩
 ·exact (wfOf_nil now oa cl p w).mono (by
   rintro e w' ⟨rfl, b⟩
   exact ⟨-1, rfl, Or.inl ⟨rfl, fun j s hj => by simp at hj⟩, b⟩)
 ·exact wfOf_row now g cl ss.length ss p w h (Nat.le_refl _) hm hp (fun j s _ hj => hW s (List.mem_of_getElem? hj))
set_option maxHeartbeats 25600000 in
theorem bn19 {Q : Exit → Act → World → Prop} (hP : PanicOk Q) {w1 w6 : World} {gl n cl k l m1 m2 zA zB zC zD cl1 cl2 k2 cb : Nat} {now1 c1' : Int} {ob oa1 oa2 a2 : Option Addr}  {x y1 : RV} {v0 v1 v2 v6 v7 v8 v9 v16 v17 v18 v19 v20 : Value} {f : Nat → Value} {w10 : World} {i0 : Nat} (hki : (k : Int) < (n : Int)) (E10 : Below w6.heap.size w6 w10) (HF6 : Hid (F6 w1 w6 zA zB zC zD l m1 cl1 m2 cl2 cb k2 now1 ob oa1 oa2 a2 y1)) (HXC16 : Hid (∀ u, Below w6.heap.size w6 u → X9 u gl (k * 9) x)) (K19 : Hid (∀ u, Below w6.heap.size w6 u → Calls Tryz.prog 14 #[.agg #[.int .i64 now1, .slice ob l cb], .agg #[.int .i64 x.p.src, .int .i64 x.p.dst, .int .i64 x.p.kind, .int .i64 x.p.id, .int .i64 x.p.hops, .bool x.p.whole, .int .i64 x.p.off, .bool x.p.more, .slice x.a x.zs.length x.c]] u fun e w' => e = .returned (.int .i64 i0) ∧ Below u.heap.size u w')) (hQ : Hid (∀ f wx, Below w6.heap.size w6 wx → Q .normal (fr v0 v1 v2 (.slice (some ⟨gl, 0, none⟩) n cl) (.pointer (some ⟨w1.heap.size, 0, none⟩)) (.int .i64 k) v6 v7 v8 v9 (.pointer (some ⟨zA, 0, none⟩)) (.pointer (some ⟨zB, 0, none⟩)) (.int .i64 c1') (.pointer (some ⟨zC, 0, none⟩)) (.pointer (some ⟨zD, 0, none⟩)) (.int .i64 c1') (.int .i64 i0) v17 v18 v19 v20 f) wx)) : (Cd.fst (Cd.thn (Cd.snd (Cd.fst (Cd.snd (Cd.snd (Cd.snd (Cd.snd (Cd.inn (Cd.fst (Cd.snd (Cd.inn (Cd.inn (Cd.snd (Cd.fst (Cd.snd (Cd.snd (Cd.snd (Cd.snd (Option.getD Tryz.f3.body .skip)))))))))))))))))))).wp Tryz.prog Q (fr v0 v1 v2 (.slice (some ⟨gl, 0, none⟩) n cl) (.pointer (some ⟨w1.heap.size, 0, none⟩)) (.int .i64 k) v6 v7 v8 v9 (.pointer (some ⟨zA, 0, none⟩)) (.pointer (some ⟨zB, 0, none⟩)) (.int .i64 c1') (.pointer (some ⟨zC, 0, none⟩)) (.pointer (some ⟨zD, 0, none⟩)) (.int .i64 c1') v16 v17 v18 v19 v20 f) w10 := by
 have E11 : Hid (Below w6.heap.size w6 w10.drew) := E10.drew
 refine wp_is (c' := .region _ _ _) rfl ?_
 unfold fr
 refine wp_region_held_drew (S := fun u => Below w6.heap.size w6 u) (by kernel_rfl) E11.out (fun hH => ?_)
 refine zTq hP 0 137 (.agg #[.int .i64 now1, .slice ob l cb]) rfl (fun w hS => by obtain ⟨⟨s0', s1'⟩, -⟩ := HF6.out _ hS; go_simp) hH ?_; simp only [Act.put, zX, zY, zZ]
 refine zTq hP 1 138 (.slice (some ⟨gl, 0, none⟩) n cl) rfl (fun w hS => by go_simp) hH ?_; simp only [Act.put, zX, zY, zZ]
 refine zTq hP 2 139 (.int .i64 k) rfl (fun w hS => by go_simp) hH ?_; simp only [Act.put, zX, zY, zZ]
 refine zTq hP 3 140 (.pointer (some ⟨gl, k * 9, none⟩)) rfl (fun w hS => by go_simp) hH ?_; simp only [Act.put, zX, zY, zZ]
 refine zTq hP 4 141 (.agg #[.int .i64 x.p.src, .int .i64 x.p.dst, .int .i64 x.p.kind, .int .i64 x.p.id, .int .i64 x.p.hops, .bool x.p.whole, .int .i64 x.p.off, .bool x.p.more, .slice x.a x.zs.length x.c]) rfl (fun w hS => by obtain ⟨y0, y1, y2, y3, y4, y5, y6, y7, y8⟩ := HXC16.out _ hS; go_simp) hH ?_; simp only [Act.put, zX, zY, zZ]
 refine zRd 5 (by kernel_rfl) rfl (fun K hK => ?_)
 go_simp
 (with_reducible refine (K19.out _ E11.out).mono ?_)
 rintro e u10 ⟨rfl, d10⟩
 have E12 : Hid (Below w6.heap.size w6 u10) := E11.out.trans (d10.mono E11.out.size)
 go_simp
 refine hK.out _ _ E12.out (fun hH => ?_)
 clear hK K d10
 (first | (simp only [zX, zY, zZ]) | skip)
 refine zTq hP 6 16 (.int .i64 i0) rfl (fun w hS => by go_simp) hH ?_; simp only [Act.put, zX, zY, zZ]
 refine wpAnyH_done (by kernel_rfl) ?_ _
 refine fr_end (C := fun a => Q .normal a _) rfl rfl rfl (fun f => ?_)
 exact hQ.out f _ E12.out
set_option maxHeartbeats 25600000 in
theorem bn20 {Q : Exit → Act → World → Prop} {w1 w6 : World} {gl n cl k l m1 m2 zA zB zC zD cl1 cl2 k2 cb : Nat} {now1 c1' : Int} {ob oa1 oa2 a2 : Option Addr}  {y1 : RV} {v0 v1 v2 v6 v7 v8 v9 v17 v18 v19 v20 : Value} {f : Nat → Value} {w11 : World} {i0 gS : Nat} (hob : ob = some ⟨gS, 0, none⟩) (hi0l : (i0 : Int) < (l : Int)) (E11 : Below w6.heap.size w6 w11) (HF6 : Hid (F6 w1 w6 zA zB zC zD l m1 cl1 m2 cl2 cb k2 now1 ob oa1 oa2 a2 y1)) (s2c : w11.cell? ⟨gS, i0 * 3 + 2, none⟩ = some (.bool false)) (hQ : Hid (∀ f, Q .normal (fr v0 v1 v2 (.slice (some ⟨gl, 0, none⟩) n cl) (.pointer (some ⟨w1.heap.size, 0, none⟩)) (.int .i64 k) v6 v7 v8 v9 (.pointer (some ⟨zA, 0, none⟩)) (.pointer (some ⟨zB, 0, none⟩)) (.int .i64 c1') (.pointer (some ⟨zC, 0, none⟩)) (.pointer (some ⟨zD, 0, none⟩)) (.int .i64 c1') (.int .i64 i0) v17 v18 v19 v20 f) w11)) : (Cd.fst (Cd.snd (Cd.thn (Cd.snd (Cd.fst (Cd.snd (Cd.snd (Cd.snd (Cd.snd (Cd.inn (Cd.fst (Cd.snd (Cd.inn (Cd.inn (Cd.snd (Cd.fst (Cd.snd (Cd.snd (Cd.snd (Cd.snd (Option.getD Tryz.f3.body .skip))))))))))))))))))))).wp Tryz.prog Q (fr v0 v1 v2 (.slice (some ⟨gl, 0, none⟩) n cl) (.pointer (some ⟨w1.heap.size, 0, none⟩)) (.int .i64 k) v6 v7 v8 v9 (.pointer (some ⟨zA, 0, none⟩)) (.pointer (some ⟨zB, 0, none⟩)) (.int .i64 c1') (.pointer (some ⟨zC, 0, none⟩)) (.pointer (some ⟨zD, 0, none⟩)) (.int .i64 c1') (.int .i64 i0) v17 v18 v19 v20 f) w11 := by
 subst hob
 obtain ⟨⟨b0, b1⟩, -⟩ := HF6.out w11 E11
 have hi00 : ¬ ((i0 : Int) < 0) := by omega
 clear HF6 E11
 refine wp_is (c' := .seq _ _) rfl ?_
 unfold fr
 go_wp2
 refine fr_end (C := fun a => Q .normal a _) rfl rfl rfl (fun f => ?_)
 exact hQ.out f
end Go.Proofs.YtjbkgmbakjnlhaaGreatDoor
