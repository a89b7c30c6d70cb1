import Derived.Test.YtjbkgmbakjnlhaaGreatDoorPartAy
import Derived.Test.YtjbkgmbakjnlhaaGreatDoorPartAx
import Derived.Test.YtjbkgmbakjnlhaaGreatDoorPartAa
import Derived.Test.YtjbkgmbakjnlhaaGreatDoorPartAv
import Derived.Test.YtjbkgmbakjnlhaaGreatDoorPartAu
import Derived.Test.YtjbkgmbakjnlhaaGreatDoorPartAd
import Derived.Test.YtjbkgmbakjnlhaaGreatDoorPartAb
namespace Go.Proofs.YtjbkgmbakjnlhaaGreatDoor
set_option maxRecDepth 100000
open Go.RowKit
def is9R (x : RV) : Bool := x.p.src == 9
structure DrawnR (p : Pk) (ds : List Int) (xs : List RV) : Prop where
 each : ∀ x ∈ xs, (x.p.src = 9 ∧ PieceOf p ds x.key ∧ ¬ (x.p.off = 0 ∧ x.p.more = false)) ∨ k4of x.p ∈ [((0, 0, 1, 0) : K4), (1, 0, 1, 0), (2, 0, 1, 0)]
 ways : Ways p ds ((xs.filter is9R).map RV.key)
 few : (xs.filter is9R).length ≤ 40
theorem Drawn.rv {p : Pk} {ds : List Int} {qs : List PV} (h : Drawn p ds qs) : DrawnR p ds (qs.map PV.rv) := by
 have e : (qs.map PV.rv).filter is9R = (qs.filter is9).map PV.rv := by
  rw [List.filter_map]
  rfl
 refine ⟨fun x hx => ?_, ?_, ?_⟩
 ·obtain ⟨y, hy, rfl⟩ := List.mem_map.1 hx
  exact h.each y hy
 ·rw [e, rv_keys]
  exact h.ways
 ·rw [e, List.length_map]
  exact h.few
structure ASt (p : Pk) (ds : List Int) (xs : List RV) (k : Nat) (ts : List SV) (G : List RV) : Prop where
 am : Am p (ts.map SV.key) (G.map RV.key)
 g : G = (xs.take k).filter is9R
 nw : ¬ Ways p ds (G.map RV.key)
theorem ASt.zero (p : Pk) (ds : List Int) (xs : List RV) : ASt p ds xs 0 [] [] := ⟨Am.nil p, rfl, ways_nil⟩
theorem ASt.last {p : Pk} {ds : List Int} {xs : List RV} {k : Nat} {ts : List SV} {G : List RV} (D : DrawnR p ds xs) (h : ASt p ds xs k ts G) : k < xs.length := by
 rcases Nat.lt_or_ge k xs.length with h1 | h1
 ·exact h1
 ·have h2 := h.g
  rw [List.take_of_length_le h1] at h2
  exact absurd (h2 ▸ D.ways) h.nw
theorem take_next {xs : List RV} {k : Nat} {x : RV} (hx : xs[k]? = some x) : (xs.take (k + 1)).filter is9R = (xs.take k).filter is9R ++ [x].filter is9R := by
 rw [List.take_add_one, hx, List.filter_append]
 rfl
theorem ASt.step {p : Pk} {ds : List Int} {xs : List RV} {k : Nat} {ts us : List SV} {G : List RV} {x : RV} {q : PB} {c : Int} (hw : WholeOk p ds.length) (h9 : p.src = 9) (hd : 0 < ds.length) (D : DrawnR p ds xs) (h : ASt p ds xs k ts G) (hx : xs[k]? = some x) (hk : takeK 0 (ts.map SV.key) x.key = (us.map SV.key, q, c)) :
  (c = 0 ∧ q = (p, ds) ∧ x.p.whole = false ∧ G.length < 40 ∧ (joinL (G.map RV.key)).1 ≠ 0 ∧ joinL ((G ++ [x]).map RV.key) = (0, (p, ds))) ∨
  (¬ (c = 0 ∧ q.1.src = 9) ∧ ASt p ds xs (k + 1) us (if is9R x then G ++ [x] else G)) := by
 have hpc : ∀ z ∈ G.map RV.key, PieceOf p ds z := fun z hz => by
  obtain ⟨y, hy, rfl⟩ := List.mem_map.1 hz
  rw [h.g] at hy
  obtain ⟨h1, h2⟩ := List.mem_filter.1 hy
  rcases D.each y (List.mem_of_mem_take h1) with h3 | h3
  ·exact h3.2.1
  ·exfalso
   have h4 : y.p.src = 9 := beq_iff_eq.1 h2
   simp only [List.mem_cons, List.not_mem_nil, or_false] at h3
   rcases h3 with e | e | e
   ·have : y.p.src = 0 := congrArg Prod.fst e; omega
   ·have : y.p.src = 1 := congrArg Prod.fst e; omega
   ·have : y.p.src = 2 := congrArg Prod.fst e; omega
 rcases D.each x (List.mem_of_getElem? hx) with ⟨hs, hp, hxw⟩ | ho
 ·have h9x : is9R x = true := beq_iff_eq.2 hs
  have hg' : G ++ [x] = (xs.take (k + 1)).filter is9R := by
   rw [take_next hx, ← h.g, List.filter_cons, if_pos h9x, List.filter_nil]
  have hlen : G.length < 40 := by
   have h1 : (G ++ [x]).length ≤ (xs.filter is9R).length := by
    rw [hg']
    exact ((List.take_sublist _ _).filter _).length_le
   have h2 := D.few
   rw [List.length_append, List.length_singleton] at h1
   omega
  rcases h.am.mine hw hpc hp hxw (by rw [List.length_map]; exact hlen) hd h.nw hk with ⟨hc, hq, hW⟩ | ⟨hc, hA, hW⟩
  ·refine Or.inl ⟨hc, hq, ?_, hlen, among_before hw hpc h.nw, ?_⟩
   ·exact (piece_key hp).2.2.2.2.2.trans hw.2.1
   ·rw [List.map_append]
    exact join_ways hw hW (by rw [List.length_append, List.length_map]; exact hlen)
  ·refine Or.inr ⟨fun h0 => hc h0.1, ?_⟩
   rw [if_pos h9x]
   refine ⟨?_, hg', ?_⟩
   ·rw [List.map_append]
    exact hA
   ·rw [List.map_append]
    exact hW
 ·obtain ⟨hA, hq⟩ := h.am.other h9 ho hk
  have h9x : is9R x = false := by
   unfold is9R
   rw [beq_eq_false_iff_ne]
   simp only [List.mem_cons, List.not_mem_nil, or_false] at ho
   rcases ho with e | e | e
   ·have : x.p.src = 0 := congrArg Prod.fst e; omega
   ·have : x.p.src = 1 := congrArg Prod.fst e; omega
   ·have : x.p.src = 2 := congrArg Prod.fst e; omega
  refine Or.inr ⟨fun h0 => hq h0.1 h0.2, ?_⟩
  rw [if_neg (by rw [h9x]; decide)]
  refine ⟨hA, ?_, h.nw⟩
  rw [take_next hx, List.filter_cons, if_neg (by rw [h9x]; decide), List.filter_nil, List.append_nil]
  exact h.g
def okR2 (i0 i2 i11 i12 : Nat) (b0 b2 b11 : Bool) (i : Nat) : Bool := (i == i0 && !b0) || (i == i2 && b0 && !b2) || (i == i11 && !b11) || (i == i12 && b2 && b11)
def app2Act (d0 d2 d11 : Tmp) (n : Nat) (a0 : Act) (b0 b2 b11 : Bool) (e g c y : Nat) : Act :=
 pf b0 d0 (.slice (some ⟨e, 0, none⟩) 0 0) (pf b2 d2 (.slice (some ⟨g, 0, none⟩) n c) (pf b11 d11 (.slice (some ⟨y, 0, none⟩) 1 1) a0))
theorem app2_region {P : Program} {ops : Array Oper} {Q : Exit → Act → World → Prop} {md : Region.Mode} {S : World → Prop} {W : World} {n : Nat} {xs ys : List Value} {yc : Array Value} (a0 : Act)
  (i0 i2 i11 i12 : Nat) (d0 d2 d11 d12 x s11 : Tmp) (Lf : Bool → Bool → Bool → Array Bool) (LE : Array Bool) (fx : Nat) (sl : TypeId)
  (ad : Addr) (cn : Nat) (yv : Value) (o2 o12 : Oper) (ti : TypeInfo)
  (hS : ∀ u, Below W.heap.size W u → S u)
  (hset : ∀ b0 b2 b11, (Lf b0 b2 b11).setIfInBounds i0 true = Lf true b2 b11 ∧ (Lf b0 b2 b11).setIfInBounds i2 true = Lf b0 true b11 ∧ (Lf b0 b2 b11).setIfInBounds i11 true = Lf b0 b2 true)
  (hsetE : (Lf true true true).setIfInBounds i12 true = LE)
  (hready : ∀ b0 b2 b11, ((Region.ready md ops (Lf b0 b2 b11)).all (okR2 i0 i2 i11 i12 b0 b2 b11) && !(Region.ready md ops (Lf b0 b2 b11)).isEmpty) = true)
  (hd : [d0, d2, d11, x, s11].Nodup) (hz : ∀ d ∈ [d0, d2, d11], d < a0.tmps.size)
  (hx : a0.eval (.tmp x) = .slice (some ad) n cn) (hy : a0.eval (.tmp s11) = yv)
  (H0 : ∀ a w K, K (a.put (some d0) (.slice (some ⟨w.heap.size, 0, none⟩) 0 0)) (w.alloc (.cells #[] 29)) → wpOp P ops Q i0 K a w)
  (H11 : ∀ a w K, a.eval (.tmp s11) = yv → K (a.put (some d11) (.slice (some ⟨w.heap.size, 0, none⟩) 1 1)) (w.alloc (.cells yc 29)) → wpOp P ops Q i11 K a w)
  (ho2 : ops[i2]? = some o2) (hg2 : o2.guard = none) (hd2 : o2.dst = some d2) (hop2 : o2.op = .call { callee := .builtin .append, args := #[.tmp d0, .tmp x], argTypes := #[sl, sl] })
  (ho12 : ops[i12]? = some o12) (hg12 : o12.guard = none) (hd12 : o12.dst = some d12) (hop12 : o12.op = .call { callee := .builtin .append, args := #[.tmp d2, .tmp d11], argTypes := #[sl, sl] })
  (ht : P.underlying sl = some (.slice 29)) (hti : P.info? 29 = some ti) (hy0 : ti.zero = some (.agg #[.int .i64 0, .int .i64 0, .int .i64 0, .int .i64 0, .int .i64 0, .bool false, .int .i64 0, .bool false, .slice none 0 0])) (hy1 : ti.size = 9) (hy2 : ti.bytes = 88)
  (hlx : xs.length = n * 9) (hsrc : ∀ u, Below W.heap.size W u → ∀ j v, xs[j]? = some v → u.cell? (ad.add j) = some v) (hox : ∀ u ∈ xs, u.oneCell' = true)
  (hyc : yc.toList = ys) (hly : ys.length = 9) (hoy : ∀ u ∈ ys, u.oneCell' = true) (hn : n ≤ 1000000)
  (X : ∀ e g c y g3 c3 u, Below W.heap.size W u → u.ownsRow W.heap.size 29 9 (.slice (some ⟨g3, 0, none⟩) (n + 1) c3) (n + 1) (xs ++ ys) → wpAnyH P md ops Q S fx LE ((app2Act d0 d2 d11 n a0 true true true e g c y).put (some d12) (.slice (some ⟨g3, 0, none⟩) (n + 1) c3)) u)
  (u : World) (hu : Below W.heap.size W u) (l : Array Bool) (hl : l = Lf false false false) (f : Nat) (hf : f = fx + 4) : wpAnyH P md ops Q S f l a0 u := by
 subst hl hf
 simp only [List.nodup_cons, List.mem_cons, List.not_mem_nil, not_or, or_false, not_false_eq_true, and_true, List.nodup_nil] at hd
 obtain ⟨⟨n1, n2, n5, n6⟩, ⟨n7, n10, n11⟩, ⟨n14, n15⟩, n20⟩ := hd
 have z0 := hz d0 (by simp)
 have z2 := hz d2 (by simp)
 have z11 := hz d11 (by simp)
 refine wpAnyH_inv (fun f l a w => ∃ b0 b2 b11 e g c y, AppS W w n xs ys yc #[] b0 b2 b11 false false e g c y 0 0 0 ∧ l = Lf b0 b2 b11 ∧ a = app2Act d0 d2 d11 n a0 b0 b2 b11 e g c y ∧ f + b0.toNat + b2.toNat + b11.toNat = fx + 4) ?_ ?_ _ _ _ _ ⟨false, false, false, 0, 0, 0, 0, ?_, rfl, rfl, rfl⟩
 ·rintro l a w ⟨b0, b2, b11, e, g, c, y, -, -, -, hf⟩
  have t0 := Bool.toNat_le b0
  have t2 := Bool.toNat_le b2
  have t11 := Bool.toNat_le b11
  omega
 ·rintro f l a w ⟨b0, b2, b11, e, g, c, y, s, rfl, rfl, hf⟩
  have hr := hready b0 b2 b11
  rw [Bool.and_eq_true, List.all_eq_true] at hr
  refine ⟨fun h => ?_, fun i hi => ?_⟩
  ·have h2 := hr.2
   rw [h] at h2
   simp at h2
  have hok := hr.1 i hi
  obtain ⟨t0, t2, t11⟩ := hset b0 b2 b11
  simp only [okR2, Bool.or_eq_true, Bool.and_eq_true, beq_iff_eq, Bool.not_eq_true'] at hok
  rcases hok with ((⟨rfl, rfl⟩ | ⟨⟨rfl, rfl⟩, rfl⟩) | ⟨rfl, rfl⟩) | ⟨⟨rfl, rfl⟩, rfl⟩
  ·refine H0 _ _ _ ⟨hS _ s.add0.below, Or.inl ⟨true, b2, b11, _, g, c, y, s.add0, t0, rfl, ?_⟩⟩
   simp only [Bool.toNat_false, Bool.toNat_true] at hf ⊢
   omega
  ·have ho := s.emp rfl rfl
   refine wpOp_append ho2 hg2 d2 hd2 _ _ sl hop2 W.heap.size _ ti _ 9 88 ht hti hy0 hy1 hy2 rfl (by decide) (.slice (some ⟨e, 0, none⟩) 0 0) 0 [] ?_ ho ad n cn xs ?_ hlx (hsrc w s.below) hox (by unfold maxLen; omega) (by omega) s.below.size ?_
   ·exact pf_same (by simp only [pf_size]; exact z0)
   ·unfold app2Act
    rw [pf_other n5, pf_other n10, pf_other n14]
    exact hx
   intro v' w' ho' hg' hn' hat'
   rw [Nat.zero_add, List.nil_append] at ho'
   obtain ⟨g', c', rfl⟩ := form_of ho' (fun h => nomatch (hn'.1 h).1)
   have s' := s.add2 ho' hg' (hat'.imp (fun h => Option.some.inj h) (fun h => Option.some.inj h))
   refine ⟨hS _ s'.below, Or.inl ⟨true, true, b11, e, g', c', y, s', t2, ?_, ?_⟩⟩
   ·unfold app2Act
    rw [pf_put n1]
    rfl
   ·simp only [Bool.toNat_false, Bool.toNat_true] at hf ⊢
    omega
  ·refine H11 _ _ _ ?_ ⟨hS _ s.add11.below, Or.inl ⟨b0, b2, true, e, g, c, _, s.add11, t11, ?_, ?_⟩⟩
   ·unfold app2Act
    rw [pf_other n6, pf_other n11, pf_other n15]
    exact hy
   ·unfold app2Act
    rw [pf_put n2, pf_put n7]
    rfl
   ·simp only [Bool.toNat_false, Bool.toNat_true] at hf ⊢
    omega
  ·obtain rfl := s.k2 rfl
   have ho := s.row rfl rfl
   have h1 := s.one rfl rfl
   refine wpOp_append ho12 hg12 d12 hd12 _ _ sl hop12 W.heap.size _ ti _ 9 88 ht hti hy0 hy1 hy2 rfl (by decide) (.slice (some ⟨g, 0, none⟩) n c) n xs ?_ ho ⟨y, 0, none⟩ 1 1 ys ?_ (by omega) ?_ hoy (by unfold maxLen; omega) (by omega) s.below.size ?_
   ·unfold app2Act
    rw [pf_other n1]
    exact pf_same (by simp only [pf_size]; exact z2)
   ·unfold app2Act
    rw [pf_other n2, pf_other n7]
    exact pf_same z11
   ·intro j v hv
    rw [add_none, Nat.zero_add, zCr h1, ← Array.getElem?_toList, hyc]
    exact hv
   intro v' w' ho' hg' hn' hat'
   obtain ⟨g', c', rfl⟩ := form_of ho' (fun h => nomatch (hn'.1 h).1)
   have s' := s.add12 ho' hg'
   refine ⟨hS _ s'.below, Or.inr ?_⟩
   rw [hsetE]
   have hf' : f = fx := by
    have q1 : true.toNat = 1 := rfl
    omega
   rw [hf']
   exact X e g c y g' c' w' s'.below (s'.two rfl)
 ·exact ⟨hu, fun h => absurd h (by simp), fun h => absurd h (by simp), fun h => absurd h (by simp), fun h => absurd h (by simp), fun h => absurd h (by simp), fun h => absurd h (by simp), fun h => absurd h (by simp), fun h => absurd h (by simp), fun h => absurd h (by simp), fun h => absurd h (by simp), fun h => absurd h (by simp)⟩
set_option maxHeartbeats 25600000 in
theorem am17 {Q : Exit → Act → World → Prop} (hP : PanicOk Q) {w u : World} {lo b5 rb b10 gq m cq k : Nat} {qs : List PV} {y : PV} {v0 v1 v3 v6 v7 v9 : Value} {f : Nat → Value} (hk : k ≤ m) (hm1 : m ≤ 1000) (hm : qs.length = m) (hL : PL u lo (.slice (some ⟨gq, 0, none⟩) m cq) qs) (hbx : u.heap[b10]? = some (.cells (pcells y.p (.slice (some ⟨y.g, 0, none⟩) y.zs.length y.c)) 29 (0, 0))) (hQ : Hid (∀ f wx g' c', Below u.heap.size u wx → wx.ownsRow u.heap.size 29 9 (.slice (some ⟨g', 0, none⟩) (m + 1) c') (m + 1) ((qs.take k ++ [y] ++ qs.drop k).flatMap PV.cells) → Q .normal (frA v0 v1 (.pointer (some ⟨w.heap.size, 0, none⟩)) v3 (.pointer (some ⟨rb, 0, none⟩)) (.pointer (some ⟨b5, 0, none⟩)) v6 v7 (.slice (some ⟨g', 0, none⟩) (m + 1 : Nat) c') v9 (.pointer (some ⟨b10, 0, none⟩)) (.int .i64 k) f) wx)) : (Cd.snd (Cd.snd (Cd.snd (Cd.snd (Cd.snd (Cd.snd (Cd.inn (Cd.fst (Cd.snd (Cd.inn (Cd.inn (Cd.snd (Cd.fst (Cd.snd (Cd.snd (Cd.snd (Cd.snd (Cd.snd (Cd.snd (Cd.snd (Option.getD Tryz.f17.body .skip))))))))))))))))))))).wp Tryz.prog Q (frA v0 v1 (.pointer (some ⟨w.heap.size, 0, none⟩)) v3 (.pointer (some ⟨rb, 0, none⟩)) (.pointer (some ⟨b5, 0, none⟩)) v6 v7 (.slice (some ⟨gq, 0, none⟩) m cq) v9 (.pointer (some ⟨b10, 0, none⟩)) (.int .i64 k) f) u := by
 obtain ⟨ti, hti, hy0, hy1, hy2⟩ := info_parts Tryz.info9
 have hcq := own_caps (show u.ownsRow lo 29 9 (.slice (some ⟨gq, 0, none⟩) m cq) m (qs.flatMap PV.cells) from by have := hL.row; rw [hm] at this; exact this)
 have HL : Hid (PL u lo (.slice (some ⟨gq, 0, none⟩) m cq) qs) := hL
 have HBX : Hid (∀ v, Below u.heap.size u v → Boxed v b10 y.p (.slice (some ⟨y.g, 0, none⟩) y.zs.length y.c)) := fun v h => Boxed.of_block ((h.block _ (lt_of_block hbx)).trans hbx)
 have hki : (k : Int) ≤ (m : Int) := by omega
 have hk0 : ¬ ((k : Int) < 0) := by omega
 have hmc : (m : Int) ≤ (cq : Int) := by omega
 have hkc : (k : Int) ≤ (cq : Int) := by omega
 have E0 : Hid (Below u.heap.size u u.drew) := draw1 _
 obtain ⟨o10, ho1, ho2⟩ : ∃ o : Nat, (cq = k → o = 0) ∧ (cq ≠ k → o = k * 9) := by
  by_cases h : cq = k
  ·exact ⟨0, fun _ => rfl, fun h' => absurd h h'⟩
  ·exact ⟨k * 9, fun h' => absurd h' h, fun _ => rfl⟩
 have HO1 : Hid (cq = k → o10 = 0) := ho1
 have HO2 : Hid (cq ≠ k → o10 = k * 9) := ho2
 clear hL hbx ho1 ho2
 refine wp_is (c' := .region _ _ _) rfl ?_
 unfold frA
 refine wp_region_held_drew (S := fun v => Below u.heap.size u v) (by kernel_rfl) E0.out (fun hH => ?_)
 refine zTq hP 1 62 (.slice (some ⟨gq, 0, none⟩) m cq) rfl (fun w hS => by go_simp) hH ?_; simp only [Act.put, zX, zY, zZ]
 refine zTq hP 2 63 (.int .i64 k) rfl (fun w hS => by go_simp) hH ?_; simp only [Act.put, zX, zY, zZ]
 refine zTq hP 3 64 (.slice (some ⟨gq, 0, none⟩) k cq) rfl (fun w hS => by go_simp) hH ?_; simp only [Act.put, zX, zY, zZ]
 refine zTq hP 5 66 (.agg #[.int .i64 y.p.src, .int .i64 y.p.dst, .int .i64 y.p.kind, .int .i64 y.p.id, .int .i64 y.p.hops, .bool y.p.whole, .int .i64 y.p.off, .bool y.p.more, .slice (some ⟨y.g, 0, none⟩) y.zs.length y.c]) rfl (fun w hS => by obtain ⟨lq, q0, q1, q2, q3, q4, q5, q6, q7, q8⟩ := HBX.out _ hS; go_simp) hH ?_; simp only [Act.put, zX, zY, zZ]
 refine zTq hP 8 69 (.slice (some ⟨gq, 0, none⟩) m cq) rfl (fun w hS => by go_simp) hH ?_; simp only [Act.put, zX, zY, zZ]
 refine zTq hP 9 70 (.int .i64 k) rfl (fun w hS => by go_simp) hH ?_; simp only [Act.put, zX, zY, zZ]
 refine zTq hP 10 71 (.slice (some ⟨gq, o10, none⟩) (m - k : Nat) (cq - k : Nat)) rfl (fun w hS => by go_simp; exact (if h : cq = k then by rw [if_pos h, HO1.out h] else by rw [if_neg h, HO2.out h])) hH ?_; simp only [Act.put, zX, zY, zZ]
 refine app2_region (W := u) (n := k) (xs := (qs.take k).flatMap PV.cells) (ys := PV.cells y) (yc := pcells y.p (.slice (some ⟨y.g, 0, none⟩) y.zs.length y.c)) _ 0 4 6 7 61 65 67 68 64 66 (fun b0 b2 b11 => #[b0, true, true, true, b2, true, b11, false, true, true, true, false, false]) #[true, true, true, true, true, true, true, true, true, true, true, false, false] 2 23 ⟨gq, 0, none⟩ cq (.agg #[.int .i64 y.p.src, .int .i64 y.p.dst, .int .i64 y.p.kind, .int .i64 y.p.id, .int .i64 y.p.hops, .bool y.p.whole, .int .i64 y.p.off, .bool y.p.more, .slice (some ⟨y.g, 0, none⟩) y.zs.length y.c]) _ _ ti (fun _ h => h) ?g1 (by kernel_rfl) ?g2 (by decide) ?g3 rfl rfl ?g4 ?g5 rfl rfl rfl rfl rfl rfl rfl rfl Tryz.underlying23 hti hy0 hy1 hy2 ?g8 ?g9 (flat_one _) rfl rfl (nine_one _ _ _ _) (by omega) ?x _ hH _ (by kernel_rfl) _ (by kernel_rfl)
 case g1 => intro b0 b2 b11; exact ⟨by kernel_rfl, by kernel_rfl, by kernel_rfl⟩
 case g2 => intro b0 b2 b11; cases b0 <;> cases b2 <;> cases b11 <;> kernel_rfl
 case g3 => intro d hd; simp at hd; rcases hd with rfl | rfl | rfl <;> (simp; done)
 case g4 => intro a w K h; exact wpOp_made rfl rfl 61 rfl (by go_simp) h
 case g5 =>
  intro a w K hv h
  simp only [Act.eval, Array.getD_eq_getD_getElem?] at hv
  exact wpOp_made rfl rfl 67 rfl (by go_simp; rfl) h
 case g8 => rw [flat_len, List.length_take, Nat.min_eq_left (by omega)]
 case g9 => intro v hv j z hz; exact (HL.out.below hv).src_takeI hm k j z hz
 case x =>
  intro e g c y' g3 c3 v hv ho
  have he := own_lt ho g3 rfl
  refine wpAnyH_step (show Region.ready _ _ _ ≠ [] from by rw [show Region.ready _ _ _ = [11] from by kernel_rfl]; simp) fun i hi => ?_
  obtain rfl : i = 11 := by rw [show Region.ready _ _ _ = [11] from by kernel_rfl] at hi; exact List.mem_singleton.1 hi
  refine wpOp_append rfl rfl 72 rfl _ _ 23 rfl u.heap.size _ ti _ 9 88 Tryz.underlying23 hti hy0 hy1 hy2 rfl (by decide) (.slice (some ⟨g3, 0, none⟩) (k + 1) c3) (k + 1) ((qs.take k).flatMap PV.cells ++ PV.cells y) (by rfl) ho ⟨gq, o10, none⟩ (m - k) (cq - k) ((qs.drop k).flatMap PV.cells) (by rfl) ?h1 ?h2 (flat_one _) ?h3 ?h4 hv.size ?_
  case h1 => rw [flat_len, List.length_drop, hm]
  case h2 =>
   by_cases h : cq = k
   ·rw [List.drop_eq_nil_of_le (by omega)]
    intro j z hz
    simp at hz
   ·rw [HO2.out h]
    exact (HL.out.below hv).src_dropI hm k
  case h3 => unfold maxLen; omega
  case h4 => omega
  intro v' w' ho' hg' hn' hat'
  have hB : Below u.heap.size u w' := hv.grown hg' hv.size (fun j hj => by cases hj; exact he.1)
  obtain ⟨g', c', rfl⟩ := form_of ho' (fun h => nomatch (hn'.1 h).1)
  refine ⟨hB, ?_⟩
  have hH := hB
  simp only [app2Act, pf, cond_true, Act.put, zX, zY, zZ]
  refine zTq hP 12 8 (.slice (some ⟨g', 0, none⟩) (k + 1 + (m - k) : Nat) c') rfl (fun w hS => by go_simp) hH ?_; simp only [Act.put, zX, zY, zZ]
  refine wpAnyH_done (by kernel_rfl) ?_ _
  refine frA_end (C := fun a => Q .normal a _) rfl rfl rfl (fun f => ?_)
  have em : k + 1 + (m - k) = m + 1 := by omega
  rw [em] at ho' ⊢
  refine hQ.out f _ g' c' hB ?_
  rw [List.flatMap_append, List.flatMap_append]
  simpa using ho'
structure LC (w : World) (lo g n c : Nat) (xs : List RV) : Prop where
 own : w.ownsRow lo 29 9 (.slice (some ⟨g, 0, none⟩) n c) n (xs.flatMap RV.cells)
 each : ∀ y ∈ xs, DataB w lo y
 len : xs.length = n
set_option maxHeartbeats 25600000 in
theorem amBody {Q : Exit → Act → World → Prop} (hP : PanicOk Q) {w v : World} {p : Pk} {ds : List Int} {g c md lo b5 rb gq m cq M t : Nat} {qs : List PV} {v0 v1 v3 v6 v7 v10 v11 : Value} {f : Nat → Value} (hm1 : m ≤ 100) (hM : M ≤ 800000) (hm : qs.length = m) (S : WS w v p g c md b5 rb lo ds) (hR : Rdr v rb M) (hL : PL v (b5 + 1) (.slice (some ⟨gq, 0, none⟩) m cq) qs) (hD : Drawn p ds qs) (hQ : Hid (∀ f u10 u11 wx g' c' qs', WS w wx p g c md b5 rb lo ds → Rdr wx rb (M + 722) → PL wx (b5 + 1) (.slice (some ⟨g', 0, none⟩) (m + 1) c') qs' → qs'.length = m + 1 → Drawn p ds qs' → Q .normal (frA v0 v1 (.pointer (some ⟨w.heap.size, 0, none⟩)) v3 (.pointer (some ⟨rb, 0, none⟩)) (.pointer (some ⟨b5, 0, none⟩)) v6 v7 (.slice (some ⟨g', 0, none⟩) (m + 1 : Nat) c') (.int .i64 t) (u10) (u11) f) wx)) : (Cd.inn (Cd.fst (Cd.snd (Cd.inn (Cd.inn (Cd.snd (Cd.fst (Cd.snd (Cd.snd (Cd.snd (Cd.snd (Cd.snd (Cd.snd (Cd.snd (Option.getD Tryz.f17.body .skip))))))))))))))).wp Tryz.prog Q (frA v0 v1 (.pointer (some ⟨w.heap.size, 0, none⟩)) v3 (.pointer (some ⟨rb, 0, none⟩)) (.pointer (some ⟨b5, 0, none⟩)) v6 v7 (.slice (some ⟨gq, 0, none⟩) m cq) (.int .i64 t) v10 v11 f) v := by
 have hrl := hR.lt
 have hrb5 : rb < b5 + 1 := by have := S.rbl; have := S.lo5; omega
 have KL : Hid (Calls Tryz.prog 52 #[.pointer (some ⟨rb, 0, none⟩)] v (PktPost rb (M + 720) v.heap.size AnyPk v)) := l5Piece_any rb M v hR (by omega)
 have HS : Hid (WS w v p g c md b5 rb lo ds) := S
 have HL : Hid (PL v (b5 + 1) (.slice (some ⟨gq, 0, none⟩) m cq) qs) := hL
 have HD : Hid (Drawn p ds qs) := hD
 clear S hR hL hD
 refine wp_is (c' := .seq _ _) rfl ?_
 unfold frA
 go_wp2_with fail
 (with_reducible refine KL.out.mono ?_)
 rintro e v1 ⟨y, gy, cy, len, zs, rfl, oy, hz, hl, -, R1, G1, hby⟩
 subst hz
 have s1 := G1.size
 have HOY : Hid (v1.ownsRow v.heap.size 5 1 (.slice (some ⟨gy, 0, none⟩) zs.length cy) zs.length (zs.map (.int .u8))) := oy
 have ly := own_lt oy gy rfl
 have HBY : Hid (∀ z ∈ zs, 0 ≤ z ∧ z ≤ 255) := hby
 have HG1 : Hid (v.grownBy v1 (some rb)) := G1
 have KP : Hid (∀ (n : Int) (N : Nat) (u : World), Rdr u rb N → N ≤ 1000000 → 0 ≤ n → n ≤ 1000000 → Calls Tryz.prog 23 #[.pointer (some ⟨rb, 0, none⟩), .int .i64 n] u (PickPost rb N n u)) := fun n N u h1 h2 h3 h4 => pick_any rb N n u h1 h2 h3 h4
 have R2 : Hid (Rdr (v1.alloc (.cells #[.int .i64 y.src, .int .i64 y.dst, .int .i64 y.kind, .int .i64 y.id, .int .i64 y.hops, .bool y.whole, .int .i64 y.off, .bool y.more, .slice (some ⟨gy, 0, none⟩) zs.length cy] 29)) rb (M + 720)) := R1.below (zBa _ _)
 clear KL oy hby R1 G1
 unfold Pk.val
 go_wp2_with fail
 (with_reducible refine (KP.out 3 _ _ R2.out (by omega) (by omega) (by omega)).mono ?_)
 rintro e v3 ⟨z, rfl, z0, z1, -, R3, G3⟩
 have z3 := z1 (by omega)
 have s3 : v1.heap.size + 1 ≤ v3.heap.size := by have := G3.size; simpa using this
 have hne : rb ≠ v1.heap.size := by omega
 have Z3 : v3.heap[v1.heap.size]? = some (.cells #[.int .i64 y.src, .int .i64 y.dst, .int .i64 y.kind, .int .i64 y.id, .int .i64 y.hops, .bool y.whole, .int .i64 y.off, .bool y.more, .slice (some ⟨gy, 0, none⟩) zs.length cy] 29 (0, 0)) := (G3.block _ (by simp) (fun e => hne (Option.some.inj e).symm)).trans (heap_new _ _ _ rfl)
 have G13 : Hid (v.grownBy v3 (some rb)) := grown_trans (grown_trans HG1.out (grown_below (zBa _ _))) G3
 have hb10 : v.heap.size ≤ v1.heap.size := s1
 have G14 : Hid (v.grownBy ((((v3.setCell ⟨v1.heap.size, 0, none⟩ (.int .i64 z)).setCell ⟨v1.heap.size, 1, none⟩ (.int .i64 0)).setCell ⟨v1.heap.size, 2, none⟩ (.int .i64 1)).setCell ⟨v1.heap.size, 3, none⟩ (.int .i64 0)) (some rb)) := (show v.grownBy _ _ from ⟨G13.out.os, G13.out.tape, G13.out.output, (by simp [World.setCell]; exact G13.out.size), fun b hb hn => (zHs (by simp only; omega)).trans ((zHs (by simp only; omega)).trans ((zHs (by simp only; omega)).trans ((zHs (by simp only; omega)).trans (G13.out.block b hb hn))))⟩)
 have Z4 : Hid ((((((v3.setCell ⟨v1.heap.size, 0, none⟩ (.int .i64 z)).setCell ⟨v1.heap.size, 1, none⟩ (.int .i64 0)).setCell ⟨v1.heap.size, 2, none⟩ (.int .i64 1)).setCell ⟨v1.heap.size, 3, none⟩ (.int .i64 0))).heap[v1.heap.size]? = some (.cells (pcells ⟨z, 0, 1, 0, y.hops, y.whole, y.off, y.more⟩ (.slice (some ⟨gy, 0, none⟩) zs.length cy)) 29 (0, 0))) := (show _ = _ by rw [set_at (set_at (set_at (set_at Z3)))]; rfl)
 have R4 : Hid (Rdr ((((v3.setCell ⟨v1.heap.size, 0, none⟩ (.int .i64 z)).setCell ⟨v1.heap.size, 1, none⟩ (.int .i64 0)).setCell ⟨v1.heap.size, 2, none⟩ (.int .i64 1)).setCell ⟨v1.heap.size, 3, none⟩ (.int .i64 0)) rb (M + 720 + 1)) := R3.keep (by simp [World.setCell]) (fun j hj => (zHs (by simp only; omega)).trans ((zHs (by simp only; omega)).trans ((zHs (by simp only; omega)).trans (zHs (by simp only; omega)))))
 have O4 : Hid ((((((v3.setCell ⟨v1.heap.size, 0, none⟩ (.int .i64 z)).setCell ⟨v1.heap.size, 1, none⟩ (.int .i64 0)).setCell ⟨v1.heap.size, 2, none⟩ (.int .i64 1)).setCell ⟨v1.heap.size, 3, none⟩ (.int .i64 0))).ownsRow v.heap.size 5 1 (.slice (some ⟨gy, 0, none⟩) zs.length cy) zs.length (zs.map (.int .u8))) := own_kept HOY.out fun j hj => by
  have hjy : gy = j := by cases hj; rfl
  subst hjy
  exact (zHs (by simp only; omega)).trans ((zHs (by simp only; omega)).trans ((zHs (by simp only; omega)).trans ((zHs (by simp only; omega)).trans ((G3.block _ (by simp; omega) (fun e => by have := Option.some.inj e; omega)).trans (zHa (by omega))))))
 obtain ⟨lq, q0, q1, q2, q3, q4, q5, q6, q7, q8⟩ := Boxed.of_block Z3
 have fz3 : ∀ o, v3.frozen? ⟨v1.heap.size, o, none⟩ = false := fun o => zUf Z3 o
 clear R3 G3 Z3 R2
 have hmw : IntKind.i64.wrap ((m : Int) + 1) = (m : Int) + 1 := by rw [IntKind.wrap_i64]; omega
 go_wp2_with fail
 (with_reducible refine (KP.out ((m : Int) + 1) _ _ R4.out (by omega) (by omega) (by omega)).mono ?_)
 rintro e v5 ⟨kk, rfl, k0, k1, -, R5, G5⟩
 have k2 := k1 (by omega)
 obtain ⟨k, rfl⟩ := Int.eq_ofNat_of_zero_le k0
 have hk : k ≤ m := by omega
 have G15 := grown_trans G14.out G5
 have s4 : v1.heap.size < (((((v3.setCell ⟨v1.heap.size, 0, none⟩ (.int .i64 z)).setCell ⟨v1.heap.size, 1, none⟩ (.int .i64 0)).setCell ⟨v1.heap.size, 2, none⟩ (.int .i64 1)).setCell ⟨v1.heap.size, 3, none⟩ (.int .i64 0))).heap.size := lt_of_block Z4.out
 have Z5 : v5.heap[v1.heap.size]? = some (.cells (pcells ⟨z, 0, 1, 0, y.hops, y.whole, y.off, y.more⟩ (.slice (some ⟨gy, 0, none⟩) zs.length cy)) 29 (0, 0)) := (G5.block _ s4 (fun e => hne (Option.some.inj e).symm)).trans Z4.out
 have O5 : v5.ownsRow v.heap.size 5 1 (.slice (some ⟨gy, 0, none⟩) zs.length cy) zs.length (zs.map (.int .u8)) := own_kept O4.out fun j hj => G5.block j (own_lt O4.out j hj).2 (fun e => by have := (own_lt O4.out j hj).1; have := Option.some.inj e; omega)
 have HS5 : Hid (WS w v5 p g c md b5 rb lo ds) := HS.out.grown G15
 have HL5 : Hid (PL v5 (b5 + 1) (.slice (some ⟨gq, 0, none⟩) m cq) qs) := HL.out.grown G15 hrb5
 have HR5 : Hid (Rdr v5 rb (M + 720 + 1 + 1)) := R5
 have HO5 : Hid (v5.ownsRow v.heap.size 5 1 (.slice (some ⟨gy, 0, none⟩) zs.length cy) zs.length (zs.map (.int .u8))) := O5
 have HZ5 : Hid (v5.heap[v1.heap.size]? = some (.cells (pcells ⟨z, 0, 1, 0, y.hops, y.whole, y.off, y.more⟩ (.slice (some ⟨gy, 0, none⟩) zs.length cy)) 29 (0, 0))) := Z5
 have hvb : b5 < v.heap.size := HS.out.b5l
 clear R5 G5 G15 Z5 O5 q0 q1 q2 q3 q4 q5 q6 q7 q8 fz3 KP
 go_upto_region 17 with fail
 refine frA_end (C := fun a => Code.wp _ _ _ a _) rfl rfl rfl (fun f => ?_)
 refine wp_is (c' := (Cd.snd (Cd.snd (Cd.snd (Cd.snd (Cd.snd (Cd.snd (Cd.inn (Cd.fst (Cd.snd (Cd.inn (Cd.inn (Cd.snd (Cd.fst (Cd.snd (Cd.snd (Cd.snd (Cd.snd (Cd.snd (Cd.snd (Cd.snd (Option.getD Tryz.f17.body .skip)))))))))))))))))))))) (by kernel_rfl) ?_
 refine am17 hP (y := ⟨⟨z, 0, 1, 0, y.hops, y.whole, y.off, y.more⟩, gy, cy, zs⟩) (lo := b5 + 1) hk (by omega) hm HL5.out HZ5.out (fun f wx g' c' hb ho => ?_)
 have hlen : (qs.take k ++ [(⟨⟨z, 0, 1, 0, y.hops, y.whole, y.off, y.more⟩, gy, cy, zs⟩ : PV)] ++ qs.drop k).length = m + 1 := by simp; omega
 have h5 := HS5.out.b5l
 refine hQ.out f _ _ wx g' c' _ (HS5.out.grown (grown_below hb)) (HR5.out.below hb) ⟨?_, fun x hx => ?_⟩ hlen (HD.out.ins ?_ (show zs.length ≤ 1048576 by omega) HBY.out k)
 ·rw [hlen]
  exact Joins.ownsRow_le ho (by omega)
 ·rcases List.mem_append.1 hx with h1 | h1
  ·rcases List.mem_append.1 h1 with h2 | h2
   ·exact (HL5.out.below hb).each x (List.mem_of_mem_take h2)
   ·rw [List.mem_singleton.1 h2]
    exact Joins.ownsRow_le (own_below HO5.out hb) (by omega)
  ·exact (HL5.out.below hb).each x (List.mem_of_mem_drop h1)
 ·show (z, (0 : Int), (1 : Int), (0 : Int)) ∈ [((0, 0, 1, 0) : K4), (1, 0, 1, 0), (2, 0, 1, 0)]
  have hz : z = 0 ∨ z = 1 ∨ z = 2 := by omega
  rcases hz with rfl | rfl | rfl <;> simp
end Go.Proofs.YtjbkgmbakjnlhaaGreatDoor
