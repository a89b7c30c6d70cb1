import Derived.Test.YtjbkgmbakjnlhaaGreatDoorMix
import Derived.Test.YtjbkgmbakjnlhaaGreatDoorPartAa
import Derived.Test.YtjbkgmbakjnlhaaGreatDoorPartBe
import Derived.Test.YtjbkgmbakjnlhaaGreatDoorPartAe
import Derived.Test.YtjbkgmbakjnlhaaGreatDoorJoinI
namespace Go.Proofs.YtjbkgmbakjnlhaaGreatDoor
set_option maxRecDepth 100000
open Go.RowKit
structure AppS (W u : World) (n : Nat) (xs ys : List Value) (yc zc : Array Value) (b0 b2 b11 b12 bz : Bool) (e g c y g3 c3 z : Nat) : Prop where
 below : Below W.heap.size W u
 k2 : b2 = true → b0 = true
 k12 : b12 = true → b2 = true ∧ b11 = true
 emp : b0 = true → b2 = false → u.ownsRow W.heap.size 29 9 (.slice (some ⟨e, 0, none⟩) 0 0) 0 []
 row : b2 = true → b12 = false → u.ownsRow W.heap.size 29 9 (.slice (some ⟨g, 0, none⟩) n c) n xs
 one : b11 = true → b12 = false → u.heap[y]? = some (.cells yc 29 (0, 0))
 two : b12 = true → u.ownsRow W.heap.size 29 9 (.slice (some ⟨g3, 0, none⟩) (n + 1) c3) (n + 1) (xs ++ ys)
 box : bz = true → u.heap[z]? = some (.cells zc 29 (0, 0)) ∧ W.heap.size ≤ z
 y_e : b11 = true → b0 = true → b2 = false → y ≠ e
 y_g : b11 = true → b2 = true → b12 = false → y ≠ g
 z_e : bz = true → b0 = true → b2 = false → z ≠ e
 z_g : bz = true → b2 = true → b12 = false → z ≠ g
theorem AppS.mono {W u u' : World} {n : Nat} {xs ys : List Value} {yc zc : Array Value} {b0 b2 b11 b12 bz : Bool} {e g c y g3 c3 z : Nat} (s : AppS W u n xs ys yc zc b0 b2 b11 b12 bz e g c y g3 c3 z) (hb : Below u.heap.size u u') : AppS W u' n xs ys yc zc b0 b2 b11 b12 bz e g c y g3 c3 z :=
 ⟨s.below.trans (hb.mono s.below.size), s.k2, s.k12, fun a b => own_below (s.emp a b) hb, fun a b => own_below (s.row a b) hb, fun a b => (hb.block _ (lt_of_block (s.one a b))).trans (s.one a b), fun a => own_below (s.two a) hb, fun a => ⟨(hb.block _ (lt_of_block (s.box a).1)).trans (s.box a).1, (s.box a).2⟩, s.y_e, s.y_g, s.z_e, s.z_g⟩
theorem AppS.add0 {W u : World} {n : Nat} {xs ys : List Value} {yc zc : Array Value} {b2 b11 b12 bz : Bool} {e g c y g3 c3 z : Nat} (s : AppS W u n xs ys yc zc false b2 b11 b12 bz e g c y g3 c3 z) : AppS W (u.alloc (.cells #[] 29)) n xs ys yc zc true b2 b11 b12 bz u.heap.size g c y g3 c3 z := by
 have s' := s.mono (zBa u (.cells #[] 29))
 have h2 : b2 = false := by
  cases b2
  ·rfl
  ·exact absurd (s.k2 rfl) (by simp)
 have h12 : b12 = false := by
  cases b12
  ·rfl
  ·exact absurd (s.k12 rfl).1 (by simp [h2])
 refine ⟨s'.below, fun _ => rfl, s'.k12, fun _ _ => (PL.nil u _ _ rfl s.below.size).row, s'.row, s'.one, s'.two, s'.box, fun a _ _ h => ?_, s'.y_g, fun a _ _ h => ?_, s'.z_g⟩
 ·have := lt_of_block (s.one a h12); omega
 ·have := lt_of_block (s.box a).1; omega
theorem AppS.add11 {W u : World} {n : Nat} {xs ys : List Value} {yc zc : Array Value} {b0 b2 b12 bz : Bool} {e g c y g3 c3 z : Nat} (s : AppS W u n xs ys yc zc b0 b2 false b12 bz e g c y g3 c3 z) : AppS W (u.alloc (.cells yc 29)) n xs ys yc zc b0 b2 true b12 bz e g c u.heap.size g3 c3 z := by
 have s' := s.mono (zBa u (.cells yc 29))
 refine ⟨s'.below, s'.k2, fun h => absurd (s.k12 h).2 (by simp), s'.emp, s'.row, fun _ _ => heap_new _ _ _ rfl, s'.two, s'.box, fun _ a b h => ?_, fun _ a b h => ?_, s'.z_e, s'.z_g⟩
 ·have := (own_lt (s.emp a b) e rfl).2; omega
 ·have := (own_lt (s.row a b) g rfl).2; omega
theorem AppS.addz {W u : World} {n : Nat} {xs ys : List Value} {yc zc : Array Value} {b0 b2 b11 b12 : Bool} {e g c y g3 c3 z : Nat} (s : AppS W u n xs ys yc zc b0 b2 b11 b12 false e g c y g3 c3 z) : AppS W (u.alloc (.cells zc 29)) n xs ys yc zc b0 b2 b11 b12 true e g c y g3 c3 u.heap.size := by
 have s' := s.mono (zBa u (.cells zc 29))
 refine ⟨s'.below, s'.k2, s'.k12, s'.emp, s'.row, s'.one, s'.two, fun _ => ⟨heap_new _ _ _ rfl, s.below.size⟩, s'.y_e, s'.y_g, fun _ a b h => ?_, fun _ a b h => ?_⟩
 ·have := (own_lt (s.emp a b) e rfl).2; omega
 ·have := (own_lt (s.row a b) g rfl).2; omega
theorem AppS.add2 {W u u' : World} {n : Nat} {xs ys : List Value} {yc zc : Array Value} {b11 b12 bz : Bool} {e g c y g3 c3 z g' c' : Nat} (s : AppS W u n xs ys yc zc true false b11 b12 bz e g c y g3 c3 z) (ho : u'.ownsRow W.heap.size 29 9 (.slice (some ⟨g', 0, none⟩) n c') n xs) (hg : u.grownBy u' (some e)) (hat : g' = e ∨ g' = u.heap.size) : AppS W u' n xs ys yc zc true true b11 b12 bz e g' c' y g3 c3 z := by
 have h12 : b12 = false := by
  cases b12
  ·rfl
  ·exact absurd (s.k12 rfl).1 (by simp)
 have he := own_lt (s.emp rfl rfl) e rfl
 have hB : Below W.heap.size W u' := s.below.grown hg s.below.size (fun j hj => by cases hj; exact he.1)
 refine ⟨hB, fun _ => rfl, fun h => absurd h (by simp [h12]), fun _ h => absurd h (by simp), fun _ _ => ho, fun a b => ?_, fun h => absurd h (by simp [h12]), fun a => ?_, fun _ _ h => absurd h (by simp), fun a _ b h => ?_, fun _ _ h => absurd h (by simp), fun a _ b h => ?_⟩
 ·have h1 := s.one a b
  exact (hg.block _ (lt_of_block h1) (fun h => s.y_e a rfl rfl (Option.some.inj h))).trans h1
 ·have h1 := s.box a
  exact ⟨(hg.block _ (lt_of_block h1.1) (fun h => s.z_e a rfl rfl (Option.some.inj h))).trans h1.1, h1.2⟩
 ·have h1 := lt_of_block (s.one a b)
  rcases hat with r | r
  ·exact s.y_e a rfl rfl (h.trans r)
  ·omega
 ·have h1 := lt_of_block (s.box a).1
  rcases hat with r | r
  ·exact s.z_e a rfl rfl (h.trans r)
  ·omega
theorem AppS.add12 {W u u' : World} {n : Nat} {xs ys : List Value} {yc zc : Array Value} {b0 bz : Bool} {e g c y g3 c3 z g' c' : Nat} (s : AppS W u n xs ys yc zc b0 true true false bz e g c y g3 c3 z) (ho : u'.ownsRow W.heap.size 29 9 (.slice (some ⟨g', 0, none⟩) (n + 1) c') (n + 1) (xs ++ ys)) (hg : u.grownBy u' (some g)) : AppS W u' n xs ys yc zc b0 true true true bz e g c y g' c' z := by
 have he := own_lt (s.row rfl rfl) g rfl
 have hB : Below W.heap.size W u' := s.below.grown hg s.below.size (fun j hj => by cases hj; exact he.1)
 refine ⟨hB, s.k2, fun _ => ⟨rfl, rfl⟩, fun _ h => absurd h (by simp), fun _ h => absurd h (by simp), fun _ h => absurd h (by simp), fun _ => ho, fun a => ?_, fun _ _ h => absurd h (by simp), fun _ _ h => absurd h (by simp), fun _ _ h => absurd h (by simp), fun _ _ h => absurd h (by simp)⟩
 have h1 := s.box a
 exact ⟨(hg.block _ (lt_of_block h1.1) (fun h => s.z_g a rfl rfl (Option.some.inj h))).trans h1.1, h1.2⟩
def okR (i0 i2 i11 i12 i13 iz : Nat) (b0 b2 b11 b12 bz : Bool) (i : Nat) : Bool := (i == i0 && !b0) || (i == i2 && b0 && !b2) || (i == i11 && !b11) || (i == i12 && b2 && b11 && !b12) || (i == i13 && b12) || (i == iz && !bz)
def appAct (d0 d2 d11 d12 dz : Tmp) (n : Nat) (a0 : Act) (b0 b2 b11 b12 bz : Bool) (e g c y g3 c3 z : Nat) : Act :=
 pf b0 d0 (.slice (some ⟨e, 0, none⟩) 0 0) (pf b2 d2 (.slice (some ⟨g, 0, none⟩) n c) (pf b11 d11 (.slice (some ⟨y, 0, none⟩) 1 1) (pf b12 d12 (.slice (some ⟨g3, 0, none⟩) (n + 1) c3) (pf bz dz (.pointer (some ⟨z, 0, none⟩)) a0))))
theorem app_region {P : Program} {ops : Array Oper} {Q : Exit → Act → World → Prop} {md : Region.Mode} {S : World → Prop} {W : World} {n : Nat} {xs ys : List Value} {yc zc : Array Value} (a0 : Act)
  (i0 i2 i11 i12 i13 iz : Nat) (d0 d2 d11 d12 d13 dz x s11 : Tmp) (Lf : Bool → Bool → Bool → Bool → Bool → Bool → Array Bool) (fx : Nat) (sl : TypeId) (fn : FuncId) (POST : World → Nat → Nat → Value → World → Prop)
  (ad : Addr) (cn : Nat) (yv : Value) (o2 o12 : Oper) (ti : TypeInfo)
  (hS : ∀ u, Below W.heap.size W u → S u)
  (hset : ∀ b0 b2 b11 b12 bz, (Lf b0 b2 b11 b12 false bz).setIfInBounds i0 true = Lf true b2 b11 b12 false bz ∧ (Lf b0 b2 b11 b12 false bz).setIfInBounds i2 true = Lf b0 true b11 b12 false bz ∧ (Lf b0 b2 b11 b12 false bz).setIfInBounds i11 true = Lf b0 b2 true b12 false bz ∧ (Lf b0 b2 b11 b12 false bz).setIfInBounds i12 true = Lf b0 b2 b11 true false bz ∧ (Lf b0 b2 b11 b12 false bz).setIfInBounds i13 true = Lf b0 b2 b11 b12 true bz ∧ (Lf b0 b2 b11 b12 false bz).setIfInBounds iz true = Lf b0 b2 b11 b12 false true)
  (hready : ∀ b0 b2 b11 b12 bz, ((Region.ready md ops (Lf b0 b2 b11 b12 false bz)).all (okR i0 i2 i11 i12 i13 iz b0 b2 b11 b12 bz) && !(Region.ready md ops (Lf b0 b2 b11 b12 false bz)).isEmpty) = true)
  (hd : [d0, d2, d11, d12, dz, x, s11].Nodup) (hz : ∀ d ∈ [d0, d2, d11, d12], d < a0.tmps.size)
  (hx : a0.eval (.tmp x) = .slice (some ad) n cn) (hy : a0.eval (.tmp s11) = yv)
  (H0 : ∀ a w K, K (a.put (some d0) (.slice (some ⟨w.heap.size, 0, none⟩) 0 0)) (w.alloc (.cells #[] 29)) → wpOp P ops Q i0 K a w)
  (H11 : ∀ a w K, a.eval (.tmp s11) = yv → K (a.put (some d11) (.slice (some ⟨w.heap.size, 0, none⟩) 1 1)) (w.alloc (.cells yc 29)) → wpOp P ops Q i11 K a w)
  (Hz : ∀ a w K, K (a.put (some dz) (.pointer (some ⟨w.heap.size, 0, none⟩))) (w.alloc (.cells zc 29)) → wpOp P ops Q iz K a w)
  (ho2 : ops[i2]? = some o2) (hg2 : o2.guard = none) (hd2 : o2.dst = some d2) (hop2 : o2.op = .call { callee := .builtin .append, args := #[.tmp d0, .tmp x], argTypes := #[sl, sl] })
  (ho12 : ops[i12]? = some o12) (hg12 : o12.guard = none) (hd12 : o12.dst = some d12) (hop12 : o12.op = .call { callee := .builtin .append, args := #[.tmp d2, .tmp d11], argTypes := #[sl, sl] })
  (H13 : ∀ a w K v, a.eval (.tmp d12) = v → Calls P fn #[v] w (fun e w' => ∃ r, e = .returned r ∧ K (a.put (some d13) r) w') → wpOp P ops Q i13 K a w)
  (ht : P.underlying sl = some (.slice 29)) (hti : P.info? 29 = some ti) (hy0 : ti.zero = some (.agg #[.int .i64 0, .int .i64 0, .int .i64 0, .int .i64 0, .int .i64 0, .bool false, .int .i64 0, .bool false, .slice none 0 0])) (hy1 : ti.size = 9) (hy2 : ti.bytes = 88)
  (hlx : xs.length = n * 9) (hsrc : ∀ u, Below W.heap.size W u → ∀ j v, xs[j]? = some v → u.cell? (ad.add j) = some v) (hox : ∀ u ∈ xs, u.oneCell' = true)
  (hyc : yc.toList = ys) (hly : ys.length = 9) (hoy : ∀ u ∈ ys, u.oneCell' = true) (hn : n ≤ 1000000)
  (hcall : ∀ u g3 c3, Below W.heap.size W u → u.ownsRow W.heap.size 29 9 (.slice (some ⟨g3, 0, none⟩) (n + 1) c3) (n + 1) (xs ++ ys) → Calls P fn #[.slice (some ⟨g3, 0, none⟩) (n + 1) c3] u (fun e w' => ∃ r, e = .returned r ∧ POST u g3 c3 r w' ∧ Below u.heap.size u w'))
  (X0 : ∀ e g c y g3 c3 z u r w', Below W.heap.size W u → Below u.heap.size u w' → POST u g3 c3 r w' → wpAnyH P md ops Q S (fx + 1) (Lf true true true true true false) ((appAct d0 d2 d11 d12 dz n a0 true true true true false e g c y g3 c3 z).put (some d13) r) w')
  (X1 : ∀ e g c y g3 c3 z u r w', Below W.heap.size W u → Below u.heap.size u w' → POST u g3 c3 r w' → w'.heap[z]? = some (.cells zc 29 (0, 0)) → W.heap.size ≤ z → wpAnyH P md ops Q S fx (Lf true true true true true true) ((appAct d0 d2 d11 d12 dz n a0 true true true true true e g c y g3 c3 z).put (some d13) r) w')
  (u : World) (hu : Below W.heap.size W u) (l : Array Bool) (hl : l = Lf false false false false false false) (f : Nat) (hf : f = fx + 6) : wpAnyH P md ops Q S f l a0 u := by
 subst hl hf
 simp only [List.nodup_cons, List.mem_cons, List.not_mem_nil, not_or, or_false, not_false_eq_true, and_true, List.nodup_nil] at hd
 obtain ⟨⟨n1, n2, n3, n4, n5, n6⟩, ⟨n7, n8, n9, n10, n11⟩, ⟨n12, n13, n14, n15⟩, ⟨n16, n17, n18⟩, ⟨n19, n20⟩, n21⟩ := hd
 have z0 := hz d0 (by simp)
 have z2 := hz d2 (by simp)
 have z11 := hz d11 (by simp)
 have z12 := hz d12 (by simp)
 refine wpAnyH_inv (fun f l a w => ∃ b0 b2 b11 b12 bz e g c y g3 c3 z, AppS W w n xs ys yc zc b0 b2 b11 b12 bz e g c y g3 c3 z ∧ l = Lf b0 b2 b11 b12 false bz ∧ a = appAct d0 d2 d11 d12 dz n a0 b0 b2 b11 b12 bz e g c y g3 c3 z ∧ f + b0.toNat + b2.toNat + b11.toNat + b12.toNat + bz.toNat = fx + 6) ?_ ?_ _ _ _ _ ⟨false, false, false, false, false, 0, 0, 0, 0, 0, 0, 0, ?_, rfl, rfl, rfl⟩
 ·rintro l a w ⟨b0, b2, b11, b12, bz, e, g, c, y, g3, c3, z, -, -, -, hf⟩
  have t0 := Bool.toNat_le b0
  have t2 := Bool.toNat_le b2
  have t11 := Bool.toNat_le b11
  have t12 := Bool.toNat_le b12
  have tz := Bool.toNat_le bz
  omega
 ·rintro f l a w ⟨b0, b2, b11, b12, bz, e, g, c, y, g3, c3, z, s, rfl, rfl, hf⟩
  have hr := hready b0 b2 b11 b12 bz
  rw [Bool.and_eq_true, List.all_eq_true] at hr
  refine ⟨fun h => ?_, fun i hi => ?_⟩
  ·have h2 := hr.2
   rw [h] at h2
   simp at h2
  have hok := hr.1 i hi
  obtain ⟨t0, t2, t11, t12, t13, tz⟩ := hset b0 b2 b11 b12 bz
  simp only [okR, Bool.or_eq_true, Bool.and_eq_true, beq_iff_eq, Bool.not_eq_true'] at hok
  rcases hok with ((((⟨rfl, rfl⟩ | ⟨⟨rfl, rfl⟩, rfl⟩) | ⟨rfl, rfl⟩) | ⟨⟨⟨rfl, rfl⟩, rfl⟩, rfl⟩) | ⟨rfl, rfl⟩) | ⟨rfl, rfl⟩
  ·refine H0 _ _ _ ⟨hS _ s.add0.below, Or.inl ⟨true, b2, b11, b12, bz, _, g, c, y, g3, c3, z, s.add0, t0, rfl, ?_⟩⟩
   simp only [Bool.toNat_false, Bool.toNat_true] at hf ⊢
   omega
  ·have ho := s.emp rfl rfl
   refine wpOp_append ho2 hg2 d2 hd2 _ _ sl hop2 W.heap.size _ ti _ 9 88 ht hti hy0 hy1 hy2 rfl (by decide) (.slice (some ⟨e, 0, none⟩) 0 0) 0 [] ?_ ho ad n cn xs ?_ hlx (hsrc w s.below) hox (by unfold maxLen; omega) (by omega) s.below.size ?_
   ·exact pf_same (by simp only [pf_size]; exact z0)
   ·unfold appAct
    rw [pf_other n5, pf_other n10, pf_other n14, pf_other n17, pf_other n19]
    exact hx
   intro v' w' ho' hg' hn' hat'
   rw [Nat.zero_add, List.nil_append] at ho'
   obtain ⟨g', c', rfl⟩ := form_of ho' (fun h => nomatch (hn'.1 h).1)
   have s' := s.add2 ho' hg' (hat'.imp (fun h => Option.some.inj h) (fun h => Option.some.inj h))
   refine ⟨hS _ s'.below, Or.inl ⟨true, true, b11, b12, bz, e, g', c', y, g3, c3, z, s', t2, ?_, ?_⟩⟩
   ·unfold appAct
    rw [pf_put n1]
    rfl
   ·simp only [Bool.toNat_false, Bool.toNat_true] at hf ⊢
    omega
  ·refine H11 _ _ _ ?_ ⟨hS _ s.add11.below, Or.inl ⟨b0, b2, true, b12, bz, e, g, c, _, g3, c3, z, s.add11, t11, ?_, ?_⟩⟩
   ·unfold appAct
    rw [pf_other n6, pf_other n11, pf_other n15, pf_other n18, pf_other n20]
    exact hy
   ·unfold appAct
    rw [pf_put n2, pf_put n7]
    rfl
   ·simp only [Bool.toNat_false, Bool.toNat_true] at hf ⊢
    omega
  ·have ho := s.row rfl rfl
   have h1 := s.one rfl rfl
   refine wpOp_append ho12 hg12 d12 hd12 _ _ sl hop12 W.heap.size _ ti _ 9 88 ht hti hy0 hy1 hy2 rfl (by decide) (.slice (some ⟨g, 0, none⟩) n c) n xs ?_ ho ⟨y, 0, none⟩ 1 1 ys ?_ (by omega) ?_ hoy (by unfold maxLen; omega) (by omega) s.below.size ?_
   ·unfold appAct
    rw [pf_other n1]
    exact pf_same (by simp only [pf_size]; exact z2)
   ·unfold appAct
    rw [pf_other n2, pf_other n7]
    exact pf_same (by simp only [pf_size]; exact z11)
   ·intro j v hv
    rw [add_none, Nat.zero_add, zCr h1, ← Array.getElem?_toList, hyc]
    exact hv
   intro v' w' ho' hg' hn' hat'
   obtain ⟨g', c', rfl⟩ := form_of ho' (fun h => nomatch (hn'.1 h).1)
   have s' := s.add12 ho' hg'
   refine ⟨hS _ s'.below, Or.inl ⟨b0, true, true, true, bz, e, g, c, y, g', c', z, s', t12, ?_, ?_⟩⟩
   ·unfold appAct
    rw [pf_put n3, pf_put n8, pf_put n12]
    rfl
   ·simp only [Bool.toNat_false, Bool.toNat_true] at hf ⊢
    omega
  ·obtain ⟨rfl, rfl⟩ := s.k12 rfl
   obtain rfl := s.k2 rfl
   refine H13 _ _ _ (.slice (some ⟨g3, 0, none⟩) (n + 1) c3) ?_ ((hcall w g3 c3 s.below (s.two rfl)).mono ?_)
   ·unfold appAct
    rw [pf_other n3, pf_other n8, pf_other n12]
    exact pf_same (by simp only [pf_size]; exact z12)
   rintro e' w' ⟨r, rfl, hp, hb⟩
   have hB : Below W.heap.size W w' := s.below.trans (hb.mono s.below.size)
   refine ⟨r, rfl, hS _ hB, Or.inr ?_⟩
   rw [t13]
   cases bz
   ·have hf' : f = fx + 1 := by simp only [Bool.toNat_false, Bool.toNat_true] at hf; omega
    rw [hf']
    exact X0 e g c y g3 c3 z w r w' s.below hb hp
   ·have hf' : f = fx := by simp only [Bool.toNat_true] at hf; omega
    rw [hf']
    have hbx := s.box rfl
    exact X1 e g c y g3 c3 z w r w' s.below hb hp ((hb.block _ (lt_of_block hbx.1)).trans hbx.1) hbx.2
  ·refine Hz _ _ _ ⟨hS _ s.addz.below, Or.inl ⟨b0, b2, b11, b12, true, e, g, c, y, g3, c3, _, s.addz, tz, ?_, ?_⟩⟩
   ·unfold appAct
    rw [pf_put n4, pf_put n9, pf_put n13, pf_put n16]
    rfl
   ·simp only [Bool.toNat_false, Bool.toNat_true] at hf ⊢
    omega
 ·exact ⟨hu, fun h => absurd h (by simp), fun h => absurd h (by simp), fun h => absurd h (by simp), fun h => absurd h (by simp), fun h => absurd h (by simp), fun h => absurd h (by simp), fun h => absurd h (by simp), fun h => absurd h (by simp), fun h => absurd h (by simp), fun h => absurd h (by simp), fun h => absurd h (by simp)⟩
theorem RL.src {w : World} {g : Nat} {xs : List RV} (h : RL w g xs) : ∀ j v, (xs.flatMap RV.cells)[j]? = some v → w.cell? ((Addr.mk g 0 none).add j) = some v := by
 intro j v hv
 have hlt : j < (xs.flatMap RV.cells).length := (List.getElem?_eq_some_iff.1 hv).1
 rw [flatR_len] at hlt
 obtain ⟨x, hx⟩ := get_of_lt (show j / 9 < xs.length by omega)
 have hj : j / 9 * 9 + j % 9 = j := by omega
 have h9 : j % 9 < 9 := by omega
 rw [← hj, flatR_at xs (j / 9) (j % 9) x hx h9] at hv
 have e : (Addr.mk g 0 none).add j = ⟨g, j / 9 * 9 + j % 9, none⟩ := by rw [hj]; simp [Addr.add]; exact Eq.symm
 rw [e]
 obtain ⟨c0, c1, c2, c3, c4, c5, c6, c7, c8⟩ := h.elem (j / 9) x hx
 generalize j % 9 = r at hv h9 ⊢
 rcases r with _ | _ | _ | _ | _ | _ | _ | _ | _ | r
 ·cases hv; exact c0
 ·cases hv; exact c1
 ·cases hv; exact c2
 ·cases hv; exact c3
 ·cases hv; exact c4
 ·cases hv; exact c5
 ·cases hv; exact c6
 ·cases hv; exact c7
 ·cases hv; exact c8
 ·omega
theorem RL.of_cells {w : World} {lo g n c : Nat} {xs : List RV} (ho : w.ownsRow lo 29 9 (.slice (some ⟨g, 0, none⟩) n c) n (xs.flatMap RV.cells)) (he : ∀ y ∈ xs, ROk w y) : RL w g xs := by
 have h3 := RowB.of_own ho
 refine ⟨h3.lt, fun k x hx => ?_, he⟩
 have e : ∀ j v, j < 9 → x.cells[j]? = some v → w.cell? ⟨g, k * 9 + j, none⟩ = some v := fun j v hj hv => h3.cell (by rw [flatR_at xs k j x hx hj]; exact hv)
 exact ⟨e 0 _ (by omega) rfl, e 1 _ (by omega) rfl, e 2 _ (by omega) rfl, e 3 _ (by omega) rfl, e 4 _ (by omega) rfl, e 5 _ (by omega) rfl, e 6 _ (by omega) rfl, e 7 _ (by omega) rfl, e 8 _ (by omega) rfl⟩
theorem flatR_one (xs : List RV) : ∀ u ∈ xs.flatMap RV.cells, u.oneCell' = true := by
 intro u hu
 obtain ⟨y, _, h⟩ := List.mem_flatMap.1 hu
 exact rcells_one y u h
theorem joined_ret {L : List PB} {w w' : World} {e : Ending} (h : JoinPost L w e w') : ∃ r, e = .returned r ∧ JoinPost L w (.returned r) w' ∧ Below w.heap.size w w' := by
 obtain ⟨a, c, h1, h2, h3⟩ := h
 exact ⟨_, h1, ⟨a, c, rfl, h2, h3⟩, h3⟩
theorem joined_at {L : List PB} {w w' : World} {r : Value} {y : RV} (h : JoinPost L w (.returned r) w') (hJ : joinL L = (0, y.key)) : ∃ (a : Option Addr) (c : Nat), r = .tuple #[.agg #[.int .i64 y.p.src, .int .i64 y.p.dst, .int .i64 y.p.kind, .int .i64 y.p.id, .int .i64 y.p.hops, .bool y.p.whole, .int .i64 y.p.off, .bool y.p.more, .slice a y.zs.length c], .int .i64 0] ∧ w'.ownsRow w.heap.size 5 1 (.slice a y.zs.length c) y.zs.length (y.zs.map (.int .u8)) := by
 obtain ⟨a, c, h1, h2, h3⟩ := h
 rw [hJ] at h1 h2
 exact ⟨a, c, Ending.returned.inj h1, h2⟩
theorem box_row {W v : World} {z lo n : Nat} {zc cs : Array Value} {val : Value} {xs : List Value} (hB : Below W.heap.size W v) (hz : v.heap[z]? = some (.cells zc 29 (0, 0))) (hW : W.heap.size ≤ z) (ho : v.ownsRow lo 5 1 val n xs) :
  (v.setRow z cs).heap[z]? = some (.cells cs 29 (0, 0)) ∧ (v.setRow z cs).ownsRow lo 5 1 val n xs ∧ Below W.heap.size W (v.setRow z cs) :=
 ⟨setRow_heap _ _ _ _ _ _ hz, own_kept ho fun k hk => setRow_other _ _ _ _ (fun e => by
  obtain ⟨cu, hc⟩ := own_at ho k hk
  rw [e, hz] at hc
  cases hc), below_setRow hB hW cs⟩
set_option maxHeartbeats 25600000 in
theorem bn22 {Q : Exit → Act → World → Prop} (hP : PanicOk Q) {w1 w6 : World} {gl n cl k l m1 m2 zA zB zC zD cl1 cl2 k2 cb : Nat} {now1 c1' : Int} {ob oa1 oa2 a2 : Option Addr} {ts us1 us2 : List SV} {x y1 : RV} {v0 v1 v2 v6 v7 v8 v9 v17 v18 v19 v20 : Value} {f : Nat → Value} {w11 : World} {ps : List RV} {i0 gS gP nP cP : Nat} (hki : (k : Int) < (n : Int)) (hi0l : (i0 : Int) < (l : Int)) (hnP : nP ≤ 40) (hob : ob = some ⟨gS, 0, none⟩) (E11 : Below w6.heap.size w6 w11) (HF6 : Hid (F6 w1 w6 zA zB zC zD l m1 cl1 m2 cl2 cb k2 now1 ob oa1 oa2 a2 y1)) (HXC16 : Hid (∀ u, Below w6.heap.size w6 u → X9 u gl (k * 9) x)) (HS6 : Hid (∀ u, Below w6.heap.size w6 u → (SLq u oa1 us1 ∧ ROk u y1) ∧ (SLq u oa2 us2 ∧ ROk u ⟨y1.p, a2, k2, y1.zs⟩) ∧ ROk u x ∧ SLq u ob ts)) (HPC : Hid (∀ u, Below w6.heap.size w6 u → u.cell? ⟨gS, i0 * 3, none⟩ = some (.slice (some ⟨gP, 0, none⟩) nP cP))) (HRP : Hid (∀ u, Below w6.heap.size w6 u → RL u gP ps)) (HN : Hid (ps.length = nP)) (HJ0 : Hid (joinL ((ps ++ [x]).map RV.key) = (0, y1.key))) (hQ : Hid (∀ f wx z aJ cJ, Below w6.heap.size w6 wx → wx.heap[z]? = some (.cells (pcells y1.p (.slice aJ y1.zs.length cJ)) 29 (0, 0)) → wx.ownsRow w6.heap.size 5 1 (.slice aJ y1.zs.length cJ) y1.zs.length (y1.zs.map (.int .u8)) → Q .normal (fr v0 v1 v2 (.slice (some ⟨gl, 0, none⟩) n cl) (.pointer (some ⟨w1.heap.size, 0, none⟩)) (.int .i64 k) v6 v7 v8 v9 (.pointer (some ⟨zA, 0, none⟩)) (.pointer (some ⟨zB, 0, none⟩)) (.int .i64 c1') (.pointer (some ⟨zC, 0, none⟩)) (.pointer (some ⟨zD, 0, none⟩)) (.int .i64 c1') (.int .i64 i0) (.pointer (some ⟨z, 0, none⟩)) (.int .i64 0) v19 v20 f) wx)) : (Cd.fst (Cd.snd (Cd.snd (Cd.thn (Cd.snd (Cd.fst (Cd.snd (Cd.snd (Cd.snd (Cd.snd (Cd.inn (Cd.fst (Cd.snd (Cd.inn (Cd.inn (Cd.snd (Cd.fst (Cd.snd (Cd.snd (Cd.snd (Cd.snd (Option.getD Tryz.f3.body .skip)))))))))))))))))))))).wp Tryz.prog Q (fr v0 v1 v2 (.slice (some ⟨gl, 0, none⟩) n cl) (.pointer (some ⟨w1.heap.size, 0, none⟩)) (.int .i64 k) v6 v7 v8 v9 (.pointer (some ⟨zA, 0, none⟩)) (.pointer (some ⟨zB, 0, none⟩)) (.int .i64 c1') (.pointer (some ⟨zC, 0, none⟩)) (.pointer (some ⟨zD, 0, none⟩)) (.int .i64 c1') (.int .i64 i0) v17 v18 v19 v20 f) w11 := by
 subst hob
 have hi00 : ¬ ((i0 : Int) < 0) := by omega
 obtain ⟨ti, hti, hy0, hy1, hy2⟩ := info_parts Tryz.info9
 have E11' : Hid (Below w6.heap.size w6 w11.drew) := E11.drew
 refine wp_is (c' := .region _ _ _) rfl ?_
 unfold fr
 refine wp_region_held_drew (S := fun u => Below w6.heap.size w6 u) (by kernel_rfl) E11'.out (fun hH => ?_)
 refine zTq hP 1 155 (.pointer (some ⟨w1.heap.size, 1, none⟩)) rfl (fun w hS => by go_simp) hH ?_; simp only [Act.put, zX, zY, zZ]
 refine zTq hP 2 156 (.slice (some ⟨gS, 0, none⟩) l cb) rfl (fun w hS => by obtain ⟨⟨s0', s1'⟩, -⟩ := HF6.out _ hS; go_simp) hH ?_; simp only [Act.put, zX, zY, zZ]
 refine zTq hP 3 157 (.int .i64 i0) rfl (fun w hS => by go_simp) hH ?_; simp only [Act.put, zX, zY, zZ]
 refine zTq hP 4 158 (.pointer (some ⟨gS, i0 * 3, none⟩)) rfl (fun w hS => by go_simp) hH ?_; simp only [Act.put, zX, zY, zZ]
 refine zTq hP 5 159 (.pointer (some ⟨gS, i0 * 3, none⟩)) rfl (fun w hS => by go_simp) hH ?_; simp only [Act.put, zX, zY, zZ]
 refine zTq hP 6 160 (.slice (some ⟨gP, 0, none⟩) nP cP) rfl (fun w hS => by have s0c := HPC.out _ hS; go_simp) hH ?_; simp only [Act.put, zX, zY, zZ]
 refine zTq hP 8 162 (.slice (some ⟨gl, 0, none⟩) n cl) rfl (fun w hS => by go_simp) hH ?_; simp only [Act.put, zX, zY, zZ]
 refine zTq hP 9 163 (.int .i64 k) rfl (fun w hS => by go_simp) hH ?_; simp only [Act.put, zX, zY, zZ]
 refine zTq hP 10 164 (.pointer (some ⟨gl, k * 9, none⟩)) rfl (fun w hS => by go_simp) hH ?_; simp only [Act.put, zX, zY, zZ]
 refine zTq hP 11 165 (.agg #[.int .i64 x.p.src, .int .i64 x.p.dst, .int .i64 x.p.kind, .int .i64 x.p.id, .int .i64 x.p.hops, .bool x.p.whole, .int .i64 x.p.off, .bool x.p.more, .slice x.a x.zs.length x.c]) rfl (fun w hS => by obtain ⟨y0, y1, y2, y3, y4, y5, y6, y7, y8⟩ := HXC16.out _ hS; go_simp) hH ?_; simp only [Act.put, zX, zY, zZ]
 refine app_region (W := w6) (n := nP) (xs := ps.flatMap RV.cells) (ys := x.cells) (yc := pcells x.p (.slice x.a x.zs.length x.c)) (zc := #[.int .i64 0, .int .i64 0, .int .i64 0, .int .i64 0, .int .i64 0, .bool false, .int .i64 0, .bool false, .slice none 0 0]) _ 0 7 12 13 14 18 154 161 166 167 168 17 160 165 (fun b0 b2 b11 b12 b13 bz => #[b0, true, true, true, true, true, true, b2, true, true, true, true, b11, b12, b13, false, false, false, bz, false, false]) 5 23 15 (fun u g3 c3 r w' => JoinPost ((ps ++ [x]).map RV.key) u (.returned r) w') ⟨gP, 0, none⟩ cP (.agg #[.int .i64 x.p.src, .int .i64 x.p.dst, .int .i64 x.p.kind, .int .i64 x.p.id, .int .i64 x.p.hops, .bool x.p.whole, .int .i64 x.p.off, .bool x.p.more, .slice x.a x.zs.length x.c]) _ _ ti (fun _ h => h) ?g1 ?g2 (by decide) ?g3 rfl rfl ?g4 ?g5 ?g6 rfl rfl rfl rfl rfl rfl rfl rfl ?g7 Tryz.underlying23 hti hy0 hy1 hy2 ?g8 ?g9 (flatR_one _) rfl rfl (rcells_one _) (by omega) ?g10 ?x0 ?x1 _ hH _ (by kernel_rfl) _ (by kernel_rfl)
 case g1 =>
  intro b0 b2 b11 b12 bz
  exact ⟨by kernel_rfl, by kernel_rfl, by kernel_rfl, by kernel_rfl, by kernel_rfl, by kernel_rfl⟩
 case g2 =>
  intro b0 b2 b11 b12 bz
  cases b0 <;> cases b2 <;> cases b11 <;> cases b12 <;> cases bz <;> kernel_rfl
 case g3 => intro d hd; simp at hd; rcases hd with rfl | rfl | rfl | rfl <;> (simp; done)
 case g4 => intro a w K h; exact wpOp_made rfl rfl 154 rfl (by go_simp) h
 case g5 =>
  intro a w K hv h
  simp only [Act.eval, Array.getD_eq_getD_getElem?] at hv
  exact wpOp_made rfl rfl 166 rfl (by go_simp; rfl) h
 case g6 => intro a w K h; exact wpOp_made rfl rfl 17 rfl (by go_simp) h
 case g7 =>
  intro a w K v hv h
  simp only [Act.eval, Array.getD_eq_getD_getElem?] at hv
  exact wpOp_call rfl rfl 168 rfl 15 #[v] (by go_simp) h
 case g8 => rw [flatR_len, HN.out]
 case g9 => intro u hu j v hv; exact (HRP.out u hu).src j v hv
 case g10 =>
  intro u g3 c3 hu ho
  have R := RL.of_cells (xs := ps ++ [x]) (by rw [List.flatMap_append]; simpa using ho) (fun y hy => by
   rcases List.mem_append.1 hy with h | h
   ·exact (HRP.out u hu).each y h
   ·rw [List.mem_singleton.1 h]; exact (HS6.out u hu).2.2.1)
  have h5 := implJoin_any g3 c3 (ps ++ [x]) u R (by simp; have := HN.out; omega)
  rw [List.length_append, HN.out] at h5
  exact h5.mono fun e w' h => joined_ret h
 case x0 =>
  intro e g c y' g3 c3 z u r w' hu hb hp
  obtain ⟨aY, cY, rfl, oY⟩ := joined_at hp HJ0.out
  have hH : Below w6.heap.size w6 w' := hu.trans (hb.mono hu.size)
  have oY' := Joins.ownsRow_le oY hu.size
  clear hp hb oY hu
  simp only [appAct, pf, cond_true, cond_false, Act.put, zX, zY, zZ]
  refine zTq hP 15 153 (.tuple #[.agg #[.int .i64 y1.p.src, .int .i64 y1.p.dst, .int .i64 y1.p.kind, .int .i64 y1.p.id, .int .i64 y1.p.hops, .bool y1.p.whole, .int .i64 y1.p.off, .bool y1.p.more, .slice aY y1.zs.length cY], .int .i64 0]) rfl (fun w hS => by go_simp) hH ?_; simp only [Act.put, zX, zY, zZ]
  refine zTq hP 16 169 (.agg #[.int .i64 y1.p.src, .int .i64 y1.p.dst, .int .i64 y1.p.kind, .int .i64 y1.p.id, .int .i64 y1.p.hops, .bool y1.p.whole, .int .i64 y1.p.off, .bool y1.p.more, .slice aY y1.zs.length cY]) rfl (fun w hS => by go_simp) hH ?_; simp only [Act.put, zX, zY, zZ]
  refine zTq hP 17 170 (.int .i64 0) rfl (fun w hS => by go_simp) hH ?_; simp only [Act.put, zX, zY, zZ]
  refine zRd 18 (by kernel_rfl) rfl (fun K hK => ?_)
  have hzW := hH.size
  have oY'' := own_below oY' (zBa w' (.cells #[.int .i64 0, .int .i64 0, .int .i64 0, .int .i64 0, .int .i64 0, .bool false, .int .i64 0, .bool false, .slice none 0 0] 29))
  go_simp
  refine hK.out _ _ (hH.alloc hH.size _) (fun hH => ?_)
  clear hK K
  have hz : (w'.alloc (.cells #[.int .i64 0, .int .i64 0, .int .i64 0, .int .i64 0, .int .i64 0, .bool false, .int .i64 0, .bool false, .slice none 0 0] 29)).heap[w'.heap.size]? = some (.cells #[.int .i64 0, .int .i64 0, .int .i64 0, .int .i64 0, .int .i64 0, .bool false, .int .i64 0, .bool false, .slice none 0 0] 29 (0, 0)) := heap_new _ _ _ rfl
  refine zRd 19 (by kernel_rfl) rfl (fun K hK => ?_)
  rw [if_pos (by rfl)]
  refine wp_store_row 29 (.tmp 17) (.tmp 169) rfl (w'.heap.size) (pcells y1.p (.slice aY y1.zs.length cY)) (by rfl) (by rfl) 29 _ hz info9' rfl (pcells_all1 _ _ _ _) ?_
  obtain ⟨f1, f2, f3⟩ := box_row (cs := pcells y1.p (.slice aY y1.zs.length cY)) hH hz hzW oY''
  refine hK.out _ _ f3 (fun hH => ?_)
  clear hK K
  simp only [Act.put, zX, zY, zZ]
  refine zTq hP 20 18 (.int .i64 0) rfl (fun w hS => by go_simp) hH ?_; simp only [Act.put, zX, zY, zZ]
  refine wpAnyH_done (by kernel_rfl) ?_ _
  refine fr_end (C := fun a => Q .normal a _) rfl rfl rfl (fun f => ?_)
  exact hQ.out f _ _ aY cY f3 f1 f2
 case x1 =>
  intro e g c y' g3 c3 z u r w' hu hb hp hz hzW
  obtain ⟨aY, cY, rfl, oY⟩ := joined_at hp HJ0.out
  have hH : Below w6.heap.size w6 w' := hu.trans (hb.mono hu.size)
  have oY' := Joins.ownsRow_le oY hu.size
  clear hp hb oY hu
  simp only [appAct, pf, cond_true, Act.put, zX, zY, zZ]
  refine zTq hP 15 153 (.tuple #[.agg #[.int .i64 y1.p.src, .int .i64 y1.p.dst, .int .i64 y1.p.kind, .int .i64 y1.p.id, .int .i64 y1.p.hops, .bool y1.p.whole, .int .i64 y1.p.off, .bool y1.p.more, .slice aY y1.zs.length cY], .int .i64 0]) rfl (fun w hS => by go_simp) hH ?_; simp only [Act.put, zX, zY, zZ]
  refine zTq hP 16 169 (.agg #[.int .i64 y1.p.src, .int .i64 y1.p.dst, .int .i64 y1.p.kind, .int .i64 y1.p.id, .int .i64 y1.p.hops, .bool y1.p.whole, .int .i64 y1.p.off, .bool y1.p.more, .slice aY y1.zs.length cY]) rfl (fun w hS => by go_simp) hH ?_; simp only [Act.put, zX, zY, zZ]
  refine zTq hP 17 170 (.int .i64 0) rfl (fun w hS => by go_simp) hH ?_; simp only [Act.put, zX, zY, zZ]
  refine zRd 19 (by kernel_rfl) rfl (fun K hK => ?_)
  rw [if_pos (by rfl)]
  refine wp_store_row 29 (.tmp 17) (.tmp 169) rfl (z) (pcells y1.p (.slice aY y1.zs.length cY)) (by rfl) (by rfl) 29 _ hz info9' rfl (pcells_all1 _ _ _ _) ?_
  obtain ⟨f1, f2, f3⟩ := box_row (cs := pcells y1.p (.slice aY y1.zs.length cY)) hH hz hzW oY'
  refine hK.out _ _ f3 (fun hH => ?_)
  clear hK K
  simp only [Act.put, zX, zY, zZ]
  refine zTq hP 20 18 (.int .i64 0) rfl (fun w hS => by go_simp) hH ?_; simp only [Act.put, zX, zY, zZ]
  refine wpAnyH_done (by kernel_rfl) ?_ _
  refine fr_end (C := fun a => Q .normal a _) rfl rfl rfl (fun f => ?_)
  exact hQ.out f _ _ aY cY f3 f1 f2
end Go.Proofs.YtjbkgmbakjnlhaaGreatDoor
