/- Regions that draw their order, by what holds whatever has come up: and the region f(append(append([]P{}, list...), elem)). -/
import Derived.Test.YtjbkgmbakjnlhaaMix
import Derived.Maps.AppendAt
namespace Go.Proofs.Ytjbkgmbakjnlhaa
open Go.RowKit

section inv
variable {P : Program} {ops : Array Oper} {Q : Exit → Act → World → Prop} {md : Region.Mode} {S : World → Prop}
theorem wpAnyH_inv (I : Nat → Array Bool → Act → World → Prop) (h0 : ∀ l a w, I 0 l a w → False)
    (h1 : ∀ f l a w, I (f + 1) l a w → Region.ready md ops l ≠ [] ∧ ∀ i ∈ Region.ready md ops l, wpOp P ops Q i (fun a' w' => S w' ∧ (I f (l.setIfInBounds i true) a' w' ∨ wpAnyH P md ops Q S f (l.setIfInBounds i true) a' w')) a w) :
    ∀ f l a w, I f l a w → wpAnyH P md ops Q S f l a w
  | 0, l, a, w, h => (h0 l a w h).elim
  | f + 1, l, a, w, h => ⟨fun e => absurd e (h1 f l a w h).1, fun i hi => wpOp_mono (fun a' w' h' => ⟨h'.1, h'.2.elim (wpAnyH_inv I h0 h1 f _ a' w') id⟩) ((h1 f l a w h).2 i hi)⟩
theorem wpOp_of {i : Nat} {o : Oper} {a : Act} {w : World} {K : Act → World → Prop} (ho : ops[i]? = some o) (hg : o.guard = none) (h : Oper.wp P o a w K Q) : wpOp P ops Q i K a w := by
  unfold wpOp
  simp only [ho]
  rw [if_pos (by simp [Region.wanted, hg])]
  exact .inl h
/-- append to a row of the call's own, and where it lies then -/
theorem wpOp_append {i : Nat} {o : Oper} {a : Act} {w : World} {K : Act → World → Prop} (ho : ops[i]? = some o) (hg : o.guard = none) (d : Tmp) (hd : o.dst = some d) (s x : Operand) (t : TypeId)
    (hop : o.op = .call { callee := .builtin .append, args := #[s, x], argTypes := #[t, t] })
    (base : Nat) (e : TypeId) (ti : TypeInfo) (z : Value) (size bytes : Nat) (ht : P.underlying t = some (.slice e)) (hi : P.info? e = some ti) (hz : ti.zero = some z)
    (hsize : ti.size = size) (hby : ti.bytes = bytes) (hzs : z.cells.size = size) (hsz : 0 < size)
    (v : Value) (n : Nat) (xs : List Value) (hs : a.eval s = v) (hown : w.ownsRow base e size v n xs)
    (ad : Addr) (m c : Nat) (news : List Value) (hx : a.eval x = .slice (some ad) m c) (hl : news.length = m * size) (hnews : ∀ j u, news[j]? = some u → w.cell? (ad.add j) = some u) (h1 : ∀ u ∈ news, u.oneCell' = true)
    (h63 : n + m ≤ maxLen) (hbytes : (n + m) * bytes ≤ 140737488355328) (hbase : base ≤ w.heap.size)
    (h : ∀ v' w', w'.ownsRow base e size v' (n + m) (xs ++ news) → w.grownBy w' v.ownBlock → (v' = .slice none 0 0 ↔ v = .slice none 0 0 ∧ m = 0) → (v'.ownBlock = v.ownBlock ∨ v'.ownBlock = some w.heap.size) → K (a.put (some d) v') w') : wpOp P ops Q i K a w := by
  refine wpOp_of ho hg ?_
  obtain ⟨v', w', hr, h2, h3, h4, h5⟩ := run_append_own_at (P := P) w base t o.type e ti z size bytes ht hi hz hsize hby hzs hsz v n xs hown ad m c news hl hnews h1 h63 hbytes hbase
  unfold Oper.wp execOp
  simp only [hop, resolve, invoke, builtin, Sem.run_bind, Sem.run_pure, Result.andThen_ok, List.map_toArray, List.map_cons, List.map_nil, hs, hx, hr]
  rw [← hd] at h
  exact h v' w' h2 h3 h4 h5
/-- a call of a Go function, what it hands back put into its slot -/
theorem wpOp_call {i : Nat} {o : Oper} {a : Act} {w : World} {K : Act → World → Prop} (ho : ops[i]? = some o) (hg : o.guard = none) (d : Tmp) (hd : o.dst = some d) (f : FuncId) (args : Array Value) (hrun : (execOp a.eval o).run P w = .ok (.enter f args) w)
    (h : Calls P f args w (fun e w' => ∃ r, e = .returned r ∧ K (a.put (some d) r) w')) : wpOp P ops Q i K a w := by
  refine wpOp_of ho hg ?_
  unfold Oper.wp
  rw [hrun, Oper.upon_enter, hd]
  refine h.mono fun e w'' hh => ?_
  obtain ⟨r, rfl, hk⟩ := hh
  exact hk
/-- what makes memory -/
theorem wpOp_made {i : Nat} {o : Oper} {a : Act} {w w' : World} {v : Value} {K : Act → World → Prop} (ho : ops[i]? = some o) (hg : o.guard = none) (d : Tmp) (hd : o.dst = some d) (hrun : (execOp a.eval o).run P w = .ok (.value v) w')
    (h : K (a.put (some d) v) w') : wpOp P ops Q i K a w := by
  refine wpOp_of ho hg ?_
  unfold Oper.wp
  rw [hrun, Oper.upon_value, hd]
  exact h
end inv

/-- a slot that is written, if it is -/
def pf (b : Bool) (d : Tmp) (v : Value) (a : Act) : Act := bif b then a.put (some d) v else a
theorem pf_size (b : Bool) (d : Tmp) (v : Value) (a : Act) : (pf b d v a).tmps.size = a.tmps.size := by cases b <;> simp [pf, Act.put]
theorem pf_put {b : Bool} {d d' : Tmp} {v v' : Value} {a : Act} (h : d ≠ d') : (pf b d v a).put (some d') v' = pf b d v (a.put (some d') v') := by
  cases b
  · rfl
  · exact Act.put_comm a (x := some d) (y := some d') v v' (fun k hk e => h ((Option.some.inj hk).trans (Option.some.inj e).symm))
theorem pf_same {d : Tmp} {v : Value} {a : Act} (h : d < a.tmps.size) : (pf true d v a).eval (.tmp d) = v := by
  simp [pf, Act.put, Act.eval, h]
theorem pf_other {b : Bool} {d d' : Tmp} {v : Value} {a : Act} (h : d ≠ d') : (pf b d v a).eval (.tmp d') = a.eval (.tmp d') := by
  cases b
  · rfl
  · simp [pf, Act.put, Act.eval, Array.getElem?_setIfInBounds_ne h]

/-- the two appends, as far as they have come -/
structure AppS (W u : World) (n : Nat) (xs ys : List Value) (yc zc : Array Value) (b0 b2 b11 b12 bz : Bool) (e g c y g3 c3 z : Nat) : Prop where
  below : Below W.heap.size W u
  k2 : b2 = true → b0 = true
  k12 : b12 = true → b2 = true ∧ b11 = true
  emp : b0 = true → b2 = false → u.ownsRow W.heap.size 24 9 (.slice (some ⟨e, 0, none⟩) 0 0) 0 []
  row : b2 = true → b12 = false → u.ownsRow W.heap.size 24 9 (.slice (some ⟨g, 0, none⟩) n c) n xs
  one : b11 = true → b12 = false → u.heap[y]? = some (.cells yc 24 (0, 0))
  two : b12 = true → u.ownsRow W.heap.size 24 9 (.slice (some ⟨g3, 0, none⟩) (n + 1) c3) (n + 1) (xs ++ ys)
  box : bz = true → u.heap[z]? = some (.cells zc 24 (0, 0)) ∧ W.heap.size ≤ z
  y_e : b11 = true → b0 = true → b2 = false → y ≠ e
  y_g : b11 = true → b2 = true → b12 = false → y ≠ g
  z_e : bz = true → b0 = true → b2 = false → z ≠ e
  z_g : bz = true → b2 = true → b12 = false → z ≠ g
theorem AppS.mono {W u u' : World} {n : Nat} {xs ys : List Value} {yc zc : Array Value} {b0 b2 b11 b12 bz : Bool} {e g c y g3 c3 z : Nat} (s : AppS W u n xs ys yc zc b0 b2 b11 b12 bz e g c y g3 c3 z) (hb : Below u.heap.size u u') : AppS W u' n xs ys yc zc b0 b2 b11 b12 bz e g c y g3 c3 z :=
  ⟨s.below.trans (hb.mono s.below.size), s.k2, s.k12, fun a b => own_below (s.emp a b) hb, fun a b => own_below (s.row a b) hb, fun a b => (hb.block _ (lt_of_block (s.one a b))).trans (s.one a b), fun a => own_below (s.two a) hb, fun a => ⟨(hb.block _ (lt_of_block (s.box a).1)).trans (s.box a).1, (s.box a).2⟩, s.y_e, s.y_g, s.z_e, s.z_g⟩
theorem AppS.add0 {W u : World} {n : Nat} {xs ys : List Value} {yc zc : Array Value} {b2 b11 b12 bz : Bool} {e g c y g3 c3 z : Nat} (s : AppS W u n xs ys yc zc false b2 b11 b12 bz e g c y g3 c3 z) : AppS W (u.alloc (.cells #[] 24)) n xs ys yc zc true b2 b11 b12 bz u.heap.size g c y g3 c3 z := by
  have s' := s.mono (Joins.below_alloc1 u (.cells #[] 24))
  have h2 : b2 = false := by cases b2; · rfl
                             · exact absurd (s.k2 rfl) (by simp)
  have h12 : b12 = false := by cases b12; · rfl
                               · exact absurd (s.k12 rfl).1 (by simp [h2])
  refine ⟨s'.below, fun _ => rfl, s'.k12, fun _ _ => (PL.nil u _ _ rfl s.below.size).row, s'.row, s'.one, s'.two, s'.box, fun a _ _ h => ?_, s'.y_g, fun a _ _ h => ?_, s'.z_g⟩
  · have := lt_of_block (s.one a h12); omega
  · have := lt_of_block (s.box a).1; omega
theorem AppS.add11 {W u : World} {n : Nat} {xs ys : List Value} {yc zc : Array Value} {b0 b2 b12 bz : Bool} {e g c y g3 c3 z : Nat} (s : AppS W u n xs ys yc zc b0 b2 false b12 bz e g c y g3 c3 z) : AppS W (u.alloc (.cells yc 24)) n xs ys yc zc b0 b2 true b12 bz e g c u.heap.size g3 c3 z := by
  have s' := s.mono (Joins.below_alloc1 u (.cells yc 24))
  refine ⟨s'.below, s'.k2, fun h => absurd (s.k12 h).2 (by simp), s'.emp, s'.row, fun _ _ => heap_new _ _ _ rfl, s'.two, s'.box, fun _ a b h => ?_, fun _ a b h => ?_, s'.z_e, s'.z_g⟩
  · have := (own_lt (s.emp a b) e rfl).2; omega
  · have := (own_lt (s.row a b) g rfl).2; omega
theorem AppS.addz {W u : World} {n : Nat} {xs ys : List Value} {yc zc : Array Value} {b0 b2 b11 b12 : Bool} {e g c y g3 c3 z : Nat} (s : AppS W u n xs ys yc zc b0 b2 b11 b12 false e g c y g3 c3 z) : AppS W (u.alloc (.cells zc 24)) n xs ys yc zc b0 b2 b11 b12 true e g c y g3 c3 u.heap.size := by
  have s' := s.mono (Joins.below_alloc1 u (.cells zc 24))
  refine ⟨s'.below, s'.k2, s'.k12, s'.emp, s'.row, s'.one, s'.two, fun _ => ⟨heap_new _ _ _ rfl, s.below.size⟩, s'.y_e, s'.y_g, fun _ a b h => ?_, fun _ a b h => ?_⟩
  · have := (own_lt (s.emp a b) e rfl).2; omega
  · have := (own_lt (s.row a b) g rfl).2; omega
theorem AppS.add2 {W u u' : World} {n : Nat} {xs ys : List Value} {yc zc : Array Value} {b11 b12 bz : Bool} {e g c y g3 c3 z g' c' : Nat} (s : AppS W u n xs ys yc zc true false b11 b12 bz e g c y g3 c3 z) (ho : u'.ownsRow W.heap.size 24 9 (.slice (some ⟨g', 0, none⟩) n c') n xs) (hg : u.grownBy u' (some e)) (hat : g' = e ∨ g' = u.heap.size) : AppS W u' n xs ys yc zc true true b11 b12 bz e g' c' y g3 c3 z := by
  have h12 : b12 = false := by cases b12; · rfl
                               · exact absurd (s.k12 rfl).1 (by simp)
  have he := own_lt (s.emp rfl rfl) e rfl
  have hB : Below W.heap.size W u' := s.below.grown hg s.below.size (fun j hj => by cases hj; exact he.1)
  refine ⟨hB, fun _ => rfl, fun h => absurd h (by simp [h12]), fun _ h => absurd h (by simp), fun _ _ => ho, fun a b => ?_, fun h => absurd h (by simp [h12]), fun a => ?_, fun _ _ h => absurd h (by simp), fun a _ b h => ?_, fun _ _ h => absurd h (by simp), fun a _ b h => ?_⟩
  · have h1 := s.one a b
    exact (hg.block _ (lt_of_block h1) (fun h => s.y_e a rfl rfl (Option.some.inj h))).trans h1
  · have h1 := s.box a
    exact ⟨(hg.block _ (lt_of_block h1.1) (fun h => s.z_e a rfl rfl (Option.some.inj h))).trans h1.1, h1.2⟩
  · have h1 := lt_of_block (s.one a b)
    rcases hat with r | r
    · exact s.y_e a rfl rfl (h.trans r)
    · omega
  · have h1 := lt_of_block (s.box a).1
    rcases hat with r | r
    · exact s.z_e a rfl rfl (h.trans r)
    · omega
theorem AppS.add12 {W u u' : World} {n : Nat} {xs ys : List Value} {yc zc : Array Value} {b0 bz : Bool} {e g c y g3 c3 z g' c' : Nat} (s : AppS W u n xs ys yc zc b0 true true false bz e g c y g3 c3 z) (ho : u'.ownsRow W.heap.size 24 9 (.slice (some ⟨g', 0, none⟩) (n + 1) c') (n + 1) (xs ++ ys)) (hg : u.grownBy u' (some g)) : AppS W u' n xs ys yc zc b0 true true true bz e g c y g' c' z := by
  have he := own_lt (s.row rfl rfl) g rfl
  have hB : Below W.heap.size W u' := s.below.grown hg s.below.size (fun j hj => by cases hj; exact he.1)
  refine ⟨hB, s.k2, fun _ => ⟨rfl, rfl⟩, fun _ h => absurd h (by simp), fun _ h => absurd h (by simp), fun _ h => absurd h (by simp), fun _ => ho, fun a => ?_, fun _ _ h => absurd h (by simp), fun _ _ h => absurd h (by simp), fun _ _ h => absurd h (by simp), fun _ _ h => absurd h (by simp)⟩
  have h1 := s.box a
  exact ⟨(hg.block _ (lt_of_block h1.1) (fun h => s.z_g a rfl rfl (Option.some.inj h))).trans h1.1, h1.2⟩

/-- what may come up -/
def okR (i0 i2 i11 i12 i13 iz : Nat) (b0 b2 b11 b12 bz : Bool) (i : Nat) : Bool := (i == i0 && !b0) || (i == i2 && b0 && !b2) || (i == i11 && !b11) || (i == i12 && b2 && b11 && !b12) || (i == i13 && b12) || (i == iz && !bz)
/-- the frame, as far as it has come -/
def appAct (d0 d2 d11 d12 dz : Tmp) (n : Nat) (a0 : Act) (b0 b2 b11 b12 bz : Bool) (e g c y g3 c3 z : Nat) : Act :=
  pf b0 d0 (.slice (some ⟨e, 0, none⟩) 0 0) (pf b2 d2 (.slice (some ⟨g, 0, none⟩) n c) (pf b11 d11 (.slice (some ⟨y, 0, none⟩) 1 1) (pf b12 d12 (.slice (some ⟨g3, 0, none⟩) (n + 1) c3) (pf bz dz (.pointer (some ⟨z, 0, none⟩)) a0))))

theorem app_region {P : Program} {ops : Array Oper} {Q : Exit → Act → World → Prop} {md : Region.Mode} {S : World → Prop} {W : World} {n : Nat} {xs ys : List Value} {yc zc : Array Value} (a0 : Act)
    (i0 i2 i11 i12 i13 iz : Nat) (d0 d2 d11 d12 d13 dz x s11 : Tmp) (Lf : Bool → Bool → Bool → Bool → Bool → Bool → Array Bool) (fx : Nat) (sl : TypeId) (fn : FuncId) (POST : World → Nat → Nat → Value → World → Prop)
    (ad : Addr) (cn : Nat) (yv : Value) (o2 o12 : Oper) (ti : TypeInfo)
    (hS : ∀ u, Below W.heap.size W u → S u)
    (hset : ∀ b0 b2 b11 b12 bz, (Lf b0 b2 b11 b12 false bz).setIfInBounds i0 true = Lf true b2 b11 b12 false bz ∧ (Lf b0 b2 b11 b12 false bz).setIfInBounds i2 true = Lf b0 true b11 b12 false bz ∧ (Lf b0 b2 b11 b12 false bz).setIfInBounds i11 true = Lf b0 b2 true b12 false bz ∧ (Lf b0 b2 b11 b12 false bz).setIfInBounds i12 true = Lf b0 b2 b11 true false bz ∧ (Lf b0 b2 b11 b12 false bz).setIfInBounds i13 true = Lf b0 b2 b11 b12 true bz ∧ (Lf b0 b2 b11 b12 false bz).setIfInBounds iz true = Lf b0 b2 b11 b12 false true)
    (hready : ∀ b0 b2 b11 b12 bz, ((Region.ready md ops (Lf b0 b2 b11 b12 false bz)).all (okR i0 i2 i11 i12 i13 iz b0 b2 b11 b12 bz) && !(Region.ready md ops (Lf b0 b2 b11 b12 false bz)).isEmpty) = true)
    (hd : [d0, d2, d11, d12, dz, x, s11].Nodup) (hz : ∀ d ∈ [d0, d2, d11, d12], d < a0.tmps.size)
    (hx : a0.eval (.tmp x) = .slice (some ad) n cn) (hy : a0.eval (.tmp s11) = yv)
    (H0 : ∀ a w K, K (a.put (some d0) (.slice (some ⟨w.heap.size, 0, none⟩) 0 0)) (w.alloc (.cells #[] 24)) → wpOp P ops Q i0 K a w)
    (H11 : ∀ a w K, a.eval (.tmp s11) = yv → K (a.put (some d11) (.slice (some ⟨w.heap.size, 0, none⟩) 1 1)) (w.alloc (.cells yc 24)) → wpOp P ops Q i11 K a w)
    (Hz : ∀ a w K, K (a.put (some dz) (.pointer (some ⟨w.heap.size, 0, none⟩))) (w.alloc (.cells zc 24)) → wpOp P ops Q iz K a w)
    (ho2 : ops[i2]? = some o2) (hg2 : o2.guard = none) (hd2 : o2.dst = some d2) (hop2 : o2.op = .call { callee := .builtin .append, args := #[.tmp d0, .tmp x], argTypes := #[sl, sl] })
    (ho12 : ops[i12]? = some o12) (hg12 : o12.guard = none) (hd12 : o12.dst = some d12) (hop12 : o12.op = .call { callee := .builtin .append, args := #[.tmp d2, .tmp d11], argTypes := #[sl, sl] })
    (H13 : ∀ a w K v, a.eval (.tmp d12) = v → Calls P fn #[v] w (fun e w' => ∃ r, e = .returned r ∧ K (a.put (some d13) r) w') → wpOp P ops Q i13 K a w)
    (ht : P.underlying sl = some (.slice 24)) (hti : P.info? 24 = some ti) (hy0 : ti.zero = some (.agg #[.int .i64 0, .int .i64 0, .int .i64 0, .int .i64 0, .int .i64 0, .bool false, .int .i64 0, .bool false, .slice none 0 0])) (hy1 : ti.size = 9) (hy2 : ti.bytes = 88)
    (hlx : xs.length = n * 9) (hsrc : ∀ u, Below W.heap.size W u → ∀ j v, xs[j]? = some v → u.cell? (ad.add j) = some v) (hox : ∀ u ∈ xs, u.oneCell' = true)
    (hyc : yc.toList = ys) (hly : ys.length = 9) (hoy : ∀ u ∈ ys, u.oneCell' = true) (hn : n ≤ 1000000)
    (hcall : ∀ u g3 c3, Below W.heap.size W u → u.ownsRow W.heap.size 24 9 (.slice (some ⟨g3, 0, none⟩) (n + 1) c3) (n + 1) (xs ++ ys) → Calls P fn #[.slice (some ⟨g3, 0, none⟩) (n + 1) c3] u (fun e w' => ∃ r, e = .returned r ∧ POST u g3 c3 r w' ∧ Below u.heap.size u w'))
    (X0 : ∀ e g c y g3 c3 z u r w', Below W.heap.size W u → Below u.heap.size u w' → POST u g3 c3 r w' → wpAnyH P md ops Q S (fx + 1) (Lf true true true true true false) ((appAct d0 d2 d11 d12 dz n a0 true true true true false e g c y g3 c3 z).put (some d13) r) w')
    (X1 : ∀ e g c y g3 c3 z u r w', Below W.heap.size W u → Below u.heap.size u w' → POST u g3 c3 r w' → w'.heap[z]? = some (.cells zc 24 (0, 0)) → W.heap.size ≤ z → wpAnyH P md ops Q S fx (Lf true true true true true true) ((appAct d0 d2 d11 d12 dz n a0 true true true true true e g c y g3 c3 z).put (some d13) r) w')
    (u : World) (hu : Below W.heap.size W u) (l : Array Bool) (hl : l = Lf false false false false false false) (f : Nat) (hf : f = fx + 6) : wpAnyH P md ops Q S f l a0 u := by
  subst hl hf
  simp only [List.nodup_cons, List.mem_cons, List.not_mem_nil, not_or, or_false, not_false_eq_true, and_true, List.nodup_nil] at hd
  obtain ⟨⟨n1, n2, n3, n4, n5, n6⟩, ⟨n7, n8, n9, n10, n11⟩, ⟨n12, n13, n14, n15⟩, ⟨n16, n17, n18⟩, ⟨n19, n20⟩, n21⟩ := hd
  have z0 := hz d0 (by simp)
  have z2 := hz d2 (by simp)
  have z11 := hz d11 (by simp)
  have z12 := hz d12 (by simp)
  refine wpAnyH_inv (fun f l a w => ∃ b0 b2 b11 b12 bz e g c y g3 c3 z, AppS W w n xs ys yc zc b0 b2 b11 b12 bz e g c y g3 c3 z ∧ l = Lf b0 b2 b11 b12 false bz ∧ a = appAct d0 d2 d11 d12 dz n a0 b0 b2 b11 b12 bz e g c y g3 c3 z ∧ f + b0.toNat + b2.toNat + b11.toNat + b12.toNat + bz.toNat = fx + 6) ?_ ?_ _ _ _ _ ⟨false, false, false, false, false, 0, 0, 0, 0, 0, 0, 0, ?_, rfl, rfl, rfl⟩
  · rintro l a w ⟨b0, b2, b11, b12, bz, e, g, c, y, g3, c3, z, -, -, -, hf⟩
    have t0 := Bool.toNat_le b0
    have t2 := Bool.toNat_le b2
    have t11 := Bool.toNat_le b11
    have t12 := Bool.toNat_le b12
    have tz := Bool.toNat_le bz
    omega
  · rintro f l a w ⟨b0, b2, b11, b12, bz, e, g, c, y, g3, c3, z, s, rfl, rfl, hf⟩
    have hr := hready b0 b2 b11 b12 bz
    rw [Bool.and_eq_true, List.all_eq_true] at hr
    refine ⟨fun h => ?_, fun i hi => ?_⟩
    · have h2 := hr.2
      rw [h] at h2
      simp at h2
    have hok := hr.1 i hi
    obtain ⟨t0, t2, t11, t12, t13, tz⟩ := hset b0 b2 b11 b12 bz
    simp only [okR, Bool.or_eq_true, Bool.and_eq_true, beq_iff_eq, Bool.not_eq_true'] at hok
    rcases hok with ((((⟨rfl, rfl⟩ | ⟨⟨rfl, rfl⟩, rfl⟩) | ⟨rfl, rfl⟩) | ⟨⟨⟨rfl, rfl⟩, rfl⟩, rfl⟩) | ⟨rfl, rfl⟩) | ⟨rfl, rfl⟩
    · refine H0 _ _ _ ⟨hS _ s.add0.below, Or.inl ⟨true, b2, b11, b12, bz, _, g, c, y, g3, c3, z, s.add0, t0, rfl, ?_⟩⟩
      simp only [Bool.toNat_false, Bool.toNat_true] at hf ⊢
      omega
    · have ho := s.emp rfl rfl
      refine wpOp_append ho2 hg2 d2 hd2 _ _ sl hop2 W.heap.size _ ti _ 9 88 ht hti hy0 hy1 hy2 rfl (by decide) (.slice (some ⟨e, 0, none⟩) 0 0) 0 [] ?_ ho ad n cn xs ?_ hlx (hsrc w s.below) hox (by unfold maxLen; omega) (by omega) s.below.size ?_
      · exact pf_same (by simp only [pf_size]; exact z0)
      · unfold appAct
        rw [pf_other n5, pf_other n10, pf_other n14, pf_other n17, pf_other n19]
        exact hx
      intro v' w' ho' hg' hn' hat'
      rw [Nat.zero_add, List.nil_append] at ho'
      obtain ⟨g', c', rfl⟩ := form_of ho' (fun h => nomatch (hn'.1 h).1)
      have s' := s.add2 ho' hg' (hat'.imp (fun h => Option.some.inj h) (fun h => Option.some.inj h))
      refine ⟨hS _ s'.below, Or.inl ⟨true, true, b11, b12, bz, e, g', c', y, g3, c3, z, s', t2, ?_, ?_⟩⟩
      · unfold appAct
        rw [pf_put n1]
        rfl
      · simp only [Bool.toNat_false, Bool.toNat_true] at hf ⊢
        omega
    · refine H11 _ _ _ ?_ ⟨hS _ s.add11.below, Or.inl ⟨b0, b2, true, b12, bz, e, g, c, _, g3, c3, z, s.add11, t11, ?_, ?_⟩⟩
      · unfold appAct
        rw [pf_other n6, pf_other n11, pf_other n15, pf_other n18, pf_other n20]
        exact hy
      · unfold appAct
        rw [pf_put n2, pf_put n7]
        rfl
      · simp only [Bool.toNat_false, Bool.toNat_true] at hf ⊢
        omega
    · have ho := s.row rfl rfl
      have h1 := s.one rfl rfl
      refine wpOp_append ho12 hg12 d12 hd12 _ _ sl hop12 W.heap.size _ ti _ 9 88 ht hti hy0 hy1 hy2 rfl (by decide) (.slice (some ⟨g, 0, none⟩) n c) n xs ?_ ho ⟨y, 0, none⟩ 1 1 ys ?_ (by omega) ?_ hoy (by unfold maxLen; omega) (by omega) s.below.size ?_
      · unfold appAct
        rw [pf_other n1]
        exact pf_same (by simp only [pf_size]; exact z2)
      · unfold appAct
        rw [pf_other n2, pf_other n7]
        exact pf_same (by simp only [pf_size]; exact z11)
      · intro j v hv
        rw [add_none, Nat.zero_add, cell_of_row _ _ _ _ _ _ h1, ← Array.getElem?_toList, hyc]
        exact hv
      intro v' w' ho' hg' hn' hat'
      obtain ⟨g', c', rfl⟩ := form_of ho' (fun h => nomatch (hn'.1 h).1)
      have s' := s.add12 ho' hg'
      refine ⟨hS _ s'.below, Or.inl ⟨b0, true, true, true, bz, e, g, c, y, g', c', z, s', t12, ?_, ?_⟩⟩
      · unfold appAct
        rw [pf_put n3, pf_put n8, pf_put n12]
        rfl
      · simp only [Bool.toNat_false, Bool.toNat_true] at hf ⊢
        omega
    · obtain ⟨rfl, rfl⟩ := s.k12 rfl
      obtain rfl := s.k2 rfl
      refine H13 _ _ _ (.slice (some ⟨g3, 0, none⟩) (n + 1) c3) ?_ ((hcall w g3 c3 s.below (s.two rfl)).mono ?_)
      · unfold appAct
        rw [pf_other n3, pf_other n8, pf_other n12]
        exact pf_same (by simp only [pf_size]; exact z12)
      rintro e' w' ⟨r, rfl, hp, hb⟩
      have hB : Below W.heap.size W w' := s.below.trans (hb.mono s.below.size)
      refine ⟨r, rfl, hS _ hB, Or.inr ?_⟩
      rw [t13]
      cases bz
      · have hf' : f = fx + 1 := by simp only [Bool.toNat_false, Bool.toNat_true] at hf; omega
        rw [hf']
        exact X0 e g c y g3 c3 z w r w' s.below hb hp
      · have hf' : f = fx := by simp only [Bool.toNat_true] at hf; omega
        rw [hf']
        have hbx := s.box rfl
        exact X1 e g c y g3 c3 z w r w' s.below hb hp ((hb.block _ (lt_of_block hbx.1)).trans hbx.1) hbx.2
    · refine Hz _ _ _ ⟨hS _ s.addz.below, Or.inl ⟨b0, b2, b11, b12, true, e, g, c, y, g3, c3, _, s.addz, tz, ?_, ?_⟩⟩
      · unfold appAct
        rw [pf_put n4, pf_put n9, pf_put n13, pf_put n16]
        rfl
      · simp only [Bool.toNat_false, Bool.toNat_true] at hf ⊢
        omega
  · exact ⟨hu, fun h => absurd h (by simp), fun h => absurd h (by simp), fun h => absurd h (by simp), fun h => absurd h (by simp), fun h => absurd h (by simp), fun h => absurd h (by simp), fun h => absurd h (by simp), fun h => absurd h (by simp), fun h => absurd h (by simp), fun h => absurd h (by simp), fun h => absurd h (by simp)⟩
end Go.Proofs.Ytjbkgmbakjnlhaa
