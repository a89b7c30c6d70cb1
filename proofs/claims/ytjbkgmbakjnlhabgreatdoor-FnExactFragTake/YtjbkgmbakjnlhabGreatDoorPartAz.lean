/- The region r, s, t := f(g(x), h(y)), which draws its order: three calls and two boxes. -/
import Derived.Test.YtjbkgmbakjnlhabGreatDoorPartAf
import Derived.Test.YtjbkgmbakjnlhabGreatDoorPartAc
import Derived.Test.YtjbkgmbakjnlhabGreatDoorPartAw
import Derived.Test.YtjbkgmbakjnlhabGreatDoorSTake
namespace Go.Proofs.YtjbkgmbakjnlhabGreatDoor
set_option maxRecDepth 100000
open Go.RowKit

/-- as far as it has come -/
structure C3S (W u : World) (P1 P3 : World → Value → Prop) (cA cB : Array Value) (tA tB : TypeId) (b1 b3 bA bB : Bool) (v1 v3 : Value) (zA zB : Nat) : Prop where
  below : Below W.heap.size W u
  k3 : b3 = true → b1 = true
  one : b1 = true → P1 u v1
  three : b3 = true → P3 u v3
  boxA : bA = true → u.heap[zA]? = some (.cells cA tA (0, 0)) ∧ W.heap.size ≤ zA
  boxB : bB = true → u.heap[zB]? = some (.cells cB tB (0, 0)) ∧ W.heap.size ≤ zB
  ne : bA = true → bB = true → zA ≠ zB
theorem C3S.mono {W u u' : World} {P1 P3 : World → Value → Prop} {cA cB : Array Value} {tA tB : TypeId} {b1 b3 bA bB : Bool} {v1 v3 : Value} {zA zB : Nat} (s : C3S W u P1 P3 cA cB tA tB b1 b3 bA bB v1 v3 zA zB)
    (m1 : ∀ u u' v, Below u.heap.size u u' → P1 u v → P1 u' v) (m3 : ∀ u u' v, Below u.heap.size u u' → P3 u v → P3 u' v) (hb : Below u.heap.size u u') : C3S W u' P1 P3 cA cB tA tB b1 b3 bA bB v1 v3 zA zB :=
  ⟨s.below.trans (hb.mono s.below.size), s.k3, fun h => m1 _ _ _ hb (s.one h), fun h => m3 _ _ _ hb (s.three h), fun h => ⟨(hb.block _ (lt_of_block (s.boxA h).1)).trans (s.boxA h).1, (s.boxA h).2⟩, fun h => ⟨(hb.block _ (lt_of_block (s.boxB h).1)).trans (s.boxB h).1, (s.boxB h).2⟩, s.ne⟩
def okC3 (i1 i3 i4 iA iB : Nat) (b1 b3 bA bB : Bool) (i : Nat) : Bool := (i == i1 && !b1) || (i == i3 && b1 && !b3) || (i == i4 && b3) || (i == iA && !bA) || (i == iB && !bB)
def c3Act (d1 d3 dA dB : Tmp) (a0 : Act) (b1 b3 bA bB : Bool) (v1 v3 : Value) (zA zB : Nat) : Act :=
  pf b1 d1 v1 (pf b3 d3 v3 (pf bA dA (.pointer (some ⟨zA, 0, none⟩)) (pf bB dB (.pointer (some ⟨zB, 0, none⟩)) a0)))

theorem call3_region {P : Program} {ops : Array Oper} {Q : Exit → Act → World → Prop} {md : Region.Mode} {S : World → Prop} {W : World} {P1 P3 : World → Value → Prop} {POST : World → Value → World → Prop} {cA cB : Array Value} {tA tB : TypeId} (a0 : Act)
    (i1 i3 i4 iA iB : Nat) (d1 d3 d4 dA dB s1 s3 : Tmp) (Lf : Bool → Bool → Bool → Bool → Bool → Array Bool) (fx : Nat) (f1 f3 f4 : FuncId) (x1 x3 : Value)
    (hS : ∀ u, Below W.heap.size W u → S u)
    (hset : ∀ b1 b3 bA bB, (Lf b1 b3 false bA bB).setIfInBounds i1 true = Lf true b3 false bA bB ∧ (Lf b1 b3 false bA bB).setIfInBounds i3 true = Lf b1 true false bA bB ∧ (Lf b1 b3 false bA bB).setIfInBounds i4 true = Lf b1 b3 true bA bB ∧ (Lf b1 b3 false bA bB).setIfInBounds iA true = Lf b1 b3 false true bB ∧ (Lf b1 b3 false bA bB).setIfInBounds iB true = Lf b1 b3 false bA true)
    (hready : ∀ b1 b3 bA bB, ((Region.ready md ops (Lf b1 b3 false bA bB)).all (okC3 i1 i3 i4 iA iB b1 b3 bA bB) && !(Region.ready md ops (Lf b1 b3 false bA bB)).isEmpty) = true)
    (hd : [d1, d3, dA, dB, s1, s3].Nodup) (hz : ∀ d ∈ [d1, d3], d < a0.tmps.size)
    (hx1 : a0.eval (.tmp s1) = x1) (hx3 : a0.eval (.tmp s3) = x3)
    (H1 : ∀ a w K, a.eval (.tmp s1) = x1 → Calls P f1 #[x1] w (fun e w' => ∃ r, e = .returned r ∧ K (a.put (some d1) r) w') → wpOp P ops Q i1 K a w)
    (H3 : ∀ a w K, a.eval (.tmp s3) = x3 → Calls P f3 #[x3] w (fun e w' => ∃ r, e = .returned r ∧ K (a.put (some d3) r) w') → wpOp P ops Q i3 K a w)
    (H4 : ∀ a w K u v, a.eval (.tmp d1) = u → a.eval (.tmp d3) = v → Calls P f4 #[u, v] w (fun e w' => ∃ r, e = .returned r ∧ K (a.put (some d4) r) w') → wpOp P ops Q i4 K a w)
    (HA : ∀ a w K, K (a.put (some dA) (.pointer (some ⟨w.heap.size, 0, none⟩))) (w.alloc (.cells cA tA)) → wpOp P ops Q iA K a w)
    (HB : ∀ a w K, K (a.put (some dB) (.pointer (some ⟨w.heap.size, 0, none⟩))) (w.alloc (.cells cB tB)) → wpOp P ops Q iB K a w)
    (m1 : ∀ u u' v, Below u.heap.size u u' → P1 u v → P1 u' v) (m3 : ∀ u u' v, Below u.heap.size u u' → P3 u v → P3 u' v)
    (c1 : ∀ u, Below W.heap.size W u → Calls P f1 #[x1] u (fun e w' => ∃ r, e = .returned r ∧ P1 w' r ∧ Below u.heap.size u w'))
    (c3 : ∀ u, Below W.heap.size W u → Calls P f3 #[x3] u (fun e w' => ∃ r, e = .returned r ∧ P3 w' r ∧ Below u.heap.size u w'))
    (c4 : ∀ u v1 v3, Below W.heap.size W u → P1 u v1 → P3 u v3 → Calls P f4 #[v1, v3] u (fun e w' => ∃ r, e = .returned r ∧ POST u r w' ∧ Below u.heap.size u w'))
    (X : ∀ bA bB v1 v3 zA zB u r w', Below W.heap.size W u → Below u.heap.size u w' → POST u r w' → (bA = true → w'.heap[zA]? = some (.cells cA tA (0, 0)) ∧ W.heap.size ≤ zA ∧ zA < u.heap.size) → (bB = true → w'.heap[zB]? = some (.cells cB tB (0, 0)) ∧ W.heap.size ≤ zB ∧ zB < u.heap.size) → (bA = true → bB = true → zA ≠ zB) →
      wpAnyH P md ops Q S (fx + 2 - bA.toNat - bB.toNat) (Lf true true true bA bB) ((c3Act d1 d3 dA dB a0 true true bA bB v1 v3 zA zB).put (some d4) r) w')
    (u : World) (hu : Below W.heap.size W u) (l : Array Bool) (hl : l = Lf false false false false false) (f : Nat) (hf : f = fx + 5) : wpAnyH P md ops Q S f l a0 u := by
  subst hl hf
  simp only [List.nodup_cons, List.mem_cons, List.not_mem_nil, not_or, or_false, not_false_eq_true, and_true, List.nodup_nil] at hd
  obtain ⟨⟨n1, n2, n3, n4, n5⟩, ⟨n6, n7, n8, n9⟩, ⟨n10, n11, n12⟩, ⟨n13, n14⟩, n15⟩ := hd
  have z1 := hz d1 (by simp)
  have z3 := hz d3 (by simp)
  refine wpAnyH_inv (fun f l a w => ∃ b1 b3 bA bB v1 v3 zA zB, C3S W w P1 P3 cA cB tA tB b1 b3 bA bB v1 v3 zA zB ∧ l = Lf b1 b3 false bA bB ∧ a = c3Act d1 d3 dA dB a0 b1 b3 bA bB v1 v3 zA zB ∧ f + b1.toNat + b3.toNat + bA.toNat + bB.toNat = fx + 5) ?_ ?_ _ _ _ _ ⟨false, false, false, false, undef, undef, 0, 0, ⟨hu, fun h => absurd h (by simp), fun h => absurd h (by simp), fun h => absurd h (by simp), fun h => absurd h (by simp), fun h => absurd h (by simp), fun h => absurd h (by simp)⟩, rfl, rfl, rfl⟩
  · rintro l a w ⟨b1, b3, bA, bB, v1, v3, zA, zB, -, -, -, hf⟩
    have t1 := Bool.toNat_le b1
    have t3 := Bool.toNat_le b3
    have tA := Bool.toNat_le bA
    have tB := Bool.toNat_le bB
    omega
  · rintro f l a w ⟨b1, b3, bA, bB, v1, v3, zA, zB, s, rfl, rfl, hf⟩
    have hr := hready b1 b3 bA bB
    rw [Bool.and_eq_true, List.all_eq_true] at hr
    refine ⟨fun h => ?_, fun i hi => ?_⟩
    · have h2 := hr.2
      rw [h] at h2
      simp at h2
    have hok := hr.1 i hi
    obtain ⟨t1, t3, t4, tA', tB'⟩ := hset b1 b3 bA bB
    simp only [okC3, Bool.or_eq_true, Bool.and_eq_true, beq_iff_eq, Bool.not_eq_true'] at hok
    rcases hok with (((⟨rfl, rfl⟩ | ⟨⟨rfl, rfl⟩, rfl⟩) | ⟨rfl, rfl⟩) | ⟨rfl, rfl⟩) | ⟨rfl, rfl⟩
    · refine H1 _ _ _ ?_ ((c1 w s.below).mono ?_)
      · unfold c3Act
        rw [pf_other n4, pf_other n8, pf_other n11, pf_other n13]
        exact hx1
      rintro e w' ⟨r, rfl, hp, hb⟩
      have h3 : b3 = false := by
        cases b3
        · rfl
        · exact absurd (s.k3 rfl) (by simp)
      subst h3
      have s' := s.mono m1 m3 hb
      have s2 : C3S W w' P1 P3 cA cB tA tB true false bA bB r v3 zA zB := ⟨s'.below, fun _ => rfl, fun _ => hp, s'.three, s'.boxA, s'.boxB, s'.ne⟩
      refine ⟨r, rfl, hS _ s2.below, Or.inl ⟨true, false, bA, bB, r, v3, zA, zB, s2, t1, rfl, ?_⟩⟩
      simp only [Bool.toNat_false, Bool.toNat_true] at hf ⊢
      omega
    · refine H3 _ _ _ ?_ ((c3 w s.below).mono ?_)
      · unfold c3Act
        rw [pf_other n5, pf_other n9, pf_other n12, pf_other n14]
        exact hx3
      rintro e w' ⟨r, rfl, hp, hb⟩
      have s' := s.mono m1 m3 hb
      have s2 : C3S W w' P1 P3 cA cB tA tB true true bA bB v1 r zA zB := ⟨s'.below, fun _ => rfl, s'.one, fun _ => hp, s'.boxA, s'.boxB, s'.ne⟩
      refine ⟨r, rfl, hS _ s2.below, Or.inl ⟨true, true, bA, bB, v1, r, zA, zB, s2, t3, ?_, ?_⟩⟩
      · unfold c3Act
        rw [pf_put n1]
        rfl
      · simp only [Bool.toNat_false, Bool.toNat_true] at hf ⊢
        omega
    · obtain rfl := s.k3 rfl
      refine H4 _ _ _ v1 v3 ?_ ?_ ((c4 w v1 v3 s.below (s.one rfl) (s.three rfl)).mono ?_)
      · exact pf_same (by simp only [pf_size]; exact z1)
      · unfold c3Act
        rw [pf_other n1]
        exact pf_same (by simp only [pf_size]; exact z3)
      rintro e w' ⟨r, rfl, hp, hb⟩
      have hB : Below W.heap.size W w' := s.below.trans (hb.mono s.below.size)
      refine ⟨r, rfl, hS _ hB, Or.inr ?_⟩
      rw [t4]
      have hf' : f = fx + 2 - bA.toNat - bB.toNat := by
        have tA := Bool.toNat_le bA
        have tB := Bool.toNat_le bB
        simp only [Bool.toNat_true] at hf
        omega
      rw [hf']
      exact X bA bB v1 v3 zA zB w r w' s.below hb hp (fun h => ⟨(hb.block _ (lt_of_block (s.boxA h).1)).trans (s.boxA h).1, (s.boxA h).2, lt_of_block (s.boxA h).1⟩) (fun h => ⟨(hb.block _ (lt_of_block (s.boxB h).1)).trans (s.boxB h).1, (s.boxB h).2, lt_of_block (s.boxB h).1⟩) s.ne
    · have s' := s.mono m1 m3 (Joins.below_alloc1 w (.cells cA tA))
      have s2 : C3S W (w.alloc (.cells cA tA)) P1 P3 cA cB tA tB b1 b3 true bB v1 v3 w.heap.size zB := ⟨s'.below, s'.k3, s'.one, s'.three, fun _ => ⟨heap_new _ _ _ rfl, s.below.size⟩, s'.boxB, fun _ h => by have := lt_of_block (s.boxB h).1; omega⟩
      refine HA _ _ _ ⟨hS _ s2.below, Or.inl ⟨b1, b3, true, bB, v1, v3, w.heap.size, zB, s2, tA', ?_, ?_⟩⟩
      · unfold c3Act
        rw [pf_put n2, pf_put n6]
        rfl
      · simp only [Bool.toNat_false, Bool.toNat_true] at hf ⊢
        omega
    · have s' := s.mono m1 m3 (Joins.below_alloc1 w (.cells cB tB))
      have s2 : C3S W (w.alloc (.cells cB tB)) P1 P3 cA cB tA tB b1 b3 bA true v1 v3 zA w.heap.size := ⟨s'.below, s'.k3, s'.one, s'.three, s'.boxA, fun _ => ⟨heap_new _ _ _ rfl, s.below.size⟩, fun h _ => by have := lt_of_block (s.boxA h).1; omega⟩
      refine HB _ _ _ ⟨hS _ s2.below, Or.inl ⟨b1, b3, bA, true, v1, v3, zA, w.heap.size, s2, tB', ?_, ?_⟩⟩
      · unfold c3Act
        rw [pf_put n3, pf_put n7, pf_put n10]
        rfl
      · simp only [Bool.toNat_false, Bool.toNat_true] at hf ⊢
        omega
end Go.Proofs.YtjbkgmbakjnlhabGreatDoor

/- The law FnExactFragTake: what stands in memory on its way. -/
namespace Go.Proofs.YtjbkgmbakjnlhabGreatDoor
set_option maxRecDepth 100000
open Go.RowKit

/-- a bench and a packet that were handed out, each in its box -/
structure Got (W u : World) (zA zB : Nat) (nw : Int) (oa : Option Addr) (cc : Nat) (ts : List SV) (y : RV) (ks : List SK) : Prop where
  below : Below W.heap.size W u
  boxA : u.heap[zA]? = some (.cells #[.int .i64 nw, .slice oa ts.length cc] 32 (0, 0))
  boxB : u.heap[zB]? = some (.cells #[.int .i64 y.p.src, .int .i64 y.p.dst, .int .i64 y.p.kind, .int .i64 y.p.id, .int .i64 y.p.hops, .bool y.p.whole, .int .i64 y.p.off, .bool y.p.more, .slice y.a y.zs.length y.c] 33 (0, 0))
  lA : W.heap.size ≤ zA
  lB : W.heap.size ≤ zB
  ans : TAns u W.heap.size nw ks oa cc ts y
theorem TAns.below {w w' : World} {lo : Nat} {now : Int} {ks : List SK} {oa : Option Addr} {cc : Nat} {ts : List SV} {y : RV} (h : TAns w lo now ks oa cc ts y) (hb : Below w.heap.size w w') : TAns w' lo now ks oa cc ts y := ⟨h.keys, h.len, h.cap, h.capM, h.ans.below hb, h.data.below hb⟩
theorem TAns.le {w : World} {lo lo' : Nat} {now : Int} {ks : List SK} {oa : Option Addr} {cc : Nat} {ts : List SV} {y : RV} (h : TAns w lo now ks oa cc ts y) (hl : lo' ≤ lo) : TAns w lo' now ks oa cc ts y := ⟨h.keys, h.len, h.cap, h.capM, h.ans.le hl, h.data.le hl⟩
theorem TAns.kept {w w' : World} {lo : Nat} {now : Int} {ks : List SK} {oa : Option Addr} {cc : Nat} {ts : List SV} {y : RV} (h : TAns w lo now ks oa cc ts y) (hA : ∀ b ∈ qblk oa ts, w'.heap[b]? = w.heap[b]?) (hB : ∀ b ∈ y.blk, w'.heap[b]? = w.heap[b]?) : TAns w' lo now ks oa cc ts y := by
  refine ⟨h.keys, h.len, h.cap, h.capM, ?_, h.data.kept hB⟩
  rcases h.ans with h1 | ⟨gS, rfl, h2⟩
  · exact Or.inl h1
  · exact Or.inr ⟨gS, rfl, h2.low, h2.row.kept (hA gS (by simp [qblk, ablk])), h2.forest.kept fun b hb => hA b (List.mem_append_right _ hb)⟩
/-- what handed out memory is of -/
theorem TAns.kinds {w : World} {lo : Nat} {now : Int} {ks : List SK} {oa : Option Addr} {cc : Nat} {ts : List SV} {y : RV} (h : TAns w lo now ks oa cc ts y) : (∀ b ∈ qblk oa ts, lo ≤ b ∧ b < w.heap.size) ∧ (∀ b ∈ y.blk, lo ≤ b ∧ b < w.heap.size) := ⟨h.ans.rng, fun b hb => ⟨(h.data.blk b hb).1, (h.data.blk b hb).2.1⟩⟩
def BenchV (now : Int) (xs : List SV) (n : Nat) (u : World) (v : Value) : Prop := ∃ g ts, v = .agg #[.int .i64 now, .slice (some ⟨g, 0, none⟩) n n] ∧ SL u g ts ∧ ts.map SV.key = xs.map SV.key
def PackV (x : PB) (u : World) (v : Value) : Prop := ∃ z : RV, v = .agg #[.int .i64 z.p.src, .int .i64 z.p.dst, .int .i64 z.p.kind, .int .i64 z.p.id, .int .i64 z.p.hops, .bool z.p.whole, .int .i64 z.p.off, .bool z.p.more, .slice z.a z.zs.length z.c] ∧ z.key = x ∧ ROk u z
def GotV (now : Int) (xs : List SV) (x : PB) (u : World) (r : Value) (w' : World) : Prop :=
  ∃ t1 nw ks oa cc ts y c, t1.map SV.key = xs.map SV.key ∧ r = .tuple #[.agg #[.int .i64 nw, .slice oa ts.length cc], .agg #[.int .i64 y.p.src, .int .i64 y.p.dst, .int .i64 y.p.kind, .int .i64 y.p.id, .int .i64 y.p.hops, .bool y.p.whole, .int .i64 y.p.off, .bool y.p.more, .slice y.a y.zs.length y.c], .int .i64 c] ∧ TakeP now t1 x nw ks y.key c ∧ TAns w' u.heap.size nw ks oa cc ts y
theorem tap_q {w : World} {lo : Nat} {oa : Option Addr} {ts : List SV} {y : RV} (ha : AnsV w lo oa ts) (h : TApart oa ts y) : ∀ b ∈ y.blk, b ∉ qblk oa ts := by
  intro b hb hq
  obtain ⟨h1, h2⟩ := h b hb
  rcases List.mem_append.1 hq with h3 | h3
  · rcases ha with ⟨e, _⟩ | ⟨g, e, _⟩
    · simp [ablk, e] at h3
    · have h4 : b = g := by simpa [ablk, e] using h3
      exact h1 g e h4
  · exact h2 h3
theorem SB.need2 {w : World} {lo gS n : Nat} {ts : List SV} (h : SB w lo gS n ts) (hl : ts.length ≤ 1048576) : (1 : Int) + (soff ts ts.length : Int) ≤ 4611686018427387904 - 1048576 := by
  have := soff_bound (ss := ts) fun s hs => by
    obtain ⟨gL, _, _, a3, a4⟩ := h.each s hs
    refine sneed_bound (fun y hy => ?_) a4
    obtain ⟨gy, _, _, _, _, a5, _⟩ := a3.each y hy
    exact a5
  omega
theorem AnsV.need2 {w : World} {lo : Nat} {oa : Option Addr} {ts : List SV} (h : AnsV w lo oa ts) (hl : ts.length ≤ 4) : (1 : Int) + (soff ts ts.length : Int) ≤ 4611686018427387904 - 1048576 := by
  rcases h with ⟨_, rfl⟩ | ⟨g, h1, h2⟩
  · simp [soff]
  · have := soff_bound fun s hs => sneed_bound (fun y hy => ((h2.forest.each s hs).each y hy).len) (h2.forest.each s hs).len
    omega
/-- the arguments' boxes, and what the specification answered -/
structure BaseS (w0 : World) (hi : Nat) (bv xv qv yv : Obj) (zA zB lo : Nat) (nw : Int) (ks : List SK) (oW : Option Addr) (cW : Nat) (tsW : List SV) (yW : RV) (u : World) : Prop where
  P : u.heap[w0.heap.size]? = some bv
  A : u.heap[w0.heap.size + 1]? = some xv
  Q : u.heap[zA]? = some qv
  Y : u.heap[zB]? = some yv
  T : TAns u lo nw ks oW cW tsW yW
  B : Below w0.heap.size w0 u
  hw : w0.heap.size + 1 < hi
  hA : zA < hi
  hB : zB < hi
  r1 : ∀ b ∈ qblk oW tsW, b < hi
  r2 : ∀ b ∈ yW.blk, b < hi
  hu : hi ≤ u.heap.size
theorem BaseS.below {w0 : World} {hi : Nat} {bv xv qv yv : Obj} {zA zB lo : Nat} {nw : Int} {ks : List SK} {oW : Option Addr} {cW : Nat} {tsW : List SV} {yW : RV} {u u' : World} (h : BaseS w0 hi bv xv qv yv zA zB lo nw ks oW cW tsW yW u) (hb : Below u.heap.size u u') : BaseS w0 hi bv xv qv yv zA zB lo nw ks oW cW tsW yW u' := by
  have h1 := h.hu; have h2 := h.hw; have h3 := h.hA; have h4 := h.hB
  exact ⟨(hb.block _ (by omega)).trans h.P, (hb.block _ (by omega)).trans h.A, (hb.block _ (by omega)).trans h.Q, (hb.block _ (by omega)).trans h.Y, h.T.below hb, h.B.trans (hb.mono h.B.size), h.hw, h.hA, h.hB, h.r1, h.r2, Nat.le_trans h.hu hb.size⟩
theorem BaseS.mkd {w0 : World} {hi : Nat} {bv xv qv yv : Obj} {zA zB lo : Nat} {nw : Int} {ks : List SK} {oW : Option Addr} {cW : Nat} {tsW : List SV} {yW : RV} {u u' : World} {F : List Nat} (h : BaseS w0 hi bv xv qv yv zA zB lo nw ks oW cW tsW yW u) (hm : Mk F u u') (hF : ∀ b ∈ F, hi ≤ b) : BaseS w0 hi bv xv qv yv zA zB lo nw ks oW cW tsW yW u' := by
  have h1 := h.hu; have h2 := h.hw; have h3 := h.hA; have h4 := h.hB
  have k : ∀ b, b < hi → u'.heap[b]? = u.heap[b]? := fun b hb => hm.block b (by omega) (fun h' => by have := hF b h'; omega)
  exact ⟨(k _ (by omega)).trans h.P, (k _ (by omega)).trans h.A, (k _ (by omega)).trans h.Q, (k _ (by omega)).trans h.Y, h.T.kept (fun b hb => k b (h.r1 b hb)) (fun b hb => k b (h.r2 b hb)), ⟨hm.os.trans h.B.os, hm.tape.trans h.B.tape, hm.output.trans h.B.output, Nat.le_trans h.B.size hm.size, fun b hb => (k b (by omega)).trans (h.B.block b hb)⟩, h.hw, h.hA, h.hB, h.r1, h.r2, Nat.le_trans h.hu hm.size⟩
/-- what the program answered, ahead of its marks -/
structure GotS (lo hi : Nat) (gv yv : Obj) (bG bY : Nat) (nw : Int) (ks : List SK) (oG : Option Addr) (cG : Nat) (tsG : List SV) (yG : RV) (u : World) : Prop where
  G : u.heap[bG]? = some gv
  Y : u.heap[bY]? = some yv
  T : TAns u lo nw ks oG cG tsG yG
  hG : lo ≤ bG ∧ bG < hi
  hY : lo ≤ bY ∧ bY < hi
  r1 : ∀ b ∈ qblk oG tsG, b < hi ∧ b ≠ bG ∧ b ≠ bY
  r2 : ∀ b ∈ yG.blk, b < hi ∧ b ≠ bG ∧ b ≠ bY
  ap : ∀ b ∈ yG.blk, b ∉ qblk oG tsG
  hu : hi ≤ u.heap.size
theorem GotS.below {lo hi : Nat} {gv yv : Obj} {bG bY : Nat} {nw : Int} {ks : List SK} {oG : Option Addr} {cG : Nat} {tsG : List SV} {yG : RV} {u u' : World} (h : GotS lo hi gv yv bG bY nw ks oG cG tsG yG u) (hb : Below u.heap.size u u') : GotS lo hi gv yv bG bY nw ks oG cG tsG yG u' := by
  have h1 := h.hu; have h2 := h.hG; have h3 := h.hY
  exact ⟨(hb.block _ (by omega)).trans h.G, (hb.block _ (by omega)).trans h.Y, h.T.below hb, h.hG, h.hY, h.r1, h.r2, h.ap, Nat.le_trans h.hu hb.size⟩
theorem GotS.mkd {lo hi : Nat} {gv yv : Obj} {bG bY : Nat} {nw : Int} {ks : List SK} {oG : Option Addr} {cG : Nat} {tsG : List SV} {yG : RV} {u u' : World} {F : List Nat} (h : GotS lo hi gv yv bG bY nw ks oG cG tsG yG u) (hm : Mk F u u') (hF : ∀ b ∈ F, b < lo) : GotS lo hi gv yv bG bY nw ks oG cG tsG yG u' := by
  have h1 := h.hu; have h2 := h.hG; have h3 := h.hY
  have k : ∀ b, lo ≤ b → b < hi → u'.heap[b]? = u.heap[b]? := fun b hb hb2 => hm.block b (by omega) (fun h' => by have := hF b h'; omega)
  exact ⟨(k _ h2.1 h2.2).trans h.G, (k _ h3.1 h3.2).trans h.Y, h.T.kept (fun b hb => k b (h.T.kinds.1 b hb).1 (h.r1 b hb).1) (fun b hb => k b (h.T.kinds.2 b hb).1 (h.r2 b hb).1), h.hG, h.hY, h.r1, h.r2, h.ap, Nat.le_trans h.hu hm.size⟩
/-- what was marked, and where it is held -/
structure HeldS (gv yv : Obj) (bG bY : Nat) (oG : Option Addr) (tsG : List SV) (yG : RV) (k : Int) (u : World) : Prop where
  G : u.heap[bG]? = some gv
  Y : u.heap[bY]? = some yv
  sq : SkQ u oG tsG
  mq : MkQ u oG tsG
  sy : SkY u yG.a yG.zs.length
  my : MkP u yG k
theorem HeldS.below {gv yv : Obj} {bG bY : Nat} {oG : Option Addr} {tsG : List SV} {yG : RV} {k : Int} {u u' : World} (h : HeldS gv yv bG bY oG tsG yG k u) (hb : Below u.heap.size u u') : HeldS gv yv bG bY oG tsG yG k u' := by
  have l1 : bG < u.heap.size := by
    refine Classical.byContradiction fun hc => ?_
    have := h.G
    rw [Array.getElem?_eq_none (by omega)] at this
    cases this
  have l2 : bY < u.heap.size := by
    refine Classical.byContradiction fun hc => ?_
    have := h.Y
    rw [Array.getElem?_eq_none (by omega)] at this
    cases this
  exact ⟨(hb.block _ l1).trans h.G, (hb.block _ l2).trans h.Y, h.sq.below hb, h.mq.below h.sq hb, h.sy.mkd (Mk.below (F := []) hb), h.my.kept fun b hb' => hb.block b (h.sy.lt b hb')⟩
end Go.Proofs.YtjbkgmbakjnlhabGreatDoor
