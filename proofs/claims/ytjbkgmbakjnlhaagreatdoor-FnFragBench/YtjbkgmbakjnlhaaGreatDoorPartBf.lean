import Derived.Test.YtjbkgmbakjnlhaaGreatDoorPartAa
import Derived.Test.YtjbkgmbakjnlhaaGreatDoorPartBe
namespace Go.Proofs.YtjbkgmbakjnlhaaGreatDoor
set_option maxRecDepth 100000
open Go.RowKit
def bx2 (dA dB : Tmp) (a : Act) (bA bB : Bool) (zA zB : Nat) : Act := pf bA dA (.pointer (some ⟨zA, 0, none⟩)) (pf bB dB (.pointer (some ⟨zB, 0, none⟩)) a)
theorem bx2_put {dA dB d : Tmp} {a : Act} {bA bB : Bool} {zA zB : Nat} {v : Value} (h1 : dA ≠ d) (h2 : dB ≠ d) : (bx2 dA dB a bA bB zA zB).put (some d) v = bx2 dA dB (a.put (some d) v) bA bB zA zB := by
 unfold bx2
 rw [pf_put h1, pf_put h2]
theorem bx2_eval {dA dB d : Tmp} {a : Act} {bA bB : Bool} {zA zB : Nat} (h1 : dA ≠ d) (h2 : dB ≠ d) : (bx2 dA dB a bA bB zA zB).eval (.tmp d) = a.eval (.tmp d) := by
 unfold bx2
 rw [pf_other h1, pf_other h2]
structure BxS (W u : World) (cA cB : Array Value) (tA tB : TypeId) (bA bB : Bool) (zA zB : Nat) : Prop where
 below : Below W.heap.size W u
 boxA : bA = true → u.heap[zA]? = some (.cells cA tA (0, 0)) ∧ W.heap.size ≤ zA
 boxB : bB = true → u.heap[zB]? = some (.cells cB tB (0, 0)) ∧ W.heap.size ≤ zB
theorem BxS.mono {W u u' : World} {cA cB : Array Value} {tA tB : TypeId} {bA bB : Bool} {zA zB : Nat} (s : BxS W u cA cB tA tB bA bB zA zB) (hb : Below u.heap.size u u') : BxS W u' cA cB tA tB bA bB zA zB :=
 ⟨s.below.trans (hb.mono s.below.size), fun h => ⟨(hb.block _ (lt_of_block (s.boxA h).1)).trans (s.boxA h).1, (s.boxA h).2⟩, fun h => ⟨(hb.block _ (lt_of_block (s.boxB h).1)).trans (s.boxB h).1, (s.boxB h).2⟩⟩
theorem BxS.addA {W u : World} {cA cB : Array Value} {tA tB : TypeId} {bB : Bool} {zA zB : Nat} (s : BxS W u cA cB tA tB false bB zA zB) : BxS W (u.alloc (.cells cA tA)) cA cB tA tB true bB u.heap.size zB :=
 have s' := s.mono (zBa u (.cells cA tA))
 ⟨s'.below, fun _ => ⟨heap_new _ _ _ rfl, s.below.size⟩, s'.boxB⟩
theorem BxS.addB {W u : World} {cA cB : Array Value} {tA tB : TypeId} {bA : Bool} {zA zB : Nat} (s : BxS W u cA cB tA tB bA false zA zB) : BxS W (u.alloc (.cells cB tB)) cA cB tA tB bA true zA u.heap.size :=
 have s' := s.mono (zBa u (.cells cB tB))
 ⟨s'.below, s'.boxA, fun _ => ⟨heap_new _ _ _ rfl, s.below.size⟩⟩
def ext (r : Value) (i : Nat) : Value := match r with
 | .tuple vs => vs.getD i undef
 | _ => undef
theorem run_move {P : Program} {w : World} {ev : Operand → Value} {o : Oper} {s : Operand} {v : Value} (ho : o.op = .move s) (h : ev s = v) : (execOp ev o).run P w = .ok (.value v) w := by
 unfold execOp
 simp [ho, h]
theorem run_extract {P : Program} {w : World} {ev : Operand → Value} {o : Oper} {s : Operand} {i : Nat} {vs : Array Value} {v : Value} (ho : o.op = .extract s i) (h : ev s = .tuple vs) (hv : vs[i]? = some v) : (execOp ev o).run P w = .ok (.value v) w := by
 unfold execOp
 simp [ho, h, hv, Instr.extract]
section call1
variable {P : Program} {ops : Array Oper} {Q : Exit → Act → World → Prop} {md : Region.Mode} {S : World → Prop} {W : World} {cA cB : Array Value} {tA tB : TypeId} {iA iB : Nat} {dA dB : Tmp}
theorem wpAnyH_step {f : Nat} {l : Array Bool} {a : Act} {w : World} (hr : Region.ready md ops l ≠ []) (h : ∀ i ∈ Region.ready md ops l, wpOp P ops Q i (fun a' w' => S w' ∧ wpAnyH P md ops Q S f (l.setIfInBounds i true) a' w') a w) : wpAnyH P md ops Q S (f + 1) l a w :=
 ⟨fun e => absurd e hr, h⟩
theorem boxes_left (hS : ∀ u, Below W.heap.size W u → S u) (LC : Bool → Bool → Array Bool)
  (hset : ∀ bA bB, (LC bA bB).setIfInBounds iA true = LC true bB ∧ (LC bA bB).setIfInBounds iB true = LC bA true)
  (hTF : Region.ready md ops (LC true false) = [iB]) (hFT : Region.ready md ops (LC false true) = [iA]) (hFF : Region.ready md ops (LC false false) = [iA, iB]) (hne : dA ≠ dB)
  (HA : ∀ a w K, K (a.put (some dA) (.pointer (some ⟨w.heap.size, 0, none⟩))) (w.alloc (.cells cA tA)) → wpOp P ops Q iA K a w)
  (HB : ∀ a w K, K (a.put (some dB) (.pointer (some ⟨w.heap.size, 0, none⟩))) (w.alloc (.cells cB tB)) → wpOp P ops Q iB K a w)
  (a : Act) (u' : World) (s0 fx : Nat)
  (X : ∀ zA zB u, BxS W u cA cB tA tB true true zA zB → Below u'.heap.size u' u → (zA < s0 ∨ u'.heap.size ≤ zA) → (zB < s0 ∨ u'.heap.size ≤ zB) → wpAnyH P md ops Q S fx (LC true true) (bx2 dA dB a true true zA zB) u) :
  ∀ bA bB zA zB u, BxS W u cA cB tA tB bA bB zA zB → Below u'.heap.size u' u → (bA = true → zA < s0 ∨ u'.heap.size ≤ zA) → (bB = true → zB < s0 ∨ u'.heap.size ≤ zB) → wpAnyH P md ops Q S (fx + 2 - bA.toNat - bB.toNat) (LC bA bB) (bx2 dA dB a bA bB zA zB) u := by
 have XA : ∀ zA zB u, BxS W u cA cB tA tB false true zA zB → Below u'.heap.size u' u → (zB < s0 ∨ u'.heap.size ≤ zB) → wpAnyH P md ops Q S (fx + 1) (LC false true) (bx2 dA dB a false true zA zB) u := fun zA zB u s hb pB => by
  refine wpAnyH_step (by rw [hFT]; simp) fun i hi => ?_
  rw [hFT] at hi
  obtain rfl := List.mem_singleton.1 hi
  refine HA _ _ _ ⟨hS _ s.addA.below, ?_⟩
  rw [(hset false true).1]
  exact X u.heap.size zB _ s.addA (hb.trans ((zBa _ _).mono hb.size)) (Or.inr hb.size) pB
 have XB : ∀ zA zB u, BxS W u cA cB tA tB true false zA zB → Below u'.heap.size u' u → (zA < s0 ∨ u'.heap.size ≤ zA) → wpAnyH P md ops Q S (fx + 1) (LC true false) (bx2 dA dB a true false zA zB) u := fun zA zB u s hb pA => by
  refine wpAnyH_step (by rw [hTF]; simp) fun i hi => ?_
  rw [hTF] at hi
  obtain rfl := List.mem_singleton.1 hi
  refine HB _ _ _ ⟨hS _ s.addB.below, ?_⟩
  rw [(hset true false).2]
  have e : (bx2 dA dB a true false zA zB).put (some dB) (.pointer (some ⟨u.heap.size, 0, none⟩)) = bx2 dA dB a true true zA u.heap.size := by
   unfold bx2
   rw [pf_put hne]
   rfl
  rw [e]
  exact X zA u.heap.size _ s.addB (hb.trans ((zBa _ _).mono hb.size)) pA (Or.inr hb.size)
 intro bA bB zA zB u s hb pA pB
 cases bA <;> cases bB
 ·refine wpAnyH_step (by rw [hFF]; simp) fun i hi => ?_
  rw [hFF] at hi
  rcases List.mem_cons.1 hi with rfl | hi
  ·refine HA _ _ _ ⟨hS _ s.addA.below, ?_⟩
   rw [(hset false false).1]
   exact XB u.heap.size zB _ s.addA (hb.trans ((zBa _ _).mono hb.size)) (Or.inr hb.size)
  ·obtain rfl := List.mem_singleton.1 hi
   refine HB _ _ _ ⟨hS _ s.addB.below, ?_⟩
   rw [(hset false false).2]
   exact XA zA u.heap.size _ s.addB (hb.trans ((zBa _ _).mono hb.size)) (Or.inr hb.size)
 ·exact XA zA zB u s hb (pB rfl)
 ·exact XB zA zB u s hb (pA rfl)
 ·exact X zA zB u s hb (pA rfl) (pB rfl)
theorem bx_take {f : Nat} {l : Array Bool} {a : Act} {w : World} {oi : Oper} {bA bB : Bool} {zA zB : Nat} (i d : Nat) (v : Value) (hi : ops[i]? = some oi) (hd : oi.dst = some d) (hg : oi.guard = none) (hs : Region.noSelect ops = true) (hf : (Region.free md ops l i && (Region.ready md ops l).contains i) = true)
  (hQ : ∀ c a w, Q (.panic c) (a.put (some d) v) w → Q (.panic c) a w) (n1 : dA ≠ d) (n2 : dB ≠ d) (hy : ∀ w, (execOp (bx2 dA dB a bA bB zA zB).eval oi).run P w = .ok (.value v) w) (hS : S w) (h : wpAnyH P md ops Q S f (l.setIfInBounds i true) (bx2 dA dB (a.put (some d) v) bA bB zA zB) w) : wpAnyH P md ops Q S (f + 1) l (bx2 dA dB a bA bB zA zB) w := by
 rw [Bool.and_eq_true] at hf
 refine take_held i (some d) v hi hd hs hf.1 hf.2 hQ (by simp [Region.wanted, hg]) (fun w _ => hy w) hS ?_
 rw [bx2_put n1 n2]
 exact h
theorem call1_region {i1 : Nat} {d1 sx sy : Tmp} {f1 : FuncId} {vx vy : Value} {GOOD : World → Value → World → Prop} (hS : ∀ u, Below W.heap.size W u → S u) (a0 : Act) (upd : Act → Value → Act) (LA L1 LC : Bool → Bool → Array Bool)
  (hset : ∀ bA bB, (LC bA bB).setIfInBounds iA true = LC true bB ∧ (LC bA bB).setIfInBounds iB true = LC bA true)
  (hsetA : ∀ bA bB, (LA bA bB).setIfInBounds iA true = LA true bB ∧ (LA bA bB).setIfInBounds iB true = LA bA true ∧ (LA bA bB).setIfInBounds i1 true = L1 bA bB)
  (hTF : Region.ready md ops (LC true false) = [iB]) (hFT : Region.ready md ops (LC false true) = [iA]) (hFF : Region.ready md ops (LC false false) = [iA, iB])
  (rTT : Region.ready md ops (LA true true) = [i1]) (rTF : Region.ready md ops (LA true false) = [i1, iB]) (rFT : Region.ready md ops (LA false true) = [i1, iA]) (rFF : Region.ready md ops (LA false false) = [i1, iA, iB])
  (hne : dA ≠ dB) (nA1 : dA ≠ d1) (nB1 : dB ≠ d1) (nAx : dA ≠ sx) (nBx : dB ≠ sx) (nAy : dA ≠ sy) (nBy : dB ≠ sy) (hx : a0.eval (.tmp sx) = vx) (hy : a0.eval (.tmp sy) = vy)
  (H1 : ∀ a w K, a.eval (.tmp sx) = vx → a.eval (.tmp sy) = vy → Calls P f1 #[vx, vy] w (fun e w' => ∃ r, e = .returned r ∧ K (a.put (some d1) r) w') → wpOp P ops Q i1 K a w)
  (HA : ∀ a w K, K (a.put (some dA) (.pointer (some ⟨w.heap.size, 0, none⟩))) (w.alloc (.cells cA tA)) → wpOp P ops Q iA K a w)
  (HB : ∀ a w K, K (a.put (some dB) (.pointer (some ⟨w.heap.size, 0, none⟩))) (w.alloc (.cells cB tB)) → wpOp P ops Q iB K a w)
  (c1 : ∀ u, Below W.heap.size W u → Calls P f1 #[vx, vy] u (fun e w' => ∃ r, e = .returned r ∧ GOOD u r w' ∧ Below u.heap.size u w'))
  (fx : Nat)
  (HP : ∀ u0 r u' bA bB zA zB u f, GOOD u0 r u' → Below W.heap.size W u → wpAnyH P md ops Q S f (LC bA bB) (bx2 dA dB (upd a0 r) bA bB zA zB) u → wpAnyH P md ops Q S (f + 4) (L1 bA bB) (bx2 dA dB (a0.put (some d1) r) bA bB zA zB) u)
  (X : ∀ u0 r u' zA zB u, Below W.heap.size W u0 → Below u0.heap.size u0 u' → GOOD u0 r u' → BxS W u cA cB tA tB true true zA zB → Below u'.heap.size u' u → (zA < u0.heap.size ∨ u'.heap.size ≤ zA) → (zB < u0.heap.size ∨ u'.heap.size ≤ zB) → wpAnyH P md ops Q S fx (LC true true) (bx2 dA dB (upd a0 r) true true zA zB) u)
  (u : World) (hu : Below W.heap.size W u) (l : Array Bool) (hl : l = LA false false) (f : Nat) (hf : f = fx + 7) : wpAnyH P md ops Q S f l a0 u := by
 subst hl hf
 have C : ∀ bA bB zA zB u K, BxS W u cA cB tA tB bA bB zA zB → (∀ a w, S w ∧ wpAnyH P md ops Q S (fx + 2 - bA.toNat - bB.toNat + 4) (L1 bA bB) a w → K a w) → wpOp P ops Q i1 K (bx2 dA dB a0 bA bB zA zB) u := fun bA bB zA zB u K s hK => by
  refine H1 _ _ _ ((bx2_eval nAx nBx).trans hx) ((bx2_eval nAy nBy).trans hy) ((c1 u s.below).mono ?_)
  rintro e u' ⟨r, rfl, hg, hb⟩
  have s' := s.mono hb
  refine ⟨r, rfl, hK _ _ ⟨hS _ s'.below, ?_⟩⟩
  rw [bx2_put nA1 nB1]
  refine HP u r u' bA bB zA zB u' _ hg s'.below ?_
  exact boxes_left hS LC hset hTF hFT hFF hne HA HB (upd a0 r) u' u.heap.size fx (fun zA zB v sv hbv pA pB => X u r u' zA zB v s.below hb hg sv hbv pA pB) bA bB zA zB u' s' (Below.refl _ _) (fun h => Or.inl (lt_of_block (s.boxA h).1)) (fun h => Or.inl (lt_of_block (s.boxB h).1))
 have TT : ∀ zA zB u, BxS W u cA cB tA tB true true zA zB → wpAnyH P md ops Q S (fx + 5) (LA true true) (bx2 dA dB a0 true true zA zB) u := fun zA zB u s => by
  refine wpAnyH_step (by rw [rTT]; simp) fun i hi => ?_
  rw [rTT] at hi
  obtain rfl := List.mem_singleton.1 hi
  refine C true true zA zB u _ s fun a w h => ?_
  rw [(hsetA true true).2.2]
  exact h
 have TF : ∀ zA zB u, BxS W u cA cB tA tB true false zA zB → wpAnyH P md ops Q S (fx + 6) (LA true false) (bx2 dA dB a0 true false zA zB) u := fun zA zB u s => by
  refine wpAnyH_step (by rw [rTF]; simp) fun i hi => ?_
  rw [rTF] at hi
  rcases List.mem_cons.1 hi with rfl | hi
  ·refine C true false zA zB u _ s fun a w h => ?_
   rw [(hsetA true false).2.2]
   exact h
  ·obtain rfl := List.mem_singleton.1 hi
   refine HB _ _ _ ⟨hS _ s.addB.below, ?_⟩
   rw [(hsetA true false).2.1]
   have e : (bx2 dA dB a0 true false zA zB).put (some dB) (.pointer (some ⟨u.heap.size, 0, none⟩)) = bx2 dA dB a0 true true zA u.heap.size := by
    unfold bx2
    rw [pf_put hne]
    rfl
   rw [e]
   exact TT _ _ _ s.addB
 have FT : ∀ zA zB u, BxS W u cA cB tA tB false true zA zB → wpAnyH P md ops Q S (fx + 6) (LA false true) (bx2 dA dB a0 false true zA zB) u := fun zA zB u s => by
  refine wpAnyH_step (by rw [rFT]; simp) fun i hi => ?_
  rw [rFT] at hi
  rcases List.mem_cons.1 hi with rfl | hi
  ·refine C false true zA zB u _ s fun a w h => ?_
   rw [(hsetA false true).2.2]
   exact h
  ·obtain rfl := List.mem_singleton.1 hi
   refine HA _ _ _ ⟨hS _ s.addA.below, ?_⟩
   rw [(hsetA false true).1]
   exact TT _ _ _ s.addA
 have s0 : BxS W u cA cB tA tB false false 0 0 := ⟨hu, (fun h => by cases h), (fun h => by cases h)⟩
 refine wpAnyH_step (by rw [rFF]; simp) fun i hi => ?_
 rw [rFF] at hi
 rcases List.mem_cons.1 hi with rfl | hi
 ·refine C false false 0 0 u _ s0 fun a w h => ?_
  rw [(hsetA false false).2.2]
  exact h
 ·rcases List.mem_cons.1 hi with rfl | hi
  ·refine HA _ _ _ ⟨hS _ s0.addA.below, ?_⟩
   rw [(hsetA false false).1]
   exact TF _ _ _ s0.addA
  ·obtain rfl := List.mem_singleton.1 hi
   refine HB _ _ _ ⟨hS _ s0.addB.below, ?_⟩
   rw [(hsetA false false).2.1]
   exact FT _ _ _ s0.addB
end call1
set_option maxHeartbeats 25600000 in
theorem bn14 {Q : Exit → Act → World → Prop} (hP : PanicOk Q) {w1 : World} {gl n cl : Nat} {wr : World} {k l : Nat} {nw : Int} {ob : Option Addr} {cb : Nat} {ts : List SV} {x : RV} {v0 v1 v2 v6 v7 v8 v9 v10 v11 v12 v13 v14 v15 v16 v17 v18 v19 v20  : Value} {f : Nat → Value} (hki : (k : Int) < (n : Int)) (HBC : Hid (∀ u, Below wr.heap.size wr u → u.cell? ⟨w1.heap.size, 0, none⟩ = some (.int .i64 nw) ∧ u.cell? ⟨w1.heap.size, 1, none⟩ = some (.slice ob l cb))) (HXC : Hid (∀ u, Below wr.heap.size wr u → X9 u gl (k * 9) x)) (KC : Hid (∀ u, Below wr.heap.size wr u → Calls Tryz.prog 10 #[.agg #[.int .i64 nw, .slice ob l cb], .agg #[.int .i64 x.p.src, .int .i64 x.p.dst, .int .i64 x.p.kind, .int .i64 x.p.id, .int .i64 x.p.hops, .bool x.p.whole, .int .i64 x.p.off, .bool x.p.more, .slice x.a x.zs.length x.c]] u (fun e u' => ∃ (now' : Int) (oa' : Option Addr) (cl' : Nat) (us : List SV) (y : RV) (c : Int), e = .returned (.tuple #[.agg #[.int .i64 now', .slice oa' us.length cl'], .agg #[.int .i64 y.p.src, .int .i64 y.p.dst, .int .i64 y.p.kind, .int .i64 y.p.id, .int .i64 y.p.hops, .bool y.p.whole, .int .i64 y.p.off, .bool y.p.more, .slice y.a y.zs.length y.c], .int .i64 c]) ∧ TakeP nw ts x.key now' (us.map SV.key) y.key c ∧ us.length ≤ 4 ∧ us.length ≤ cl' ∧ cl' ≤ 9223372036854775807 ∧ BT u' u.heap.size oa' us ∧ DataB u' u.heap.size y ∧ Below u.heap.size u u'))) (hQ : Hid (∀ f wx zA zB now1 oa1 cl1 m us y c1', m ≤ 4 → m ≤ cl1 → cl1 ≤ 9223372036854775807 → us.length = m → TakeP nw ts x.key now1 (us.map SV.key) y.key c1' → TkD wr wx zA zB now1 oa1 m cl1 us y → Q .normal (fr v0 v1 v2 (.slice (some ⟨gl, 0, none⟩) n cl) (.pointer (some ⟨w1.heap.size, 0, none⟩)) (.int .i64 k) v6 v7 v8 v9 (.pointer (some ⟨zA, 0, none⟩)) (.pointer (some ⟨zB, 0, none⟩)) (.int .i64 c1') v13 v14 v15 v16 v17 v18 v19 v20 f) wx)) : (Cd.fst (Cd.snd (Cd.inn (Cd.fst (Cd.snd (Cd.inn (Cd.inn (Cd.snd (Cd.fst (Cd.snd (Cd.snd (Cd.snd (Cd.snd (Option.getD Tryz.f3.body .skip)))))))))))))).wp Tryz.prog Q (fr v0 v1 v2 (.slice (some ⟨gl, 0, none⟩) n cl) (.pointer (some ⟨w1.heap.size, 0, none⟩)) (.int .i64 k) v6 v7 v8 v9 v10 v11 v12 v13 v14 v15 v16 v17 v18 v19 v20 f) wr := by
 refine wp_is (c' := .region _ _ _) rfl ?_
 unfold fr
 refine wp_region_held_drew (S := fun u => Below wr.heap.size wr u) (by kernel_rfl) (draw1 _) (fun hH => ?_)
 refine zTq hP 0 80 (.agg #[.int .i64 nw, .slice ob l cb]) rfl (fun w hS => by obtain ⟨s0, s1⟩ := HBC.out _ hS; go_simp) hH ?_; simp only [Act.put, zX, zY, zZ]
 refine zTq hP 1 81 (.slice (some ⟨gl, 0, none⟩) n cl) rfl (fun w hS => by go_simp) hH ?_; simp only [Act.put, zX, zY, zZ]
 refine zTq hP 2 82 (.int .i64 k) rfl (fun w hS => by go_simp) hH ?_; simp only [Act.put, zX, zY, zZ]
 refine zTq hP 3 83 (.pointer (some ⟨gl, k * 9, none⟩)) rfl (fun w hS => by go_simp) hH ?_; simp only [Act.put, zX, zY, zZ]
 refine zTq hP 4 84 (.agg #[.int .i64 x.p.src, .int .i64 x.p.dst, .int .i64 x.p.kind, .int .i64 x.p.id, .int .i64 x.p.hops, .bool x.p.whole, .int .i64 x.p.off, .bool x.p.more, .slice x.a x.zs.length x.c]) rfl (fun w hS => by obtain ⟨y0, y1, y2, y3, y4, y5, y6, y7, y8⟩ := HXC.out _ hS; go_simp) hH ?_; simp only [Act.put, zX, zY, zZ]
 refine call1_region (W := wr) (cA := #[.int .i64 0, .slice none 0 0]) (cB := #[.int .i64 0, .int .i64 0, .int .i64 0, .int .i64 0, .int .i64 0, .bool false, .int .i64 0, .bool false, .slice none 0 0]) (tA := 27) (tB := 29) (iA := 10) (iB := 11) (dA := 10) (dB := 11) (i1 := 5) (d1 := 85) (sx := 80) (sy := 84) (f1 := 10) (vx := .agg #[.int .i64 nw, .slice ob l cb]) (vy := .agg #[.int .i64 x.p.src, .int .i64 x.p.dst, .int .i64 x.p.kind, .int .i64 x.p.id, .int .i64 x.p.hops, .bool x.p.whole, .int .i64 x.p.off, .bool x.p.more, .slice x.a x.zs.length x.c]) (GOOD := fun u r u' => ∃ (now1 : Int) (oa1 : Option Addr) (cl1 : Nat) (us : List SV) (y : RV) (c1' : Int), r = .tuple #[.agg #[.int .i64 now1, .slice oa1 us.length cl1], .agg #[.int .i64 y.p.src, .int .i64 y.p.dst, .int .i64 y.p.kind, .int .i64 y.p.id, .int .i64 y.p.hops, .bool y.p.whole, .int .i64 y.p.off, .bool y.p.more, .slice y.a y.zs.length y.c], .int .i64 c1'] ∧ TakeP nw ts x.key now1 (us.map SV.key) y.key c1' ∧ us.length ≤ 4 ∧ us.length ≤ cl1 ∧ cl1 ≤ 9223372036854775807 ∧ BT u' u.heap.size oa1 us ∧ DataB u' u.heap.size y) (fun _ h => h) _ (fun a r => ((((a.put (some 85) r).put (some 79) r).put (some 86) (ext r 0)).put (some 87) (ext r 1)).put (some 88) (ext r 2)) (fun bA bB => #[true, true, true, true, true, false, false, false, false, false, bA, bB, false, false, false]) (fun bA bB => #[true, true, true, true, true, true, false, false, false, false, bA, bB, false, false, false]) (fun bA bB => #[true, true, true, true, true, true, true, true, true, true, bA, bB, false, false, false]) ?g1 ?g2 (by kernel_rfl) (by kernel_rfl) (by kernel_rfl) (by kernel_rfl) (by kernel_rfl) (by kernel_rfl) (by kernel_rfl) (by decide) (by decide) (by decide) (by decide) (by decide) (by decide) (by decide) rfl rfl ?g3 ?g4 ?g5 ?g6 3 ?g7 ?g8 _ (draw1 _) _ rfl _ rfl
 case g1 => intro bA bB; exact ⟨by kernel_rfl, by kernel_rfl⟩
 case g2 => intro bA bB; exact ⟨by kernel_rfl, by kernel_rfl, by kernel_rfl⟩
 case g3 =>
  intro a w K h1 h2 h
  simp only [Act.eval, Array.getD_eq_getD_getElem?] at h1 h2
  exact wpOp_call rfl rfl 85 rfl 10 #[.agg #[.int .i64 nw, .slice ob l cb], .agg #[.int .i64 x.p.src, .int .i64 x.p.dst, .int .i64 x.p.kind, .int .i64 x.p.id, .int .i64 x.p.hops, .bool x.p.whole, .int .i64 x.p.off, .bool x.p.more, .slice x.a x.zs.length x.c]] (by go_simp) h
 case g4 => intro a w K h; exact wpOp_made rfl rfl 10 rfl (by go_simp) h
 case g5 => intro a w K h; exact wpOp_made rfl rfl 11 rfl (by go_simp) h
 case g6 =>
  intro u hu
  refine (KC.out u hu).mono ?_
  rintro e w' ⟨now1, oa1, cl1, us, y, c1', rfl, h1, h2, h3, h4, h5, h6, h7⟩
  exact ⟨_, rfl, ⟨now1, oa1, cl1, us, y, c1', rfl, h1, h2, h3, h4, h5, h6⟩, h7⟩
 case g7 =>
  intro u0 r u' bA bB zA zB u f hg hb h
  obtain ⟨now1, oa1, cl1, us, y, c1', rfl, -⟩ := hg
  refine bx_take 6 79 (.tuple #[.agg #[.int .i64 now1, .slice oa1 us.length cl1], .agg #[.int .i64 y.p.src, .int .i64 y.p.dst, .int .i64 y.p.kind, .int .i64 y.p.id, .int .i64 y.p.hops, .bool y.p.whole, .int .i64 y.p.off, .bool y.p.more, .slice y.a y.zs.length y.c], .int .i64 c1']) rfl rfl rfl (by kernel_rfl) (by cases bA <;> cases bB <;> kernel_rfl) (fun _ _ _ h => hP _ _ _ _ _ h) (by decide) (by decide) (fun w => run_move rfl ((bx2_eval (by decide) (by decide)).trans (by rfl))) hb ?_
  refine bx_take 7 86 (.agg #[.int .i64 now1, .slice oa1 us.length cl1]) rfl rfl rfl (by kernel_rfl) (by cases bA <;> cases bB <;> kernel_rfl) (fun _ _ _ h => hP _ _ _ _ _ h) (by decide) (by decide) (fun w => run_extract (i := 0) rfl ((bx2_eval (by decide) (by decide)).trans (by rfl)) (by rfl)) hb ?_
  refine bx_take 8 87 (.agg #[.int .i64 y.p.src, .int .i64 y.p.dst, .int .i64 y.p.kind, .int .i64 y.p.id, .int .i64 y.p.hops, .bool y.p.whole, .int .i64 y.p.off, .bool y.p.more, .slice y.a y.zs.length y.c]) rfl rfl rfl (by kernel_rfl) (by cases bA <;> cases bB <;> kernel_rfl) (fun _ _ _ h => hP _ _ _ _ _ h) (by decide) (by decide) (fun w => run_extract (i := 1) rfl ((bx2_eval (by decide) (by decide)).trans (by rfl)) (by rfl)) hb ?_
  refine bx_take 9 88 (.int .i64 c1') rfl rfl rfl (by kernel_rfl) (by cases bA <;> cases bB <;> kernel_rfl) (fun _ _ _ h => hP _ _ _ _ _ h) (by decide) (by decide) (fun w => run_extract (i := 2) rfl ((bx2_eval (by decide) (by decide)).trans (by rfl)) (by rfl)) hb ?_
  exact h
 case g8 =>
  intro u0 r u' zA zB u h0 h1 hg sB h2 pA pB
  obtain ⟨now1, oa1, cl1, us, y, c1', rfl, hTP, hu, hv', hx', T, D⟩ := hg
  obtain ⟨gA, lA⟩ := sB.boxA rfl
  obtain ⟨gB, lB⟩ := sB.boxB rfl
  have TD := TkD.of (now1 := now1) (oa1 := oa1) (l1 := us.length) (cl1 := cl1) (us := us) (y := y) h0 T D h1 h2 gA gB lA lB pA pB
  have gB' : (u.setRow zA #[.int .i64 now1, .slice oa1 us.length cl1]).heap[zB]? = some (.cells #[.int .i64 0, .int .i64 0, .int .i64 0, .int .i64 0, .int .i64 0, .bool false, .int .i64 0, .bool false, .slice none 0 0] 29 (0, 0)) := (setRow_other _ _ _ _ (fun e => by rw [e, gA] at gB; cases gB)).trans gB
  have S12 := below_setRow sB.below lA #[.int .i64 now1, .slice oa1 us.length cl1]
  have S13 := TD.be
  have hH := sB.below
  clear T D h0 h1 h2 pA pB sB
  simp only [bx2, pf, cond_true, Act.put, ext, Array.getD_eq_getD_getElem?, List.getElem?_toArray, List.getElem?_cons_zero, List.getElem?_cons_succ, Option.getD_some, zX, zY, zZ]
  refine zRd 12 (by kernel_rfl) rfl (fun K hK => ?_)
  rw [if_pos (by rfl)]
  refine wp_store_row 27 (.tmp 10) (.tmp 86) rfl zA #[.int .i64 now1, .slice oa1 us.length cl1] (by rfl) (by rfl) 27 _ gA info2' rfl (bcells_all _ _ _ _) ?_
  refine hK.out _ _ S12 (fun hH => ?_)
  clear hK K
  simp only [Act.put, zX, zY, zZ]
  refine zRd 13 (by kernel_rfl) rfl (fun K hK => ?_)
  rw [if_pos (by rfl)]
  refine wp_store_row 29 (.tmp 11) (.tmp 87) rfl zB (pcells y.p (.slice y.a y.zs.length y.c)) (by rfl) (by rfl) 29 _ gB' info9' rfl (pcells_all1 _ _ _ _) ?_
  refine hK.out _ _ S13 (fun hH => ?_)
  clear hK K
  simp only [Act.put, zX, zY, zZ]
  refine zTq hP 14 12 (.int .i64 c1') rfl (fun w hS => by go_simp) hH ?_; simp only [Act.put, zX, zY, zZ]
  refine wpAnyH_done (by kernel_rfl) ?_ _
  refine fr_end (C := fun a => Q .normal a _) rfl rfl rfl (fun f => ?_)
  exact hQ.out f _ zA zB now1 oa1 cl1 us.length us y c1' hu hv' hx' rfl hTP TD
set_option maxHeartbeats 25600000 in
theorem bn15 {Q : Exit → Act → World → Prop} (hP : PanicOk Q) {w1 : World} {gl n cl : Nat} {w5 : World} {k l : Nat} {nw : Int} {ob : Option Addr} {cb : Nat} {ts : List SV} {x : RV} {v0 v1 v2 v6 v7 v8 v9 v13 v14 v15 v16 v17 v18 v19 v20 b10 b11 b12 : Value} {f : Nat → Value} (hki : (k : Int) < (n : Int)) (HBC : Hid (∀ u, Below w5.heap.size w5 u → u.cell? ⟨w1.heap.size, 0, none⟩ = some (.int .i64 nw) ∧ u.cell? ⟨w1.heap.size, 1, none⟩ = some (.slice ob l cb))) (HXC : Hid (∀ u, Below w5.heap.size w5 u → X9 u gl (k * 9) x)) (KC : Hid (∀ u, Below w5.heap.size w5 u → Calls Tryz.prog 11 #[.agg #[.int .i64 nw, .slice ob l cb], .agg #[.int .i64 x.p.src, .int .i64 x.p.dst, .int .i64 x.p.kind, .int .i64 x.p.id, .int .i64 x.p.hops, .bool x.p.whole, .int .i64 x.p.off, .bool x.p.more, .slice x.a x.zs.length x.c]] u (fun e u' => ∃ (now' : Int) (oa' : Option Addr) (cl' : Nat) (us : List SV) (y : RV) (c : Int), e = .returned (.tuple #[.agg #[.int .i64 now', .slice oa' us.length cl'], .agg #[.int .i64 y.p.src, .int .i64 y.p.dst, .int .i64 y.p.kind, .int .i64 y.p.id, .int .i64 y.p.hops, .bool y.p.whole, .int .i64 y.p.off, .bool y.p.more, .slice y.a y.zs.length y.c], .int .i64 c]) ∧ TakeP nw ts x.key now' (us.map SV.key) y.key c ∧ us.length ≤ 4 ∧ us.length ≤ cl' ∧ cl' ≤ 9223372036854775807 ∧ BT u' u.heap.size oa' us ∧ DataB u' u.heap.size y ∧ Below u.heap.size u u'))) (hQ : Hid (∀ f wx zA zB now1 oa1 cl1 m us y c1', m ≤ 4 → m ≤ cl1 → cl1 ≤ 9223372036854775807 → us.length = m → TakeP nw ts x.key now1 (us.map SV.key) y.key c1' → TkD w5 wx zA zB now1 oa1 m cl1 us y → Q .normal (fr v0 v1 v2 (.slice (some ⟨gl, 0, none⟩) n cl) (.pointer (some ⟨w1.heap.size, 0, none⟩)) (.int .i64 k) v6 v7 v8 v9 (b10) (b11) (b12) (.pointer (some ⟨zA, 0, none⟩)) (.pointer (some ⟨zB, 0, none⟩)) (.int .i64 c1') v16 v17 v18 v19 v20 f) wx)) : (Cd.fst (Cd.snd (Cd.snd (Cd.inn (Cd.fst (Cd.snd (Cd.inn (Cd.inn (Cd.snd (Cd.fst (Cd.snd (Cd.snd (Cd.snd (Cd.snd (Option.getD Tryz.f3.body .skip))))))))))))))).wp Tryz.prog Q (fr v0 v1 v2 (.slice (some ⟨gl, 0, none⟩) n cl) (.pointer (some ⟨w1.heap.size, 0, none⟩)) (.int .i64 k) v6 v7 v8 v9 (b10) (b11) (b12) v13 v14 v15 v16 v17 v18 v19 v20 f) w5 := by
 refine wp_is (c' := .region _ _ _) rfl ?_
 unfold fr
 refine wp_region_held_drew (S := fun u => Below w5.heap.size w5 u) (by kernel_rfl) (draw1 _) (fun hH => ?_)
 refine zTq hP 0 90 (.agg #[.int .i64 nw, .slice ob l cb]) rfl (fun w hS => by obtain ⟨s0, s1⟩ := HBC.out _ hS; go_simp) hH ?_; simp only [Act.put, zX, zY, zZ]
 refine zTq hP 1 91 (.slice (some ⟨gl, 0, none⟩) n cl) rfl (fun w hS => by go_simp) hH ?_; simp only [Act.put, zX, zY, zZ]
 refine zTq hP 2 92 (.int .i64 k) rfl (fun w hS => by go_simp) hH ?_; simp only [Act.put, zX, zY, zZ]
 refine zTq hP 3 93 (.pointer (some ⟨gl, k * 9, none⟩)) rfl (fun w hS => by go_simp) hH ?_; simp only [Act.put, zX, zY, zZ]
 refine zTq hP 4 94 (.agg #[.int .i64 x.p.src, .int .i64 x.p.dst, .int .i64 x.p.kind, .int .i64 x.p.id, .int .i64 x.p.hops, .bool x.p.whole, .int .i64 x.p.off, .bool x.p.more, .slice x.a x.zs.length x.c]) rfl (fun w hS => by obtain ⟨y0, y1, y2, y3, y4, y5, y6, y7, y8⟩ := HXC.out _ hS; go_simp) hH ?_; simp only [Act.put, zX, zY, zZ]
 refine call1_region (W := w5) (cA := #[.int .i64 0, .slice none 0 0]) (cB := #[.int .i64 0, .int .i64 0, .int .i64 0, .int .i64 0, .int .i64 0, .bool false, .int .i64 0, .bool false, .slice none 0 0]) (tA := 27) (tB := 29) (iA := 10) (iB := 11) (dA := 13) (dB := 14) (i1 := 5) (d1 := 95) (sx := 90) (sy := 94) (f1 := 11) (vx := .agg #[.int .i64 nw, .slice ob l cb]) (vy := .agg #[.int .i64 x.p.src, .int .i64 x.p.dst, .int .i64 x.p.kind, .int .i64 x.p.id, .int .i64 x.p.hops, .bool x.p.whole, .int .i64 x.p.off, .bool x.p.more, .slice x.a x.zs.length x.c]) (GOOD := fun u r u' => ∃ (now1 : Int) (oa1 : Option Addr) (cl1 : Nat) (us : List SV) (y : RV) (c1' : Int), r = .tuple #[.agg #[.int .i64 now1, .slice oa1 us.length cl1], .agg #[.int .i64 y.p.src, .int .i64 y.p.dst, .int .i64 y.p.kind, .int .i64 y.p.id, .int .i64 y.p.hops, .bool y.p.whole, .int .i64 y.p.off, .bool y.p.more, .slice y.a y.zs.length y.c], .int .i64 c1'] ∧ TakeP nw ts x.key now1 (us.map SV.key) y.key c1' ∧ us.length ≤ 4 ∧ us.length ≤ cl1 ∧ cl1 ≤ 9223372036854775807 ∧ BT u' u.heap.size oa1 us ∧ DataB u' u.heap.size y) (fun _ h => h) _ (fun a r => ((((a.put (some 95) r).put (some 89) r).put (some 96) (ext r 0)).put (some 97) (ext r 1)).put (some 98) (ext r 2)) (fun bA bB => #[true, true, true, true, true, false, false, false, false, false, bA, bB, false, false, false]) (fun bA bB => #[true, true, true, true, true, true, false, false, false, false, bA, bB, false, false, false]) (fun bA bB => #[true, true, true, true, true, true, true, true, true, true, bA, bB, false, false, false]) ?g1 ?g2 (by kernel_rfl) (by kernel_rfl) (by kernel_rfl) (by kernel_rfl) (by kernel_rfl) (by kernel_rfl) (by kernel_rfl) (by decide) (by decide) (by decide) (by decide) (by decide) (by decide) (by decide) rfl rfl ?g3 ?g4 ?g5 ?g6 3 ?g7 ?g8 _ (draw1 _) _ rfl _ rfl
 case g1 => intro bA bB; exact ⟨by kernel_rfl, by kernel_rfl⟩
 case g2 => intro bA bB; exact ⟨by kernel_rfl, by kernel_rfl, by kernel_rfl⟩
 case g3 =>
  intro a w K h1 h2 h
  simp only [Act.eval, Array.getD_eq_getD_getElem?] at h1 h2
  exact wpOp_call rfl rfl 95 rfl 11 #[.agg #[.int .i64 nw, .slice ob l cb], .agg #[.int .i64 x.p.src, .int .i64 x.p.dst, .int .i64 x.p.kind, .int .i64 x.p.id, .int .i64 x.p.hops, .bool x.p.whole, .int .i64 x.p.off, .bool x.p.more, .slice x.a x.zs.length x.c]] (by go_simp) h
 case g4 => intro a w K h; exact wpOp_made rfl rfl 13 rfl (by go_simp) h
 case g5 => intro a w K h; exact wpOp_made rfl rfl 14 rfl (by go_simp) h
 case g6 =>
  intro u hu
  refine (KC.out u hu).mono ?_
  rintro e w' ⟨now1, oa1, cl1, us, y, c1', rfl, h1, h2, h3, h4, h5, h6, h7⟩
  exact ⟨_, rfl, ⟨now1, oa1, cl1, us, y, c1', rfl, h1, h2, h3, h4, h5, h6⟩, h7⟩
 case g7 =>
  intro u0 r u' bA bB zA zB u f hg hb h
  obtain ⟨now1, oa1, cl1, us, y, c1', rfl, -⟩ := hg
  refine bx_take 6 89 (.tuple #[.agg #[.int .i64 now1, .slice oa1 us.length cl1], .agg #[.int .i64 y.p.src, .int .i64 y.p.dst, .int .i64 y.p.kind, .int .i64 y.p.id, .int .i64 y.p.hops, .bool y.p.whole, .int .i64 y.p.off, .bool y.p.more, .slice y.a y.zs.length y.c], .int .i64 c1']) rfl rfl rfl (by kernel_rfl) (by cases bA <;> cases bB <;> kernel_rfl) (fun _ _ _ h => hP _ _ _ _ _ h) (by decide) (by decide) (fun w => run_move rfl ((bx2_eval (by decide) (by decide)).trans (by rfl))) hb ?_
  refine bx_take 7 96 (.agg #[.int .i64 now1, .slice oa1 us.length cl1]) rfl rfl rfl (by kernel_rfl) (by cases bA <;> cases bB <;> kernel_rfl) (fun _ _ _ h => hP _ _ _ _ _ h) (by decide) (by decide) (fun w => run_extract (i := 0) rfl ((bx2_eval (by decide) (by decide)).trans (by rfl)) (by rfl)) hb ?_
  refine bx_take 8 97 (.agg #[.int .i64 y.p.src, .int .i64 y.p.dst, .int .i64 y.p.kind, .int .i64 y.p.id, .int .i64 y.p.hops, .bool y.p.whole, .int .i64 y.p.off, .bool y.p.more, .slice y.a y.zs.length y.c]) rfl rfl rfl (by kernel_rfl) (by cases bA <;> cases bB <;> kernel_rfl) (fun _ _ _ h => hP _ _ _ _ _ h) (by decide) (by decide) (fun w => run_extract (i := 1) rfl ((bx2_eval (by decide) (by decide)).trans (by rfl)) (by rfl)) hb ?_
  refine bx_take 9 98 (.int .i64 c1') rfl rfl rfl (by kernel_rfl) (by cases bA <;> cases bB <;> kernel_rfl) (fun _ _ _ h => hP _ _ _ _ _ h) (by decide) (by decide) (fun w => run_extract (i := 2) rfl ((bx2_eval (by decide) (by decide)).trans (by rfl)) (by rfl)) hb ?_
  exact h
 case g8 =>
  intro u0 r u' zA zB u h0 h1 hg sB h2 pA pB
  obtain ⟨now1, oa1, cl1, us, y, c1', rfl, hTP, hu, hv', hx', T, D⟩ := hg
  obtain ⟨gA, lA⟩ := sB.boxA rfl
  obtain ⟨gB, lB⟩ := sB.boxB rfl
  have TD := TkD.of (now1 := now1) (oa1 := oa1) (l1 := us.length) (cl1 := cl1) (us := us) (y := y) h0 T D h1 h2 gA gB lA lB pA pB
  have gB' : (u.setRow zA #[.int .i64 now1, .slice oa1 us.length cl1]).heap[zB]? = some (.cells #[.int .i64 0, .int .i64 0, .int .i64 0, .int .i64 0, .int .i64 0, .bool false, .int .i64 0, .bool false, .slice none 0 0] 29 (0, 0)) := (setRow_other _ _ _ _ (fun e => by rw [e, gA] at gB; cases gB)).trans gB
  have S12 := below_setRow sB.below lA #[.int .i64 now1, .slice oa1 us.length cl1]
  have S13 := TD.be
  have hH := sB.below
  clear T D h0 h1 h2 pA pB sB
  simp only [bx2, pf, cond_true, Act.put, ext, Array.getD_eq_getD_getElem?, List.getElem?_toArray, List.getElem?_cons_zero, List.getElem?_cons_succ, Option.getD_some, zX, zY, zZ]
  refine zRd 12 (by kernel_rfl) rfl (fun K hK => ?_)
  rw [if_pos (by rfl)]
  refine wp_store_row 27 (.tmp 13) (.tmp 96) rfl zA #[.int .i64 now1, .slice oa1 us.length cl1] (by rfl) (by rfl) 27 _ gA info2' rfl (bcells_all _ _ _ _) ?_
  refine hK.out _ _ S12 (fun hH => ?_)
  clear hK K
  simp only [Act.put, zX, zY, zZ]
  refine zRd 13 (by kernel_rfl) rfl (fun K hK => ?_)
  rw [if_pos (by rfl)]
  refine wp_store_row 29 (.tmp 14) (.tmp 97) rfl zB (pcells y.p (.slice y.a y.zs.length y.c)) (by rfl) (by rfl) 29 _ gB' info9' rfl (pcells_all1 _ _ _ _) ?_
  refine hK.out _ _ S13 (fun hH => ?_)
  clear hK K
  simp only [Act.put, zX, zY, zZ]
  refine zTq hP 14 15 (.int .i64 c1') rfl (fun w hS => by go_simp) hH ?_; simp only [Act.put, zX, zY, zZ]
  refine wpAnyH_done (by kernel_rfl) ?_ _
  refine fr_end (C := fun a => Q .normal a _) rfl rfl rfl (fun f => ?_)
  exact hQ.out f _ zA zB now1 oa1 cl1 us.length us y c1' hu hv' hx' rfl hTP TD
end Go.Proofs.YtjbkgmbakjnlhaaGreatDoor
