import Derived.Test.YtjbkgmbakjnlhaaGreatDoorPartAm
import Derived.Test.YtjbkgmbakjnlhaaGreatDoorPartAd
import Derived.Lib.AppendZeros
namespace Go.Proofs.YtjbkgmbakjnlhaaGreatDoor
set_option maxRecDepth 100000
open Go.RowKit
theorem rflat_one (ys : List RV) : ∀ u ∈ ys.flatMap RV.cells, u.oneCell' = true := by
 intro u hu
 obtain ⟨x, _, hx⟩ := List.mem_flatMap.1 hu
 exact rcells_one x u hx
theorem cell_keep {w w' : World} {g o : Nat} (h : w'.heap[g]? = w.heap[g]?) : w'.cell? ⟨g, o, none⟩ = w.cell? ⟨g, o, none⟩ := by
 unfold World.cell?; rw [h]
theorem wpList_call2 {P : Program} {w : World} {ops : Array Oper} {rest : List Oper} {o : Oper} {a : Act} {Q : Exit → Act → World → Prop} (hgd : o.guard = none) (s x : Operand) (t u : TypeId)
  (ho : o.op = .call { callee := .builtin .append, args := #[s, x], argTypes := #[t, u] }) (v1 v2 v' : Value) (w' : World) (hs : a.eval s = v1) (hx : a.eval x = v2)
  (hr : ∀ ty, (Builtin.append_ #[t, u] ty #[v1, v2]).run P w = .ok v' w') (h : wpList P ops Q rest (a.put o.dst v') w') : wpList P ops Q (o :: rest) a w := by
 refine wpList_plain hgd fun K hK => ?_
 unfold Oper.wp execOp
 simp only [ho, resolve, invoke, builtin, Sem.run_bind, Sem.run_pure, Result.andThen_ok, List.map_toArray, List.map_cons, List.map_nil, hs, hx, hr]
 exact hK _ _ h
set_option maxHeartbeats 800000 in
theorem growP_any (n : Nat) (w : World) (h0 : 0 < n) (hn : n ≤ 1048576) :
  Calls Tryz.prog 116 #[.slice none 0 0, .int .i64 n] w fun e w' => ∃ g c, e = .returned (.slice (some ⟨g, 0, none⟩) 0 c) ∧ w'.ownsRow w.heap.size 29 9 (.slice (some ⟨g, 0, none⟩) 0 c) 0 [] ∧ Below w.heap.size w w' := by
 obtain ⟨ti, hti, hy0, hy1, hy2⟩ := info_parts Tryz.info9
 have hA := fun (ty : TypeId) => Lib.run_append_nil_zeros (P := Tryz.prog) w 23 3 ty 29 ti _ .i64 .i64 Tryz.underlying23 Tryz.underlying3 hti hy0 n h0 (by rw [hy1]; omega) (by omega) (by rw [hy2]; omega)
 have hge := grownCap_ge w n 0 29
 have hle := grownCap_le_maxLen w n 0 29 (by unfold maxLen; omega)
 obtain ⟨cp, hcp⟩ : ∃ cp, grownCap w n 0 29 = cp := ⟨_, rfl⟩
 rw [hcp] at hge hle
 simp only [hcp] at hA
 have OW : Hid (∀ z : Array Value, z.size = 9 → (w.drew.alloc (.cells (Builtin.zeroCells z n ++ Builtin.zeroCells z (cp - n)) 29)).ownsRow w.heap.size 29 9 (.slice (some ⟨w.heap.size, 0, none⟩) 0 cp) 0 []) := fun z hz => ⟨rfl, Or.inr ⟨w.heap.size, cp, _, rfl, Nat.le_refl _, heap_new _ _ _ rfl, Nat.zero_le _, hle, by rw [Array.size_append, size_zeroCells, size_zeroCells, hz, ← Nat.add_mul]; congr 1; omega, by simp⟩⟩
 have hcp' : (cp : Int) ≤ 9223372036854775807 := by unfold maxLen at hle; omega
 clear hcp
 go_enter Tryz.func116, Tryz.ntmps116
 go_wp2_with (at_builtin; refine wpList_call2 rfl _ _ 23 3 rfl (.slice none 0 0) (.int .i64 n) _ _ rfl rfl (fun ty => hA ty) ?_)
 go_wp2
 go_ret
 exact ⟨_, _, rfl, OW.out _ rfl, (Below.refl _ _).drew.alloc (by simp) _⟩
set_option maxHeartbeats 3200000 in
theorem concatP_any (sl gL gP c : Nat) (ys : List RV) (x : RV) (w : World) (h0 : w.cell? ⟨sl, 0, none⟩ = some (.slice (some ⟨gL, 0, none⟩) ys.length c)) (h1 : w.cell? ⟨sl, 1, none⟩ = some (.slice (some ⟨gP, 0, none⟩) 1 1))
  (hL : RowB w 29 gL (ys.flatMap RV.cells)) (hP : RowB w 29 gP x.cells) (hl : ys.length ≤ 1000) :
  Calls Tryz.prog 97 #[.slice (some ⟨sl, 0, none⟩) 2 2] w fun e w' => ∃ g c, e = .returned (.slice (some ⟨g, 0, none⟩) (ys.length + 1) c) ∧ w'.ownsRow w.heap.size 29 9 (.slice (some ⟨g, 0, none⟩) (ys.length + 1) c) (ys.length + 1) (ys.flatMap RV.cells ++ x.cells) ∧ Below w.heap.size w w' := by
 obtain ⟨ti, hti, hy0, hy1, hy2⟩ := info_parts Tryz.info9
 have HL : Hid (RowB w 29 gL (ys.flatMap RV.cells)) := hL
 have HP : Hid (RowB w 29 gP x.cells) := hP
 have lsl := World.block_lt_of_cell? w _ h0
 clear hL hP
 go_enter Tryz.func97, Tryz.ntmps97
 go_wp2
 refine wp_loop_rounds 3 ?_
 rw [rounds_succ]
 go_wp2
 rw [rounds_succ]
 go_wp2
 rw [rounds_succ]
 go_wp2_with fail
 refine (growP_any (ys.length + 1) w (by omega) (by omega)).mono ?_
 rintro e w1 ⟨g, c1, rfl, ow1, b1⟩
 have L1 : Hid (RowB w1 29 gL (ys.flatMap RV.cells)) := HL.out.kept (b1.block _ HL.out.lt)
 have P1 : Hid (RowB w1 29 gP x.cells) := HP.out.kept (b1.block _ HP.out.lt)
 have k0 : w1.cell? ⟨sl, 0, none⟩ = some (.slice (some ⟨gL, 0, none⟩) ys.length c) := (b1.cell (p := ⟨sl, 0, none⟩) lsl).trans h0
 have k1 : w1.cell? ⟨sl, 1, none⟩ = some (.slice (some ⟨gP, 0, none⟩) 1 1) := (b1.cell (p := ⟨sl, 1, none⟩) lsl).trans h1
 have OW1 : Hid (w1.ownsRow w.heap.size 29 9 (.slice (some ⟨g, 0, none⟩) 0 c1) 0 []) := ow1
 have B1 : Hid (Below w.heap.size w w1) := b1
 have hs1 := b1.size
 clear ow1 b1 h0 h1
 go_wp2
 refine wp_loop_rounds 3 ?_
 rw [rounds_succ]
 go_wp2_with (at_builtin; refine wpList_append_own _ rfl _ _ 23 rfl w.heap.size 29 ti _ 9 88 Tryz.underlying23 hti hy0 hy1 hy2 rfl (by decide) (.slice (some ⟨g, 0, none⟩) 0 c1) 0 [] rfl OW1.out ⟨gL, 0, none⟩ ys.length c (ys.flatMap RV.cells) rfl ?h1 ?h2 ?h3 ?h4 ?h5 ?h6 ?_)
 case h1 => exact flatR_len ys
 case h2 =>
  intro j u hu
  rw [add_none, Nat.zero_add]
  exact L1.out.cell hu
 case h3 => exact rflat_one ys
 case h4 => unfold maxLen; omega
 case h5 => omega
 case h6 => exact hs1
 intro v2 w2 own2 gr2 nil2
 obtain ⟨g2, c2, rfl⟩ : ∃ g2 c2, v2 = .slice (some ⟨g2, 0, none⟩) ys.length c2 := form_of own2 nil2
 have lg : w.heap.size ≤ g := (own_lt OW1.out g rfl).1
 have q2 : ∀ b, b < w.heap.size → w2.heap[b]? = w1.heap[b]? := fun b hb => gr2.block b (by omega) (fun e => by have e' : some g = some b := e.symm; have := Option.some.inj e'; omega)
 have OW2 : Hid (w2.ownsRow w.heap.size 29 9 (.slice (some ⟨g2, 0, none⟩) ys.length c2) ys.length (ys.flatMap RV.cells)) := own2
 have B2 : Hid (Below w.heap.size w w2) := B1.out.trans (below_grown gr2 hs1 (fun k hk => by cases hk; exact lg))
 have P2 : Hid (RowB w2 29 gP x.cells) := P1.out.kept (q2 _ HP.out.lt)
 have m1 : w2.cell? ⟨sl, 1, none⟩ = some (.slice (some ⟨gP, 0, none⟩) 1 1) := (cell_keep (q2 _ lsl)).trans k1
 have hs2 := B2.out.size
 clear own2 gr2 nil2 k0 k1 q2 OW1 B1 L1 P1
 go_wp2
 rw [rounds_succ]
 go_wp2_with (at_builtin; refine wpList_append_own _ rfl _ _ 23 rfl w.heap.size 29 ti _ 9 88 Tryz.underlying23 hti hy0 hy1 hy2 rfl (by decide) (.slice (some ⟨g2, 0, none⟩) ys.length c2) ys.length (ys.flatMap RV.cells) rfl OW2.out ⟨gP, 0, none⟩ 1 1 x.cells rfl ?h1 ?h2 ?h3 ?h4 ?h5 ?h6 ?_)
 case h1 => rfl
 case h2 =>
  intro j u hu
  rw [add_none, Nat.zero_add]
  exact P2.out.cell hu
 case h3 => exact rcells_one x
 case h4 => unfold maxLen; omega
 case h5 => omega
 case h6 => exact hs2
 intro v3 w3 own3 gr3 nil3
 obtain ⟨g3, c3, rfl⟩ : ∃ g3 c3, v3 = .slice (some ⟨g3, 0, none⟩) (ys.length + 1) c3 := form_of own3 nil3
 have lg2 : w.heap.size ≤ g2 := (own_lt OW2.out g2 rfl).1
 have OW3 : Hid (w3.ownsRow w.heap.size 29 9 (.slice (some ⟨g3, 0, none⟩) (ys.length + 1) c3) (ys.length + 1) (ys.flatMap RV.cells ++ x.cells)) := own3
 have B3 : Hid (Below w.heap.size w w3) := B2.out.trans (below_grown gr3 hs2 (fun k hk => by cases hk; exact lg2))
 clear own3 gr3 nil3 m1 OW2 B2 P2
 go_wp2
 rw [rounds_succ]
 go_wp2
 go_ret
 exact ⟨g3, c3, rfl, OW3.out, B3.out⟩
def oOpens (sb : Nat) : Value := .iface 151 (.agg #[.pointer (some ⟨sb, 0, none⟩)])
def oStays (c : Int) : Value := .iface 152 (.agg #[.int .i64 c])
def oGrows (v : Value) : Value := .iface 159 (.agg #[v])
def oSpoils : Value := .iface 155 (.agg #[])
def oGoes (p : Pk) (v : Value) : Value := .iface 162 (.agg #[.int .i64 p.src, .int .i64 p.dst, .int .i64 p.kind, .int .i64 p.id, .int .i64 p.hops, .bool p.whole, .int .i64 p.off, .bool p.more, v])
def OutPost (J : Int × PB) (v : Value) (w : World) (e : Ending) (w' : World) : Prop := Below w.heap.size w w' ∧
   ((J.1 = 0 ∧ ∃ a n, e = .returned (oGoes J.2.1 (.slice a J.2.2.length n)) ∧ w'.ownsRow w.heap.size 5 1 (.slice a J.2.2.length n) J.2.2.length (J.2.2.map (.int .u8))) ∨
    (J.1 = 3 ∧ e = .returned (oGrows v)) ∨ (J.1 ≠ 0 ∧ J.1 ≠ 3 ∧ e = .returned oSpoils))
set_option maxHeartbeats 1600000 in
theorem outcomeOf_any (g c : Nat) (ys : List RV) (w : World) (hR : RL w g ys) (hl : ys.length ≤ 1048576) :
  Calls Tryz.prog 96 #[.slice (some ⟨g, 0, none⟩) ys.length c] w (OutPost (joinL (ys.map RV.key)) (.slice (some ⟨g, 0, none⟩) ys.length c) w) := by
 have K := implJoin_any g c ys w hR (by omega)
 clear hR
 unfold JoinPost at K
 generalize joinL (ys.map RV.key) = J at K ⊢
 obtain ⟨code, jp, js⟩ := J
 simp only at K ⊢
 unfold Pk.val at K
 go_enter Tryz.func96, Tryz.ntmps96
 go_wp2_with fail
 refine K.mono ?_
 rintro e w1 ⟨a, n, rfl, ow, b1⟩
 have OW : Hid (w1.ownsRow w.heap.size 5 1 (.slice a js.length n) js.length (js.map (.int .u8))) := ow
 have B1 : Hid (Below w.heap.size w w1) := b1
 clear ow b1 K
 by_cases h0 : code = 0
 ·subst h0
  go_wp2
  go_ret
  exact ⟨(B1.out).alloc B1.out.size _, Or.inl ⟨rfl, a, n, rfl, OW.out.alloc _⟩⟩
 ·by_cases h3 : code = 3
  ·subst h3
   go_wp2
   go_ret
   exact ⟨(B1.out).alloc B1.out.size _, Or.inr (Or.inl ⟨rfl, rfl⟩)⟩
  ·go_wp2
   go_ret
   exact ⟨(B1.out).alloc B1.out.size _, Or.inr (Or.inr ⟨h0, h3, rfl⟩)⟩
set_option maxHeartbeats 400000 in
theorem refusedOpens (sb : Nat) (w : World) : Calls Tryz.prog 140 #[.agg #[.pointer (some ⟨sb, 0, none⟩)]] w fun e w' => e = .returned (errVal 3) ∧ Below w.heap.size w w' := by
 unfold errVal
 go_enter Tryz.func140, Tryz.ntmps140
 go_wp2
 go_ret
 exact ⟨rfl, zBa _ _⟩
set_option maxHeartbeats 400000 in
theorem refusedStays (c : Int) (w : World) (hc : c ≠ 0) : Calls Tryz.prog 141 #[.agg #[.int .i64 c]] w fun e w' => e = .returned (errVal c) ∧ Below w.heap.size w w' := by
 unfold errVal
 rw [if_neg hc]
 go_enter Tryz.func141, Tryz.ntmps141
 go_wp2
 go_ret
 exact ⟨rfl, zBa _ _⟩
set_option maxHeartbeats 400000 in
theorem refusedGrows (v : Value) (w : World) : Calls Tryz.prog 143 #[.agg #[v]] w fun e w' => e = .returned (errVal 3) ∧ Below w.heap.size w w' := by
 unfold errVal
 go_enter Tryz.func143, Tryz.ntmps143
 go_wp2
 go_ret
 exact ⟨rfl, zBa _ _⟩
set_option maxHeartbeats 400000 in
theorem refusedSpoils (w : World) : Calls Tryz.prog 142 #[.agg #[]] w fun e w' => e = .returned (errVal 4) ∧ Below w.heap.size w w' := by
 unfold errVal
 go_enter Tryz.func142, Tryz.ntmps142
 go_wp2
 go_ret
 exact ⟨rfl, zBa _ _⟩
set_option maxHeartbeats 400000 in
theorem refusedGoes (p : Pk) (a : Option Addr) (n c : Nat) (w : World) : Calls Tryz.prog 144 #[.agg #[.int .i64 p.src, .int .i64 p.dst, .int .i64 p.kind, .int .i64 p.id, .int .i64 p.hops, .bool p.whole, .int .i64 p.off, .bool p.more, .slice a n c]] w fun e w' => e = .returned (errVal 0) ∧ Below w.heap.size w w' := by
 unfold errVal
 go_enter Tryz.func144, Tryz.ntmps144
 go_wp2
 go_ret
 exact ⟨rfl, zBa _ _⟩
theorem findK_no {k : K4} : ∀ {L : List (K4 × Nat)} (i : Nat), (∀ p ∈ L, p.1 ≠ k) → findK k L i = none
  | [], i, _ => rfl
  | q :: r, i, h => by
    have h1 : q.1 ≠ k := h q (List.mem_cons_self ..)
    have h2 := findK_no (k := k) (L := r) (i + 1) (fun p hp => h p (List.mem_cons_of_mem _ hp))
    unfold findK
    first | (rw [if_neg h1]; exact h2) | (rw [if_neg (fun e => h1 e.symm)]; exact h2) | (simp [h1, h2]) | (simp [Ne.symm h1, h2])
theorem RL.of_row {w : World} {g lo : Nat} {zs : List RV} (h : RowB w 29 g (zs.flatMap RV.cells)) (hd : ∀ y ∈ zs, DataB w lo y) : RL w g zs := by
  refine ⟨h.lt, fun k x hx => ?_, fun x hx => (hd x hx).rok⟩
  have e : ∀ j v, j < 9 → x.cells[j]? = some v → w.cell? ⟨g, k * 9 + j, none⟩ = some v := fun j v hj hv => h.cell (by rw [flatR_at zs k j x hx hj]; exact hv)
  exact ⟨e 0 _ (by omega) rfl, e 1 _ (by omega) rfl, e 2 _ (by omega) rfl, e 3 _ (by omega) rfl, e 4 _ (by omega) rfl, e 5 _ (by omega) rfl, e 6 _ (by omega) rfl, e 7 _ (by omega) rfl, e 8 _ (by omega) rfl⟩
def newSlot (x : RV) (gP : Nat) (now : Int) : SV := { a := some ⟨gP, 0, none⟩, c := 1, xs := [x], since := now, bad := false }
def OutAt (now : Int) (es : List Ent) (k : K4) (x : RV) (w : World) (e : Ending) (w' : World) : Prop := Below w.heap.size w w' ∧
  (((∀ e ∈ es, e.k ≠ k) ∧ ∃ sb gP, e = .returned (oOpens sb) ∧ w.heap.size ≤ sb ∧ w.heap.size ≤ gP ∧ w'.heap[sb]? = some (newSlot x gP now).box ∧ RowB w' 29 gP x.cells) ∨
   ∃ e0 ∈ es, e0.k = k ∧ ((e0.s.bad = true ∧ e = .returned (oStays 4)) ∨ (e0.s.bad = false ∧ x.key ∈ e0.s.xs.map RV.key ∧ e = .returned (oStays 3)) ∨
     (e0.s.bad = false ∧ x.key ∉ e0.s.xs.map RV.key ∧ e0.s.xs.length = 40 ∧ e = .returned oSpoils) ∨
     (e0.s.bad = false ∧ x.key ∉ e0.s.xs.map RV.key ∧ e0.s.xs.length ≠ 40 ∧ ∃ g c, w'.ownsRow w.heap.size 29 9 (.slice (some ⟨g, 0, none⟩) (e0.s.xs.length + 1) c) (e0.s.xs.length + 1) ((e0.s.xs ++ [x]).flatMap RV.cells) ∧
       (((joinL ((e0.s.xs ++ [x]).map RV.key)).1 = 0 ∧ ∃ a n, e = .returned (oGoes (joinL ((e0.s.xs ++ [x]).map RV.key)).2.1 (.slice a (joinL ((e0.s.xs ++ [x]).map RV.key)).2.2.length n)) ∧ w'.ownsRow w.heap.size 5 1 (.slice a (joinL ((e0.s.xs ++ [x]).map RV.key)).2.2.length n) (joinL ((e0.s.xs ++ [x]).map RV.key)).2.2.length ((joinL ((e0.s.xs ++ [x]).map RV.key)).2.2.map (.int .u8))) ∨
        ((joinL ((e0.s.xs ++ [x]).map RV.key)).1 = 3 ∧ e = .returned (oGrows (.slice (some ⟨g, 0, none⟩) (e0.s.xs.length + 1) c))) ∨
        ((joinL ((e0.s.xs ++ [x]).map RV.key)).1 ≠ 0 ∧ (joinL ((e0.s.xs ++ [x]).map RV.key)).1 ≠ 3 ∧ e = .returned oSpoils)))))
set_option maxHeartbeats 6400000 in
theorem outcomeAt_any (lo ob mb : Nat) (ov : Value) (now : Int) (es : List Ent) (k : K4) (x : RV) (w : World) (h : OpenB w lo ob mb ov now es) (hx : DataB w lo x) (hl : ∀ e ∈ es, e.s.xs.length ≤ 1000) :
    Calls Tryz.prog 69 #[.pointer (some ⟨ob, 0, none⟩), kval k, x.p.val (.slice x.a x.zs.length x.c)] w (OutAt now es k x w) := by
  have H0 : Hid (OpenB w lo ob mb ov now es) := h
  have HX : Hid (DataB w lo x) := hx
  have x0 : w.cell? ⟨ob, 0, none⟩ = some (.int .i64 now) := zCr h.box
  have x2 : w.cell? ⟨ob, 2, none⟩ = some (.map (some mb)) := zCr h.box
  have lob := lt_of_block h.box
  have lmb := h.map_.lt
  have hlow := h.low
  have LK0 := fun (u : World) (hu : MapIs u mb (es.map fun e => (e.k, e.b))) => lookup_k4 hu k
  unfold kval Pk.val
  unfold kval at LK0
  clear h hx
  obtain ⟨W, hW⟩ : ∃ W, W = (w.alloc (.cells #[.int .i64 k.1, .int .i64 k.2.1, .int .i64 k.2.2.1, .int .i64 k.2.2.2] 103)).alloc (.cells #[.int .i64 x.p.src, .int .i64 x.p.dst, .int .i64 x.p.kind, .int .i64 x.p.id, .int .i64 x.p.hops, .bool x.p.whole, .int .i64 x.p.off, .bool x.p.more, .slice x.a x.zs.length x.c] 29) := ⟨_, rfl⟩
  have bW : Below w.heap.size w W := by rw [hW]; exact Joins.below_alloc2 _ _ _
  have sW : W.heap.size = w.heap.size + 2 := by rw [hW]; simp
  have KA : KeyAt W w.heap.size k := by
    rw [hW]
    exact KeyAt.of_block ((zHa (by simp)).trans (heap_new _ _ _ rfl))
  have PB0 : Boxed W (w.heap.size + 1) x.p (.slice x.a x.zs.length x.c) := by
    rw [hW]
    have h := Boxed.new (w.alloc (.cells #[.int .i64 k.1, .int .i64 k.2.1, .int .i64 k.2.2.1, .int .i64 k.2.2.2] 103)) x.p (.slice x.a x.zs.length x.c) 29
    simp at h
    exact h
  have y0 : W.cell? ⟨ob, 0, none⟩ = some (.int .i64 now) := (bW.cell (p := ⟨ob, 0, none⟩) lob).trans x0
  have y2 : W.cell? ⟨ob, 2, none⟩ = some (.map (some mb)) := (bW.cell (p := ⟨ob, 2, none⟩) lob).trans x2
  have OW : Hid (OpenB W lo ob mb ov now es) := H0.out.below bW
  have XW : Hid (DataB W lo x) := HX.out.below bW
  go_enter Tryz.func69, Tryz.ntmps69
  go_wp2
  rw [← hW]
  clear hW x0 x2
  refine wp_region_held_drew (S := fun W => KeyAt W w.heap.size k ∧ W.cell? ⟨ob, 2, none⟩ = some (.map (some mb)) ∧ MapIs W mb (es.map fun (e : Ent) => (e.k, e.b))) (by kernel_rfl) ⟨KA, y2, OW.out.map_.kept rfl⟩ (fun hH => ?_)
  refine zTk 0 8 (.pointer (some ⟨ob, 0, none⟩)) rfl (fun w hS => by go_simp) hH ?_; simp only [Act.put, zX, zY, zZ]
  refine zTk 1 9 (.pointer (some ⟨ob, 0, none⟩)) rfl (fun w hS => by go_simp) hH ?_; simp only [Act.put, zX, zY, zZ]
  refine zTk 2 10 (.pointer (some ⟨ob, 2, none⟩)) rfl (fun w hS => by go_simp) hH ?_; simp only [Act.put, zX, zY, zZ]
  refine zTk 3 11 (.map (some mb)) rfl (fun w hS => by obtain ⟨⟨s0, s1, s2, s3⟩, s4, s5⟩ := hS; go_simp) hH ?_; simp only [Act.put, zX, zY, zZ]
  refine zTk 4 12 (.agg #[.int .i64 k.1, .int .i64 k.2.1, .int .i64 k.2.2.1, .int .i64 k.2.2.2]) rfl (fun w hS => by obtain ⟨⟨s0, s1, s2, s3⟩, s4, s5⟩ := hS; go_simp) hH ?_; simp only [Act.put, zX, zY, zZ]
  refine zTk 5 13 (slotVal (slotOf k (es.map fun e => (e.k, e.b)))) rfl (fun w hS => by obtain ⟨⟨s0, s1, s2, s3⟩, s4, s5⟩ := hS; have hlk := LK0 w s5; go_simp) hH ?_; simp only [Act.put, zX, zY, zZ]
  refine zTk 6 7 (slotVal (slotOf k (es.map fun e => (e.k, e.b)))) rfl (fun w hS => by go_simp) hH ?_; simp only [Act.put, zX, zY, zZ]
  refine wpAnyH_done (by kernel_rfl) ?_ _
  have bV : Below W.heap.size W W.drew := (Below.refl _ _).drew
  generalize W.drew = V at bV ⊢
  have PBV := PB0.below bV
  have OV : Hid (OpenB V lo ob mb ov now es) := OW.out.below bV
  have XV : Hid (DataB V lo x) := XW.out.below bV
  have z0 : V.cell? ⟨ob, 0, none⟩ = some (.int .i64 now) := (bV.cell (p := ⟨ob, 0, none⟩) (by simp only; omega)).trans y0
  have BV : Hid (Below w.heap.size w V) := bW.trans (bV.mono bW.size)
  have sV : w.heap.size + 2 ≤ V.heap.size := by have := bV.size; omega
  clear hH LK0 KA PB0 y0 y2 OW XW bV bW sW
  by_cases hno : ∀ e ∈ es, e.k ≠ k
  · have hs : slotVal (slotOf k (es.map fun e => (e.k, e.b))) = .pointer none := by
      unfold slotOf
      rw [findK_no 0 (fun p hp => by obtain ⟨e, he, rfl⟩ := List.mem_map.1 hp; exact hno e he)]
      rfl
    rw [hs]
    clear hs
    go_wp2
    refine wp_region_held_drew (S := fun U => Boxed U (w.heap.size + 1) x.p (.slice x.a x.zs.length x.c) ∧ U.cell? ⟨ob, 0, none⟩ = some (.int .i64 now)) (by kernel_rfl) ⟨PBV.below ((Below.refl _ _).drew), z0⟩ (fun hH => ?_)
    refine zTk 0 17 (.agg #[.int .i64 x.p.src, .int .i64 x.p.dst, .int .i64 x.p.kind, .int .i64 x.p.id, .int .i64 x.p.hops, .bool x.p.whole, .int .i64 x.p.off, .bool x.p.more, .slice x.a x.zs.length x.c]) rfl (fun w hS => by obtain ⟨⟨_, s0, s1, s2, s3, s4, s5, s6, s7, s8⟩, t0⟩ := hS; go_simp) hH ?_; simp only [Act.put, zX, zY, zZ]
    refine zTk 2 19 (.pointer (some ⟨ob, 0, none⟩)) rfl (fun w hS => by go_simp) hH ?_; simp only [Act.put, zX, zY, zZ]
    refine zTk 3 20 (.pointer (some ⟨ob, 0, none⟩)) rfl (fun w hS => by go_simp) hH ?_; simp only [Act.put, zX, zY, zZ]
    refine zTk 4 21 (.pointer (some ⟨ob, 0, none⟩)) rfl (fun w hS => by go_simp) hH ?_; simp only [Act.put, zX, zY, zZ]
    refine zTk 5 22 (.int .i64 now) rfl (fun w hS => by obtain ⟨⟨_, s0, s1, s2, s3, s4, s5, s6, s7, s8⟩, t0⟩ := hS; go_simp) hH ?_; simp only [Act.put, zX, zY, zZ]
    refine zRd 1 (by kernel_rfl) rfl (fun K hK => ?_)
    go_simp
    obtain ⟨V1, hV1⟩ : ∃ V1, V1 = (V.alloc (.cells #[.int .i64 x.p.src, .int .i64 x.p.dst, .int .i64 x.p.kind, .int .i64 x.p.id, .int .i64 x.p.hops, .bool x.p.whole, .int .i64 x.p.off, .bool x.p.more, .slice x.a x.zs.length x.c] 29)).drew := ⟨_, rfl⟩
    have b1 : Below V.heap.size V V1 := by rw [hV1]; exact (zBa _ _).drew
    have n1 : V1.heap[V.heap.size]? = some (.cells #[.int .i64 x.p.src, .int .i64 x.p.dst, .int .i64 x.p.kind, .int .i64 x.p.id, .int .i64 x.p.hops, .bool x.p.whole, .int .i64 x.p.off, .bool x.p.more, .slice x.a x.zs.length x.c] 29 (0, 0)) := by rw [hV1]; exact heap_new _ _ _ rfl
    have s1 : V1.heap.size = V.heap.size + 1 := by rw [hV1]; simp
    rw [← hV1]
    refine hK.out _ _ ⟨PBV.below b1, (b1.cell (p := ⟨ob, 0, none⟩) (by simp only; omega)).trans z0⟩ (fun hH => ?_)
    clear hK K hV1
    refine zTk 6 23 (.agg #[.slice (some ⟨V.heap.size, 0, none⟩) 1 1, .int .i64 now, .bool false]) rfl (fun w hS => by go_simp) hH ?_; simp only [Act.put, zX, zY, zZ]
    refine zRd 7 (by kernel_rfl) rfl (fun K hK => ?_)
    go_simp
    obtain ⟨V2, hV2⟩ : ∃ V2, V2 = V1.alloc (.cells #[.slice (some ⟨V.heap.size, 0, none⟩) 1 1, .int .i64 now, .bool false] 39) := ⟨_, rfl⟩
    have b2 : Below V1.heap.size V1 V2 := by rw [hV2]; exact zBa _ _
    have n2 : V2.heap[V1.heap.size]? = some (.cells #[.slice (some ⟨V.heap.size, 0, none⟩) 1 1, .int .i64 now, .bool false] 39 (0, 0)) := by rw [hV2]; exact heap_new _ _ _ rfl
    rw [← hV2]
    refine hK.out _ _ ⟨(PBV.below b1).below b2, (b2.cell (p := ⟨ob, 0, none⟩) (by simp only; omega)).trans ((b1.cell (p := ⟨ob, 0, none⟩) (by simp only; omega)).trans z0)⟩ (fun hH => ?_)
    clear hK K hV2
    refine zTk 8 25 (.agg #[.pointer (some ⟨V1.heap.size, 0, none⟩)]) rfl (fun w hS => by go_simp) hH ?_; simp only [Act.put, zX, zY, zZ]
    refine zTk 9 26 (.iface 151 (.agg #[.pointer (some ⟨V1.heap.size, 0, none⟩)])) rfl (fun w hS => by go_simp) hH ?_; simp only [Act.put, zX, zY, zZ]
    refine zTk 10 6 (.iface 151 (.agg #[.pointer (some ⟨V1.heap.size, 0, none⟩)])) rfl (fun w hS => by go_simp) hH ?_; simp only [Act.put, zX, zY, zZ]
    refine wpAnyH_done (by kernel_rfl) ?_ _
    have FIN : Hid (OutAt now es k x w (.returned (.iface 151 (.agg #[.pointer (some ⟨V1.heap.size, 0, none⟩)]))) V2) := ⟨BV.out.trans (((b1.trans (b2.mono (by omega))).mono (by omega))), Or.inl ⟨hno, V1.heap.size, V.heap.size, rfl, by omega, by omega, n2, (show RowB V2 _ _ _ from ⟨_, (b2.block _ (by omega)).trans n1, rfl⟩)⟩⟩
    clear hH b1 b2 n1 n2
    go_wp2
    go_ret
    exact FIN.out
  · obtain ⟨e0, he0, hk0⟩ : ∃ e0 ∈ es, e0.k = k := by
      refine Classical.byContradiction fun hc => hno fun e he hk => hc ⟨e, he, hk⟩
    have hs : slotVal (slotOf k (es.map fun e => (e.k, e.b))) = .pointer (some ⟨e0.b, 0, none⟩) := by
      rw [slotOf_some (List.mem_map.2 ⟨e0, he0, by rw [hk0]⟩) (by rw [List.map_map]; exact H0.out.keys)]
      rfl
    rw [hs]
    clear hs
    have hsb := OV.out.slot e0 he0
    have c0 : V.cell? ⟨e0.b, 0, none⟩ = some (.slice e0.s.a e0.s.xs.length e0.s.c) := zCr hsb
    have c2 : V.cell? ⟨e0.b, 2, none⟩ = some (.bool e0.s.bad) := zCr hsb
    have lsb := lt_of_block hsb
    have HL := hl e0 he0
    have HSl : Hid (SlotB V lo e0.s) := OV.out.forest.each e0.s (List.mem_map.2 ⟨e0, he0, rfl⟩)
    have HE : Hid (e0 ∈ es ∧ e0.k = k) := ⟨he0, hk0⟩
    clear hsb hno hl he0 hk0
    cases hbad : e0.s.bad
    case true =>
      rw [hbad] at c2
      have FIN : Hid (OutAt now es k x w (.returned (oStays 4)) V) := ⟨BV.out, Or.inr ⟨e0, HE.out.1, HE.out.2, Or.inl ⟨hbad, rfl⟩⟩⟩
      unfold oStays at FIN
      clear hbad
      go_wp2
      go_ret
      exact FIN.out
    case false =>
      rw [hbad] at c2
      have HBAD : Hid (e0.s.bad = false) := hbad
      have KH : Hid (Calls Tryz.prog 95 #[.pointer (some ⟨e0.b, 0, none⟩), .agg #[.int .i64 x.p.src, .int .i64 x.p.dst, .int .i64 x.p.kind, .int .i64 x.p.id, .int .i64 x.p.hops, .bool x.p.whole, .int .i64 x.p.off, .bool x.p.more, .slice x.a x.zs.length x.c]] V fun e w' => ∃ b : Bool, e = .returned (.bool b) ∧ (b = true ↔ x.key ∈ e0.s.xs.map RV.key) ∧ Below V.heap.size V w') := (by have h := hasPiece_any e0.b lo lo e0.s x V HSl.out c0 XV.out; unfold Pk.val at h; exact h)
      obtain ⟨lp, p0, p1, p2, p3, p4, p5, p6, p7, p8⟩ := id PBV
      clear hbad
      go_wp2_with fail
      refine KH.out.mono ?_
      rintro e V1 ⟨b, rfl, hb, b1⟩
      have B1 : Hid (Below w.heap.size w V1) := BV.out.trans (b1.mono (by omega))
      have P1 := PBV.below b1
      have S1 : Hid (SlotB V1 lo e0.s) := HSl.out.below b1
      have X1 : Hid (DataB V1 lo x) := XV.out.below b1
      have d0 : V1.cell? ⟨e0.b, 0, none⟩ = some (.slice e0.s.a e0.s.xs.length e0.s.c) := (b1.cell (p := ⟨e0.b, 0, none⟩) lsb).trans c0
      have l1 := b1.size
      clear p0 p1 p2 p3 p4 p5 p6 p7 p8 c0 c2 KH b1 PBV z0 OV XV HSl BV
      cases b
      case true =>
        have FIN : Hid (OutAt now es k x w (.returned (oStays 3)) V1) := ⟨B1.out, Or.inr ⟨e0, HE.out.1, HE.out.2, Or.inr (Or.inl ⟨HBAD.out, hb.1 rfl, rfl⟩)⟩⟩
        unfold oStays at FIN
        clear hb
        go_wp2
        go_ret
        exact FIN.out
      case false =>
        have HN : Hid (x.key ∉ e0.s.xs.map RV.key) := fun h => by cases hb.2 h
        clear hb
        by_cases h40 : (e0.s.xs.length : Int) = 40
        · have FIN : Hid (OutAt now es k x w (.returned oSpoils) V1) := ⟨B1.out, Or.inr ⟨e0, HE.out.1, HE.out.2, Or.inr (Or.inr (Or.inl ⟨HBAD.out, HN.out, by omega, rfl⟩))⟩⟩
          unfold oSpoils at FIN
          go_wp2
          go_ret
          exact FIN.out
        · have h40' : e0.s.xs.length ≠ 40 := by omega
          go_wp2
          obtain ⟨gL, hga, _, hrow⟩ := S1.out.at_
          rw [hga] at d0
          have HR : Hid (RowB V1 29 gL (e0.s.xs.flatMap RV.cells)) := hrow
          refine wp_region_held_drew (S := fun U => Boxed U (w.heap.size + 1) x.p (.slice x.a x.zs.length x.c) ∧ U.cell? ⟨e0.b, 0, none⟩ = some (.slice (some ⟨gL, 0, none⟩) e0.s.xs.length e0.s.c)) (by kernel_rfl) ⟨P1.below ((Below.refl _ _).drew), d0⟩ (fun hH => ?_)
          refine zTk 0 49 (.pointer (some ⟨e0.b, 0, none⟩)) rfl (fun w hS => by go_simp) hH ?_; simp only [Act.put, zX, zY, zZ]
          refine zTk 1 50 (.pointer (some ⟨e0.b, 0, none⟩)) rfl (fun w hS => by go_simp) hH ?_; simp only [Act.put, zX, zY, zZ]
          refine zTk 2 51 (.pointer (some ⟨e0.b, 0, none⟩)) rfl (fun w hS => by go_simp) hH ?_; simp only [Act.put, zX, zY, zZ]
          refine zTk 3 52 (.slice (some ⟨gL, 0, none⟩) e0.s.xs.length e0.s.c) rfl (fun w hS => by obtain ⟨⟨_, s0, s1, s2, s3, s4, s5, s6, s7, s8⟩, t0⟩ := hS; go_simp) hH ?_; simp only [Act.put, zX, zY, zZ]
          refine zTk 4 53 (.agg #[.int .i64 x.p.src, .int .i64 x.p.dst, .int .i64 x.p.kind, .int .i64 x.p.id, .int .i64 x.p.hops, .bool x.p.whole, .int .i64 x.p.off, .bool x.p.more, .slice x.a x.zs.length x.c]) rfl (fun w hS => by obtain ⟨⟨_, s0, s1, s2, s3, s4, s5, s6, s7, s8⟩, t0⟩ := hS; go_simp) hH ?_; simp only [Act.put, zX, zY, zZ]
          refine zRd 5 (by kernel_rfl) rfl (fun K hK => ?_)
          go_simp
          obtain ⟨V2, hV2⟩ : ∃ V2, V2 = (V1.alloc (.cells #[.int .i64 x.p.src, .int .i64 x.p.dst, .int .i64 x.p.kind, .int .i64 x.p.id, .int .i64 x.p.hops, .bool x.p.whole, .int .i64 x.p.off, .bool x.p.more, .slice x.a x.zs.length x.c] 29)).drew := ⟨_, rfl⟩
          have b2 : Below V1.heap.size V1 V2 := by rw [hV2]; exact (zBa _ _).drew
          have n2 : V2.heap[V1.heap.size]? = some (.cells #[.int .i64 x.p.src, .int .i64 x.p.dst, .int .i64 x.p.kind, .int .i64 x.p.id, .int .i64 x.p.hops, .bool x.p.whole, .int .i64 x.p.off, .bool x.p.more, .slice x.a x.zs.length x.c] 29 (0, 0)) := by rw [hV2]; exact heap_new _ _ _ rfl
          have s2 : V2.heap.size = V1.heap.size + 1 := by rw [hV2]; simp
          rw [← hV2]
          refine hK.out _ _ ⟨P1.below b2, (b2.cell (p := ⟨e0.b, 0, none⟩) (by simp only; omega)).trans d0⟩ (fun hH => ?_)
          clear hK K hV2
          refine zRd 6 (by kernel_rfl) rfl (fun K hK => ?_)
          go_simp
          obtain ⟨V3, hV3⟩ : ∃ V3, V3 = V2.alloc (.cells #[.slice (some ⟨gL, 0, none⟩) e0.s.xs.length e0.s.c, .slice (some ⟨V1.heap.size, 0, none⟩) 1 1] 23) := ⟨_, rfl⟩
          have b3 : Below V2.heap.size V2 V3 := by rw [hV3]; exact zBa _ _
          have n3 : V3.heap[V2.heap.size]? = some (.cells #[.slice (some ⟨gL, 0, none⟩) e0.s.xs.length e0.s.c, .slice (some ⟨V1.heap.size, 0, none⟩) 1 1] 23 (0, 0)) := by rw [hV3]; exact heap_new _ _ _ rfl
          rw [← hV3]
          have n3' := n3
          rw [s2] at n3'
          have b13 : Below V1.heap.size V1 V3 := b2.trans (b3.mono (by omega))
          refine hK.out _ _ ⟨P1.below b13, (b13.cell (p := ⟨e0.b, 0, none⟩) (by simp only; omega)).trans d0⟩ (fun hH => ?_)
          clear hK K hV3
          have KC : Hid (Calls Tryz.prog 97 #[.slice (some ⟨V1.heap.size + 1, 0, none⟩) 2 2] V3 fun e w' => ∃ g c, e = .returned (.slice (some ⟨g, 0, none⟩) (e0.s.xs.length + 1) c) ∧ w'.ownsRow V3.heap.size 29 9 (.slice (some ⟨g, 0, none⟩) (e0.s.xs.length + 1) c) (e0.s.xs.length + 1) (e0.s.xs.flatMap RV.cells ++ x.cells) ∧ Below V3.heap.size V3 w') := concatP_any (V1.heap.size + 1) gL V1.heap.size e0.s.c e0.s.xs x V3 (zCr n3') (zCr n3') (HR.out.kept (b13.block _ HR.out.lt)) ⟨_, (b3.block _ (by omega)).trans n2, rfl⟩ HL
          refine zRd 7 (by kernel_rfl) rfl (fun K hK => ?_)
          go_simp
          (with_reducible refine KC.out.mono ?_)
          rintro e V4 ⟨g, c, rfl, ow4, b4⟩
          have b14 : Below V1.heap.size V1 V4 := b13.trans (b4.mono b13.size)
          have e9 : e0.s.xs.flatMap RV.cells ++ x.cells = (e0.s.xs ++ [x]).flatMap RV.cells := by simp
          rw [e9] at ow4
          have RL4 : RL V4 g (e0.s.xs ++ [x]) := RL.of_row (lo := lo) (RowB.of_own ow4) (fun y hy => by
            rcases List.mem_append.1 hy with h | h
            · exact (S1.out.each y h).below b14
            · rw [List.mem_singleton.1 h]; exact X1.out.below b14)
          have e10 : (e0.s.xs ++ [x]).length = e0.s.xs.length + 1 := by simp
          have KO : Hid (Calls Tryz.prog 96 #[.slice (some ⟨g, 0, none⟩) (e0.s.xs.length + 1) c] V4 (OutPost (joinL ((e0.s.xs ++ [x]).map RV.key)) (.slice (some ⟨g, 0, none⟩) (e0.s.xs.length + 1) c) V4)) := (by have h := outcomeOf_any g c (e0.s.xs ++ [x]) V4 RL4 (by rw [e10]; omega); rw [e10] at h; exact h)
          clear e10 e9
          go_simp
          refine hK.out _ _ ⟨P1.below b14, (b14.cell (p := ⟨e0.b, 0, none⟩) (by simp only; omega)).trans d0⟩ (fun hH => ?_)
          clear hK K
          refine zRd 8 (by kernel_rfl) rfl (fun K hK => ?_)
          go_simp
          (with_reducible refine KO.out.mono ?_)
          rintro e V5 ⟨b5, ho⟩
          have b15 : Below V1.heap.size V1 V5 := b14.trans (b5.mono b14.size)
          have hsl : w.heap.size ≤ V3.heap.size := by have := b13.size; omega
          have hsl4 : w.heap.size ≤ V4.heap.size := by have := b14.size; omega
          have FIN : Hid (OutAt now es k x w e V5) := ⟨B1.out.trans (b15.mono (by omega)), Or.inr ⟨e0, HE.out.1, HE.out.2, Or.inr (Or.inr (Or.inr ⟨HBAD.out, HN.out, h40', g, c, Joins.ownsRow_le (own_below ow4 b5) hsl, ho.imp (fun ⟨h1, a, n, h2, h3⟩ => ⟨h1, a, n, h2, Joins.ownsRow_le h3 hsl4⟩) id⟩))⟩⟩
          have HV : Hid (∃ v, e = .returned v) := by
            rcases ho with ⟨_, a, n, h2, _⟩ | ⟨_, h2⟩ | ⟨_, _, h2⟩
            · exact ⟨_, h2⟩
            · exact ⟨_, h2⟩
            · exact ⟨_, h2⟩
          obtain ⟨v, rfl⟩ := HV.out
          clear ho HV
          go_simp
          refine hK.out _ _ ⟨P1.below b15, (b15.cell (p := ⟨e0.b, 0, none⟩) (by simp only; omega)).trans d0⟩ (fun hH => ?_)
          clear hK K
          refine zTk 9 6 (v) rfl (fun w hS => by go_simp) hH ?_; simp only [Act.put, zX, zY, zZ]
          refine wpAnyH_done (by kernel_rfl) ?_ _
          clear hH b2 b3 b13 b14 b15 b4 b5 n2 n3 n3' KC KO RL4 ow4
          go_wp2
          go_ret
          exact FIN.out
end Go.Proofs.YtjbkgmbakjnlhaaGreatDoor
