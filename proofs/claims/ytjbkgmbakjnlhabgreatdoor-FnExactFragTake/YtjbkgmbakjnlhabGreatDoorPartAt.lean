/- slices.Grow and slices.Concat over packets. -/
import Derived.Test.YtjbkgmbakjnlhabGreatDoorPartAs
import Derived.Lib.AppendZeros
namespace Go.Proofs.YtjbkgmbakjnlhabGreatDoor
set_option maxRecDepth 100000
open Go.RowKit

theorem rflat_one (ys : List RV) : ∀ u ∈ ys.flatMap RV.cells, u.oneCell' = true := by
  intro u hu
  obtain ⟨x, _, hx⟩ := List.mem_flatMap.1 hu
  exact rcells_one x u hx
theorem cell_keep {w w' : World} {g o : Nat} (h : w'.heap[g]? = w.heap[g]?) : w'.cell? ⟨g, o, none⟩ = w.cell? ⟨g, o, none⟩ := by
  unfold World.cell?; rw [h]
theorem wpList_call2 {P : Program} {w : World} {ops : Array Oper} {rest : List Oper} {o : Oper} {a : Act} {Q : Exit → Act → World → Prop} (hgd : o.guard = none) (s x : Operand) (t u : TypeId)
    (ho : o.op = .call { callee := .builtin .append, args := #[s, x], argTypes := #[t, u] }) (v1 v2 v' : Value) (w' : World) (hs : a.eval s = v1) (hx : a.eval x = v2)
    (hr : ∀ ty, (Builtin.append_ #[t, u] ty #[v1, v2]).run P w = .ok v' w') (h : wpList P ops Q rest (a.put o.dst v') w') : wpList P ops Q (o :: rest) a w := by
  refine wpList_plain hgd fun K hK => ?_
  unfold Oper.wp execOp
  simp only [ho, resolve, invoke, builtin, Sem.run_bind, Sem.run_pure, Result.andThen_ok, List.map_toArray, List.map_cons, List.map_nil, hs, hx, hr]
  exact hK _ _ h

set_option maxHeartbeats 800000 in
theorem growP_any (n : Nat) (w : World) (h0 : 0 < n) (hn : n ≤ 1048576) :
    Calls Tryz.prog 106 #[.slice none 0 0, .int .i64 n] w fun e w' => ∃ g c, e = .returned (.slice (some ⟨g, 0, none⟩) 0 c) ∧ w'.ownsRow w.heap.size 33 9 (.slice (some ⟨g, 0, none⟩) 0 c) 0 [] ∧ Below w.heap.size w w' := by
  obtain ⟨ti, hti, hy0, hy1, hy2⟩ := info_parts Tryz.info9
  have hA := fun (ty : TypeId) => Lib.run_append_nil_zeros (P := Tryz.prog) w 69 3 ty 33 ti _ .i64 .i64 Tryz.underlying69 Tryz.underlying3 hti hy0 n h0 (by rw [hy1]; omega) (by omega) (by rw [hy2]; omega)
  have hge := grownCap_ge w n 0 33
  have hle := grownCap_le_maxLen w n 0 33 (by unfold maxLen; omega)
  obtain ⟨cp, hcp⟩ : ∃ cp, grownCap w n 0 33 = cp := ⟨_, rfl⟩
  rw [hcp] at hge hle
  simp only [hcp] at hA
  have OW : Hid (∀ z : Array Value, z.size = 9 → (w.drew.alloc (.cells (Builtin.zeroCells z n ++ Builtin.zeroCells z (cp - n)) 33)).ownsRow w.heap.size 33 9 (.slice (some ⟨w.heap.size, 0, none⟩) 0 cp) 0 []) := fun z hz => ⟨rfl, Or.inr ⟨w.heap.size, cp, _, rfl, Nat.le_refl _, heap_new _ _ _ rfl, Nat.zero_le _, hle, by rw [Array.size_append, size_zeroCells, size_zeroCells, hz, ← Nat.add_mul]; congr 1; omega, by simp⟩⟩
  have hcp' : (cp : Int) ≤ 9223372036854775807 := by unfold maxLen at hle; omega
  clear hcp
  go_enter Tryz.func106, Tryz.ntmps106
  go_wp2_with (at_builtin; refine wpList_call2 rfl _ _ 69 3 rfl (.slice none 0 0) (.int .i64 n) _ _ rfl rfl (fun ty => hA ty) ?_)
  go_wp2
  go_ret
  exact ⟨_, _, rfl, OW.out _ rfl, (Below.refl _ _).drew.alloc (by simp) _⟩
set_option maxRecDepth 100000 in
set_option maxHeartbeats 3200000 in
theorem concatP_any (sl gL gP c : Nat) (ys : List RV) (x : RV) (w : World) (h0 : w.cell? ⟨sl, 0, none⟩ = some (.slice (some ⟨gL, 0, none⟩) ys.length c)) (h1 : w.cell? ⟨sl, 1, none⟩ = some (.slice (some ⟨gP, 0, none⟩) 1 1))
    (hL : RowB w 33 gL (ys.flatMap RV.cells)) (hP : RowB w 33 gP x.cells) (hl : ys.length ≤ 1000) :
    Calls Tryz.prog 84 #[.slice (some ⟨sl, 0, none⟩) 2 2] w fun e w' => ∃ g c, e = .returned (.slice (some ⟨g, 0, none⟩) (ys.length + 1) c) ∧ w'.ownsRow w.heap.size 33 9 (.slice (some ⟨g, 0, none⟩) (ys.length + 1) c) (ys.length + 1) (ys.flatMap RV.cells ++ x.cells) ∧ Below w.heap.size w w' := by
  obtain ⟨ti, hti, hy0, hy1, hy2⟩ := info_parts Tryz.info9
  have HL : Hid (RowB w 33 gL (ys.flatMap RV.cells)) := hL
  have HP : Hid (RowB w 33 gP x.cells) := hP
  have lsl := World.block_lt_of_cell? w _ h0
  clear hL hP
  go_enter Tryz.func84, Tryz.ntmps84
  go_wp2
  refine wp_loop_rounds 3 ?_
  rw [rounds_succ]
  go_wp2
  rw [rounds_succ]
  go_wp2
  rw [rounds_succ]
  go_wp2_with fail
  refine (growP_any (ys.length + 1) w (by omega) (by omega)).mono ?_
  rintro e w1 ⟨g, c1, rfl, ow1, b1⟩
  have L1 : Hid (RowB w1 33 gL (ys.flatMap RV.cells)) := HL.out.kept (b1.block _ HL.out.lt)
  have P1 : Hid (RowB w1 33 gP x.cells) := HP.out.kept (b1.block _ HP.out.lt)
  have k0 : w1.cell? ⟨sl, 0, none⟩ = some (.slice (some ⟨gL, 0, none⟩) ys.length c) := (b1.cell (p := ⟨sl, 0, none⟩) lsl).trans h0
  have k1 : w1.cell? ⟨sl, 1, none⟩ = some (.slice (some ⟨gP, 0, none⟩) 1 1) := (b1.cell (p := ⟨sl, 1, none⟩) lsl).trans h1
  have OW1 : Hid (w1.ownsRow w.heap.size 33 9 (.slice (some ⟨g, 0, none⟩) 0 c1) 0 []) := ow1
  have B1 : Hid (Below w.heap.size w w1) := b1
  have hs1 := b1.size
  clear ow1 b1 h0 h1
  go_wp2
  refine wp_loop_rounds 3 ?_
  rw [rounds_succ]
  go_wp2_with (at_builtin; refine wpList_append_own _ rfl _ _ 69 rfl w.heap.size 33 ti (.agg #[.int .i64 0, .int .i64 0, .int .i64 0, .int .i64 0, .int .i64 0, .bool false, .int .i64 0, .bool false, .slice none 0 0]) 9 88 Tryz.underlying69 hti hy0 hy1 hy2 rfl (by decide) (.slice (some ⟨g, 0, none⟩) 0 c1) 0 [] rfl OW1.out ⟨gL, 0, none⟩ ys.length c (ys.flatMap RV.cells) rfl ?h1 ?h2 ?h3 ?h4 ?h5 ?h6 ?_)
  case h1 => exact flatR_len ys
  case h2 =>
    intro j u hu
    rw [add_none, Nat.zero_add]
    exact L1.out.cell hu
  case h3 => exact rflat_one ys
  case h4 => unfold maxLen; omega
  case h5 => omega
  case h6 => exact hs1
  intro v2 w2 own2 gr2 nil2
  obtain ⟨g2, c2, rfl⟩ : ∃ g2 c2, v2 = .slice (some ⟨g2, 0, none⟩) ys.length c2 := form_of own2 nil2
  have lg : w.heap.size ≤ g := (own_lt OW1.out g rfl).1
  have q2 : ∀ b, b < w.heap.size → w2.heap[b]? = w1.heap[b]? := fun b hb => gr2.block b (by omega) (fun e => by have e' : some g = some b := e.symm; have := Option.some.inj e'; omega)
  have OW2 : Hid (w2.ownsRow w.heap.size 33 9 (.slice (some ⟨g2, 0, none⟩) ys.length c2) ys.length (ys.flatMap RV.cells)) := own2
  have B2 : Hid (Below w.heap.size w w2) := B1.out.trans (below_grown gr2 hs1 (fun k hk => by cases hk; exact lg))
  have P2 : Hid (RowB w2 33 gP x.cells) := P1.out.kept (q2 _ HP.out.lt)
  have m1 : w2.cell? ⟨sl, 1, none⟩ = some (.slice (some ⟨gP, 0, none⟩) 1 1) := (cell_keep (q2 _ lsl)).trans k1
  have hs2 := B2.out.size
  clear own2 gr2 nil2 k0 k1 q2 OW1 B1 L1 P1
  go_wp2
  rw [rounds_succ]
  go_wp2_with (at_builtin; refine wpList_append_own _ rfl _ _ 69 rfl w.heap.size 33 ti (.agg #[.int .i64 0, .int .i64 0, .int .i64 0, .int .i64 0, .int .i64 0, .bool false, .int .i64 0, .bool false, .slice none 0 0]) 9 88 Tryz.underlying69 hti hy0 hy1 hy2 rfl (by decide) (.slice (some ⟨g2, 0, none⟩) ys.length c2) ys.length (ys.flatMap RV.cells) rfl OW2.out ⟨gP, 0, none⟩ 1 1 x.cells rfl ?h1 ?h2 ?h3 ?h4 ?h5 ?h6 ?_)
  case h1 => rfl
  case h2 =>
    intro j u hu
    rw [add_none, Nat.zero_add]
    exact P2.out.cell hu
  case h3 => exact rcells_one x
  case h4 => unfold maxLen; omega
  case h5 => omega
  case h6 => exact hs2
  intro v3 w3 own3 gr3 nil3
  obtain ⟨g3, c3, rfl⟩ : ∃ g3 c3, v3 = .slice (some ⟨g3, 0, none⟩) (ys.length + 1) c3 := form_of own3 nil3
  have lg2 : w.heap.size ≤ g2 := (own_lt OW2.out g2 rfl).1
  have OW3 : Hid (w3.ownsRow w.heap.size 33 9 (.slice (some ⟨g3, 0, none⟩) (ys.length + 1) c3) (ys.length + 1) (ys.flatMap RV.cells ++ x.cells)) := own3
  have B3 : Hid (Below w.heap.size w w3) := B2.out.trans (below_grown gr3 hs2 (fun k hk => by cases hk; exact lg2))
  clear own3 gr3 nil3 m1 OW2 B2 P2
  go_wp2
  rw [rounds_succ]
  go_wp2
  go_ret
  exact ⟨g3, c3, rfl, OW3.out, B3.out⟩
end Go.Proofs.YtjbkgmbakjnlhabGreatDoor

/- What happens to a slot: the program's outcomeOf, refused, spoil. -/
namespace Go.Proofs.YtjbkgmbakjnlhabGreatDoor
set_option maxRecDepth 100000
open Go.RowKit

def oOpens (sb : Nat) : Value := .iface 135 (.agg #[.pointer (some ⟨sb, 0, none⟩)])
def oStays (c : Int) : Value := .iface 136 (.agg #[.int .i64 c])
def oGrows (v : Value) : Value := .iface 143 (.agg #[v])
def oSpoils : Value := .iface 139 (.agg #[])
def oGoes (p : Pk) (v : Value) : Value := .iface 146 (.agg #[.int .i64 p.src, .int .i64 p.dst, .int .i64 p.kind, .int .i64 p.id, .int .i64 p.hops, .bool p.whole, .int .i64 p.off, .bool p.more, v])

/-- what outcomeOf answers -/
def OutPost (J : Int × PB) (v : Value) (w : World) (e : Ending) (w' : World) : Prop := Below w.heap.size w w' ∧
      ((J.1 = 0 ∧ ∃ a n, e = .returned (oGoes J.2.1 (.slice a J.2.2.length n)) ∧ w'.ownsRow w.heap.size 5 1 (.slice a J.2.2.length n) J.2.2.length (J.2.2.map (.int .u8))) ∨
       (J.1 = 3 ∧ e = .returned (oGrows v)) ∨ (J.1 ≠ 0 ∧ J.1 ≠ 3 ∧ e = .returned oSpoils))
set_option maxHeartbeats 1600000 in
theorem outcomeOf_any (g c : Nat) (ys : List RV) (w : World) (hR : RL w g ys) (hl : ys.length ≤ 1048576) :
    Calls Tryz.prog 83 #[.slice (some ⟨g, 0, none⟩) ys.length c] w (OutPost (joinL (ys.map RV.key)) (.slice (some ⟨g, 0, none⟩) ys.length c) w) := by
  have K := implJoin_any g c ys w hR (by omega)
  clear hR
  unfold JoinPost at K
  generalize joinL (ys.map RV.key) = J at K ⊢
  obtain ⟨code, jp, js⟩ := J
  simp only at K ⊢
  unfold Pk.val at K
  go_enter Tryz.func83, Tryz.ntmps83
  go_wp2_with fail
  refine K.mono ?_
  rintro e w1 ⟨a, n, rfl, ow, b1⟩
  have OW : Hid (w1.ownsRow w.heap.size 5 1 (.slice a js.length n) js.length (js.map (.int .u8))) := ow
  have B1 : Hid (Below w.heap.size w w1) := b1
  clear ow b1 K
  by_cases h0 : code = 0
  · subst h0
    go_wp2
    go_ret
    exact ⟨(B1.out).alloc B1.out.size _, Or.inl ⟨rfl, a, n, rfl, OW.out.alloc _⟩⟩
  · by_cases h3 : code = 3
    · subst h3
      go_wp2
      go_ret
      exact ⟨(B1.out).alloc B1.out.size _, Or.inr (Or.inl ⟨rfl, rfl⟩)⟩
    · go_wp2
      go_ret
      exact ⟨(B1.out).alloc B1.out.size _, Or.inr (Or.inr ⟨h0, h3, rfl⟩)⟩
set_option maxHeartbeats 400000 in
theorem refusedOpens (sb : Nat) (w : World) : Calls Tryz.prog 142 #[.agg #[.pointer (some ⟨sb, 0, none⟩)]] w fun e w' => e = .returned (errVal 3) ∧ Below w.heap.size w w' := by
  unfold errVal
  go_enter Tryz.func142, Tryz.ntmps142
  go_wp2
  go_ret
  exact ⟨rfl, Joins.below_alloc1 _ _⟩
set_option maxHeartbeats 400000 in
theorem refusedStays (c : Int) (w : World) (hc : c ≠ 0) : Calls Tryz.prog 143 #[.agg #[.int .i64 c]] w fun e w' => e = .returned (errVal c) ∧ Below w.heap.size w w' := by
  unfold errVal
  rw [if_neg hc]
  go_enter Tryz.func143, Tryz.ntmps143
  go_wp2
  go_ret
  exact ⟨rfl, Joins.below_alloc1 _ _⟩
set_option maxHeartbeats 400000 in
theorem refusedGrows (v : Value) (w : World) : Calls Tryz.prog 145 #[.agg #[v]] w fun e w' => e = .returned (errVal 3) ∧ Below w.heap.size w w' := by
  unfold errVal
  go_enter Tryz.func145, Tryz.ntmps145
  go_wp2
  go_ret
  exact ⟨rfl, Joins.below_alloc1 _ _⟩
set_option maxHeartbeats 400000 in
theorem refusedSpoils (w : World) : Calls Tryz.prog 144 #[.agg #[]] w fun e w' => e = .returned (errVal 4) ∧ Below w.heap.size w w' := by
  unfold errVal
  go_enter Tryz.func144, Tryz.ntmps144
  go_wp2
  go_ret
  exact ⟨rfl, Joins.below_alloc1 _ _⟩
set_option maxHeartbeats 400000 in
theorem refusedGoes (p : Pk) (a : Option Addr) (n c : Nat) (w : World) : Calls Tryz.prog 146 #[.agg #[.int .i64 p.src, .int .i64 p.dst, .int .i64 p.kind, .int .i64 p.id, .int .i64 p.hops, .bool p.whole, .int .i64 p.off, .bool p.more, .slice a n c]] w fun e w' => e = .returned (errVal 0) ∧ Below w.heap.size w w' := by
  unfold errVal
  go_enter Tryz.func146, Tryz.ntmps146
  go_wp2
  go_ret
  exact ⟨rfl, Joins.below_alloc1 _ _⟩
end Go.Proofs.YtjbkgmbakjnlhabGreatDoor
