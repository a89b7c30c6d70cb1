/- An append onto a slice that begins within its block, as one step of a region that draws. -/
import Derived.Test.YtjbkgmbakjnlhabGreatDoorPartAs
import Derived.ArgAppend
namespace Go.Proofs.YtjbkgmbakjnlhabGreatDoor
set_option maxRecDepth 100000
open Go.RowKit

/-- what an append leaves: the cells, elsewhere nothing old turned -/
structure AppTo (w : World) (g : Nat) (cs : List Value) (g' off' : Nat) (w' : World) : Prop where
  cells : ∀ (j : Nat) (u : Value), cs[j]? = some u → w'.cell? ⟨g', off' + j, none⟩ = some u
  lt : g' < w'.heap.size
  kept : ∀ b, b < w.heap.size → b ≠ g → w'.heap[b]? = w.heap[b]?
  os : w'.os = w.os
  tape : w'.tape = w.tape
  output : w'.output = w.output
  size : w.heap.size ≤ w'.heap.size
  at_ : g' = g ∨ w.heap.size ≤ g'
theorem AppTo.below {w w' : World} {g g' off' lo : Nat} {cs : List Value} (h : AppTo w g cs g' off' w') (hl : lo ≤ g) (hs : lo ≤ w.heap.size) : Below lo w w' :=
  ⟨h.os, h.tape, h.output, h.size, fun b hb => h.kept b (by omega) (by omega)⟩
theorem setCells_far (b : Nat) : ∀ (vs : List Value) (o : Nat) (w : World) (k : Nat), k ≠ b → (w.setCells b o vs).heap[k]? = w.heap[k]?
  | [], _, _, _, _ => rfl
  | v :: r, o, w, k, h => by
    rw [World.setCells, setCells_far b r (o + 1) _ k h]
    exact Below.heap_setCell _ _ _ _ h
theorem setCells_frame (b : Nat) : ∀ (vs : List Value) (o : Nat) (w : World), (w.setCells b o vs).os = w.os ∧ (w.setCells b o vs).tape = w.tape ∧ (w.setCells b o vs).output = w.output ∧ (w.setCells b o vs).heap.size = w.heap.size
  | [], _, _ => ⟨rfl, rfl, rfl, rfl⟩
  | v :: r, o, w => by
    rw [World.setCells]
    obtain ⟨h1, h2, h3, h4⟩ := setCells_frame b r (o + 1) (w.setCell ⟨b, o, none⟩ v)
    exact ⟨h1.trans (by simp [World.setCell]), h2.trans (by simp [World.setCell]), h3.trans (by simp [World.setCell]), h4.trans (by simp [World.setCell])⟩

theorem step_append_off {P : Program} {w : World} {ops : Array Oper} {o : Oper} {a : Act} {K : Act → World → Prop} {Q : Exit → Act → World → Prop} {E : Prop} (hgd : o.guard = none) (d : Option Tmp) (hd : o.dst = d) (s x : Operand) (t : TypeId)
    (ho : o.op = .call { callee := .builtin .append, args := #[s, x], argTypes := #[t, t] })
    (e : TypeId) (i : TypeInfo) (z : Value) (size bytes : Nat) (ht : P.underlying t = some (.slice e)) (hi : P.info? e = some i) (hz : i.zero = some z)
    (hsize : i.size = size) (hby : i.bytes = bytes) (hzs : z.cells.size = size) (hsz : 0 < size)
    (g off n cap : Nat) (olds : List Value) (hs : a.eval s = .slice (some ⟨g, off, none⟩) n cap) (hlo : olds.length = n * size) (holds : ∀ j u, olds[j]? = some u → w.cell? ⟨g, off + j, none⟩ = some u) (hgl : g < w.heap.size)
    (ad : Addr) (m c : Nat) (news : List Value) (hx : a.eval x = .slice (some ad) m c) (hl : news.length = m * size) (hnews : ∀ j u, news[j]? = some u → w.cell? (ad.add j) = some u) (h1 : ∀ u ∈ news, u.oneCell' = true)
    (hspare : n + m ≤ cap → ∀ j, j < news.length → (w.cell? ⟨g, off + n * size + j, none⟩).isSome = true ∧ w.frozen? ⟨g, off + n * size + j, none⟩ = false) (hm : 0 < n + m)
    (h63 : n + m ≤ maxLen) (hbytes : (n + m) * bytes ≤ 140737488355328)
    (h : ∀ g' off' c' w', AppTo w g (olds ++ news) g' off' w' → n + m ≤ c' → c' ≤ maxLen ∨ c' = cap → K (a.put d (.slice (some ⟨g', off', none⟩) (n + m) c')) w') :
    if Region.wanted o (yielded ops a.tmps) = true then Oper.wp P o a w K Q else E := by
  have hw : Region.wanted o (yielded ops a.tmps) = true := by simp [Region.wanted, hgd]
  rw [if_pos hw]
  subst hd
  by_cases hr : n + m ≤ cap
  · subst hsize
    have hrun := run_append_room_cells (P := P) w t o.type e i ht hi g off n cap ad m c news hl hnews h1 hr (fun j hj => (hspare hr j hj).1) (fun j hj => (hspare hr j hj).2)
    obtain ⟨f1, f2, f3, f4⟩ := setCells_frame g news (off + n * i.size) w
    have A : AppTo w g (olds ++ news) g off (w.setCells g (off + n * i.size) news) := by
      refine ⟨fun j u hj => ?_, by rw [f4]; exact hgl, fun b _ hb => setCells_far g news _ w b hb, f1, f2, f3, by rw [f4]; exact Nat.le_refl _, Or.inl rfl⟩
      by_cases hj1 : j < olds.length
      · rw [List.getElem?_append_left hj1] at hj
        rw [World.cell?_setCells_out g news (off + n * i.size) w ⟨g, off + j, none⟩ (fun _ _ => Or.inl (by simp only; omega))]
        exact holds j u hj
      · rw [List.getElem?_append_right (by omega)] at hj
        obtain ⟨hj2, hj3⟩ := List.getElem?_eq_some_iff.1 hj
        have := World.cell?_setCells_in g news (off + n * i.size) w (fun k hk => (hspare hr k hk).1) (j - olds.length) hj2
        rw [show off + n * i.size + (j - olds.length) = off + j by omega] at this
        rw [this, hj3]
    unfold Oper.wp execOp
    simp only [ho, resolve, invoke, builtin, Sem.run_bind, Sem.run_pure, Result.andThen_ok, List.map_toArray, List.map_cons, List.map_nil, hs, hx, hrun]
    exact h g off cap _ A hr (Or.inr rfl)
  · obtain ⟨v', w', hrun, r1, r2⟩ := run_append_arg_grows (P := P) w t o.type e i z size bytes ht hi hz hsize hby hzs hsz ⟨g, off, none⟩ n cap olds hlo (fun j u hj => by rw [Addr.add_lit]; exact holds j u hj) ad m c news hl hnews (by omega) h63 hbytes
    rcases r1.2 with ⟨_, hv⟩ | ⟨g', cap', cur, hv, hb, hh, hc1, hc2, _⟩
    · omega
    · subst hv
      have A : AppTo w g (olds ++ news) g' 0 w' := by
        refine ⟨fun j u hj => ?_, lt_of_block hh, fun b hb _ => r2.block b hb (by simp), r2.os, r2.tape, r2.output, r2.size, Or.inr hb⟩
        have := r1.cells (g := g') rfl j u hj
        rw [Addr.add_lit] at this
        exact this
      unfold Oper.wp execOp
      simp only [ho, resolve, invoke, builtin, Sem.run_bind, Sem.run_pure, Result.andThen_ok, List.map_toArray, List.map_cons, List.map_nil, hs, hx, hrun]
      exact h g' 0 cap' _ A hc1 (Or.inl hc2)
end Go.Proofs.YtjbkgmbakjnlhabGreatDoor
