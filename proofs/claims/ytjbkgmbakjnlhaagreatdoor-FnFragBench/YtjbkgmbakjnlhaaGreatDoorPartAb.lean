import Derived.Test.YtjbkgmbakjnlhaaGreatDoorPartAa
import Derived.ArgAppend
import Derived.ProofKit
import Derived.OpenShut
import Derived.Deep.Slices
import Derived.Deep.WholeRow
import Derived.Deep.RegionHeld3
namespace Go.Proofs.YtjbkgmbakjnlhaaGreatDoor
set_option maxRecDepth 100000
open Go.RowKit
section late
variable {P : Program} {ops : Array Oper} {Q : Exit → Act → World → Prop} {md : Region.Mode} {S : World → Prop}
def waitsOn (md : Region.Mode) (ops : Array Oper) (j i : Nat) : Bool := (ops[j]?).any fun o => o.after.any fun e => Region.binds md e && e.on == i
def lateB (md : Region.Mode) (ops : Array Oper) (j : Nat) : Bool := (List.range ops.size).all fun i => i == j || waitsOn md ops j i || waitsOn md ops i j
theorem waits_listed {l : Array Bool} {i j : Nat} (hj : j ∈ Region.ready md ops l) (hw : waitsOn md ops j i = true) : l.getD i false = true := by
 obtain ⟨_, o, ho, h⟩ := mem_ready.1 hj
 unfold waitsOn at hw
 rw [ho] at hw
 simp only [Option.any_some, Array.any_eq_true] at hw
 obtain ⟨k, hk, hb⟩ := hw
 rw [Bool.and_eq_true, beq_iff_eq] at hb
 rw [← hb.2]
 exact h _ (Array.getElem_mem hk) hb.1
theorem ready_open {l : Array Bool} {i : Nat} (hi : i ∈ Region.ready md ops l) : l.getD i false = false := by
 have h := (mem_ready.1 hi).1
 rw [Array.getD_eq_getD_getElem?] at h ⊢
 cases hl : l[i]? with
 | none => rfl
 | some b =>
  rw [hl] at h
  exact h
theorem late_alone {l : Array Bool} {i j : Nat} (hi : i ∈ Region.ready md ops l) (hj : j ∈ Region.ready md ops l) (hne : j ≠ i) : lateB md ops j = false := by
 cases h : lateB md ops j with
 | false => rfl
 | true =>
  exfalso
  obtain ⟨_, o, ho, _⟩ := mem_ready.1 hi
  have hlt : i < ops.size := (Array.getElem?_eq_some_iff.1 ho).1
  have hk := List.all_eq_true.1 h i (List.mem_range.2 hlt)
  simp only [Bool.or_eq_true, beq_iff_eq] at hk
  rcases hk with (e | e) | e
  ·exact hne e.symm
  ·have := waits_listed hj e
   rw [ready_open hi] at this
   cases this
  ·have := waits_listed hi e
   rw [ready_open hj] at this
   cases this
def wpAnyL (P : Program) (md : Region.Mode) (ops : Array Oper) (Q : Exit → Act → World → Prop) (S : World → Prop) : Nat → Array Bool → Act → World → Prop
 | 0, l, a, w => Region.ready md ops l = [] ∧ Q .normal a w
 | f + 1, l, a, w => (Region.ready md ops l = [] → Q .normal a w) ∧ ∀ i ∈ Region.ready md ops l, wpOp P ops Q i (fun a' w' => (lateB md ops i = true ∨ S w') ∧ wpAnyL P md ops Q S f (l.setIfInBounds i true) a' w') a w
theorem wpAny_of_late : ∀ (f : Nat) (l : Array Bool) (a : Act) (w : World), wpAnyL P md ops Q S f l a w → wpAny P md ops Q f l a w
 | 0, _, _, _, h => h
 | f + 1, _, _, _, h => ⟨h.1, fun i hi => wpOp_mono (fun a' w' h' => wpAny_of_late f _ a' w' h'.2) (h.2 i hi)⟩
theorem late_first {i : Nat} {oi : Oper} {v : Value} (hi : ops[i]? = some oi) (hsel : ∀ (j : Nat) (o : Oper) cs b, ops[j]? = some o → o.op ≠ .select cs b) (hQ : ∀ c a w, Q (.panic c) (a.put oi.dst v) w → Q (.panic c) a w) :
  ∀ (f : Nat) (l : Array Bool) (a : Act) (w : World), (∀ j oj, ops[j]? = some oj → j ≠ i → l.getD j true = false → (∀ e ∈ oj.after, Region.binds md e = true → e.on ≠ i) → oi.apart ops oj = true) →
   i ∈ Region.ready md ops l → YieldsIf P ops S oi v a → S w → wpAnyL P md ops Q S f (l.setIfInBounds i true) (a.put oi.dst v) w → wpAnyL P md ops Q S (f + 1) l a w
 | 0, l, a, w, _, hr, hy, hS, H => by
  refine ⟨fun h => (by rw [h] at hr; cases hr), fun j hj => ?_⟩
  rcases Nat.decEq j i with hne | he
  ·have := ready_mono hj hne
   rw [H.1] at this
   cases this
  ·subst he
   exact hy.wpOp hi hS ⟨Or.inr hS, H⟩
 | f + 1, l, a, w, hfree, hr, hy, hS, H => by
  refine ⟨fun h => (by rw [h] at hr; cases hr), fun j hj => ?_⟩
  rcases Nat.decEq j i with hne | he
  ·obtain ⟨hun, oj, hoj, hall⟩ := mem_ready.1 hj
   have hnl := late_alone hr hj hne
   have hno : ∀ e ∈ oj.after, Region.binds md e = true → e.on ≠ i := fun e he hb heq => by
    have h1 := hall e he hb
    rw [heq, ready_open hr] at h1
    cases h1
   have h2 := wpOp_putIf hoj (hfree j oj hoj hne hun hno) (fun cs b => hsel i oi cs b hi) (fun cs b => hsel j oj cs b hoj) hQ hy (H.2 j (ready_mono hj hne))
   refine wpOp_mono (fun a' w' h3 => ?_) h2
   have hS' : S w' := h3.2.1.resolve_left (by rw [hnl]; decide)
   refine ⟨Or.inr hS', late_first hi hsel hQ f (l.setIfInBounds j true) a' w' (fun k ok hk hki hu hn => hfree k ok hk hki ?_ hn) (ready_mono hr (Ne.symm hne)) h3.1 hS' ?_⟩
   ·rcases Nat.decEq j k with hjk | hjk
    ·rw [getD_set_ne true hjk] at hu
     exact hu
    ·rw [← hjk]
     exact hun
   ·rw [Array.setIfInBounds_comm _ _ hne]
    exact h3.2.2
  ·subst he
   exact hy.wpOp hi hS ⟨Or.inr hS, H⟩
theorem late_take {f : Nat} {l : Array Bool} {a : Act} {w : World} {oi : Oper} (i : Nat) (d : Option Tmp) (v : Value) (hi : ops[i]? = some oi) (hd : oi.dst = d)
  (hs : Region.noSelect ops = true) (hf : Region.free md ops l i = true) (hr : (Region.ready md ops l).contains i = true)
  (hQ : ∀ c a w, Q (.panic c) (a.put d v) w → Q (.panic c) a w) (hw : Region.wanted oi (yielded ops a.tmps) = true) (hy : ∀ w, S w → (execOp a.eval oi).run P w = .ok (.value v) w) (hS : S w)
  (h : wpAnyL P md ops Q S f (l.setIfInBounds i true) (a.put d v) w) : wpAnyL P md ops Q S (f + 1) l a w := by
 subst hd
 exact late_first hi (Region.noSelect_spec hs) hQ f l a w (Region.free_spec hi hf) (by simpa using hr) (Or.inl ⟨hw, hy⟩) hS h
theorem late_one {f : Nat} {l : Array Bool} {a : Act} {w : World} {i : Nat} {o : Oper} (hr : Region.ready md ops l = [i]) (ho : ops[i]? = some o)
  (h : ∀ K' : Act → World → Prop, Shut (∀ a w, (lateB md ops i = true ∨ S w) → ((lateB md ops i = true ∨ S w) → wpAnyL P md ops Q S f (l.setIfInBounds i true) a w) → K' a w) → if Region.wanted o (yielded ops a.tmps) = true then Oper.wp P o a w K' Q else K' (a.put o.dst undef) w) : wpAnyL P md ops Q S (f + 1) l a w := by
 refine ⟨(fun e => by rw [hr] at e; cases e), fun j hj => ?_⟩
 rw [hr] at hj
 obtain rfl := List.mem_singleton.1 hj
 exact wpOp_step ho (fun K' hK => h K' (fun a w hS hW => hK a w ⟨hS, hW hS⟩))
theorem late_done {l : Array Bool} {a : Act} {w : World} (hr : Region.ready md ops l = []) (h : Q .normal a w) : ∀ f, wpAnyL P md ops Q S f l a w
 | 0 => ⟨hr, h⟩
 | _ + 1 => ⟨fun _ => h, by rw [hr]; simp⟩
theorem wp_region_late {id : Nat} {a : Act} {w : World} (hm : P.follows .mixedOrders = true) (hS : S w.drew)
  (h : S w.drew → wpAnyL P .any ops Q S ops.size (Array.replicate ops.size false) a w.drew) : (Code.region id ops true).wp P Q a w :=
 wp_region_any hm (wpAny_of_late _ _ _ _ (h hS))
end late
theorem zLk {P : Program} {md : Region.Mode} {ops : Array Oper} {Q : Exit → Act → World → Prop} {S : World → Prop} {fuel : Nat} {listed : Array Bool} {a : Act} {w : World} {oi : Oper} (i d : Nat) (v : Value) (hi : ops[i]? = some oi) (hy : ∀ w, S w → (execOp a.eval oi).run P w = .ok (.value v) w) (hS : S w)
  (h : wpAnyL P md ops Q S fuel (listed.setIfInBounds i true) (a.put (some d) v) w) (hd : oi.dst = some d := by rfl) (hs : Region.noSelect ops = true := by kernel_rfl) (hf : Region.free md ops listed i = true := by kernel_rfl) (hr : (Region.ready md ops listed).contains i = true := by kernel_rfl)
  (hQ : ∀ c a w, Q (.panic c) (a.put (some d) v) w → Q (.panic c) a w := by exact fun _ _ _ h => h) (hw : Region.wanted oi (yielded ops a.tmps) = true := by rfl) : wpAnyL P md ops Q S (fuel + 1) listed a w := late_take i (some d) v hi hd hs hf hr hQ hw hy hS h
end Go.Proofs.YtjbkgmbakjnlhaaGreatDoor
namespace Go.Proofs.YtjbkgmbakjnlhaaGreatDoor
set_option maxRecDepth 100000
open Go.RowKit
structure AppTo (w : World) (g : Nat) (cs : List Value) (g' off' : Nat) (w' : World) : Prop where
 cells : ∀ (j : Nat) (u : Value), cs[j]? = some u → w'.cell? ⟨g', off' + j, none⟩ = some u
 lt : g' < w'.heap.size
 kept : ∀ b, b < w.heap.size → b ≠ g → w'.heap[b]? = w.heap[b]?
 os : w'.os = w.os
 tape : w'.tape = w.tape
 output : w'.output = w.output
 size : w.heap.size ≤ w'.heap.size
 at_ : g' = g ∨ w.heap.size ≤ g'
theorem AppTo.below {w w' : World} {g g' off' lo : Nat} {cs : List Value} (h : AppTo w g cs g' off' w') (hl : lo ≤ g) (hs : lo ≤ w.heap.size) : Below lo w w' :=
 ⟨h.os, h.tape, h.output, h.size, fun b hb => h.kept b (by omega) (by omega)⟩
theorem setCells_far (b : Nat) : ∀ (vs : List Value) (o : Nat) (w : World) (k : Nat), k ≠ b → (w.setCells b o vs).heap[k]? = w.heap[k]?
 | [], _, _, _, _ => rfl
 | v :: r, o, w, k, h => by
  rw [World.setCells, setCells_far b r (o + 1) _ k h]
  exact zHs h
theorem setCells_frame (b : Nat) : ∀ (vs : List Value) (o : Nat) (w : World), (w.setCells b o vs).os = w.os ∧ (w.setCells b o vs).tape = w.tape ∧ (w.setCells b o vs).output = w.output ∧ (w.setCells b o vs).heap.size = w.heap.size
 | [], _, _ => ⟨rfl, rfl, rfl, rfl⟩
 | v :: r, o, w => by
  rw [World.setCells]
  obtain ⟨h1, h2, h3, h4⟩ := setCells_frame b r (o + 1) (w.setCell ⟨b, o, none⟩ v)
  exact ⟨h1.trans (by simp [World.setCell]), h2.trans (by simp [World.setCell]), h3.trans (by simp [World.setCell]), h4.trans (by simp [World.setCell])⟩
theorem step_append_off {P : Program} {w : World} {ops : Array Oper} {o : Oper} {a : Act} {K : Act → World → Prop} {Q : Exit → Act → World → Prop} {E : Prop} (hgd : o.guard = none) (d : Option Tmp) (hd : o.dst = d) (s x : Operand) (t : TypeId)
  (ho : o.op = .call { callee := .builtin .append, args := #[s, x], argTypes := #[t, t] })
  (e : TypeId) (i : TypeInfo) (z : Value) (size bytes : Nat) (ht : P.underlying t = some (.slice e)) (hi : P.info? e = some i) (hz : i.zero = some z)
  (hsize : i.size = size) (hby : i.bytes = bytes) (hzs : z.cells.size = size) (hsz : 0 < size)
  (g off n cap : Nat) (olds : List Value) (hs : a.eval s = .slice (some ⟨g, off, none⟩) n cap) (hlo : olds.length = n * size) (holds : ∀ j u, olds[j]? = some u → w.cell? ⟨g, off + j, none⟩ = some u) (hgl : g < w.heap.size)
  (ad : Addr) (m c : Nat) (news : List Value) (hx : a.eval x = .slice (some ad) m c) (hl : news.length = m * size) (hnews : ∀ j u, news[j]? = some u → w.cell? (ad.add j) = some u) (h1 : ∀ u ∈ news, u.oneCell' = true)
  (hspare : n + m ≤ cap → ∀ j, j < news.length → (w.cell? ⟨g, off + n * size + j, none⟩).isSome = true ∧ w.frozen? ⟨g, off + n * size + j, none⟩ = false) (hm : 0 < n + m)
  (h63 : n + m ≤ maxLen) (hbytes : (n + m) * bytes ≤ 140737488355328)
  (h : ∀ g' off' c' w', AppTo w g (olds ++ news) g' off' w' → n + m ≤ c' → c' ≤ maxLen ∨ c' = cap → K (a.put d (.slice (some ⟨g', off', none⟩) (n + m) c')) w') :
  if Region.wanted o (yielded ops a.tmps) = true then Oper.wp P o a w K Q else E := by
 have hw : Region.wanted o (yielded ops a.tmps) = true := by simp [Region.wanted, hgd]
 rw [if_pos hw]
 subst hd
 by_cases hr : n + m ≤ cap
 ·subst hsize
  have hrun := run_append_room_cells (P := P) w t o.type e i ht hi g off n cap ad m c news hl hnews h1 hr (fun j hj => (hspare hr j hj).1) (fun j hj => (hspare hr j hj).2)
  obtain ⟨f1, f2, f3, f4⟩ := setCells_frame g news (off + n * i.size) w
  have A : AppTo w g (olds ++ news) g off (w.setCells g (off + n * i.size) news) := by
   refine ⟨fun j u hj => ?_, by rw [f4]; exact hgl, fun b _ hb => setCells_far g news _ w b hb, f1, f2, f3, by rw [f4]; exact Nat.le_refl _, Or.inl rfl⟩
   by_cases hj1 : j < olds.length
   ·rw [List.getElem?_append_left hj1] at hj
    rw [World.cell?_setCells_out g news (off + n * i.size) w ⟨g, off + j, none⟩ (fun _ _ => Or.inl (by simp only; omega))]
    exact holds j u hj
   ·rw [List.getElem?_append_right (by omega)] at hj
    obtain ⟨hj2, hj3⟩ := List.getElem?_eq_some_iff.1 hj
    have := World.cell?_setCells_in g news (off + n * i.size) w (fun k hk => (hspare hr k hk).1) (j - olds.length) hj2
    rw [show off + n * i.size + (j - olds.length) = off + j by omega] at this
    rw [this, hj3]
  unfold Oper.wp execOp
  simp only [ho, resolve, invoke, builtin, Sem.run_bind, Sem.run_pure, Result.andThen_ok, List.map_toArray, List.map_cons, List.map_nil, hs, hx, hrun]
  exact h g off cap _ A hr (Or.inr rfl)
 ·obtain ⟨v', w', hrun, r1, r2⟩ := run_append_arg_grows (P := P) w t o.type e i z size bytes ht hi hz hsize hby hzs hsz ⟨g, off, none⟩ n cap olds hlo (fun j u hj => by rw [Addr.add_lit]; exact holds j u hj) ad m c news hl hnews (by omega) h63 hbytes
  rcases r1.2 with ⟨_, hv⟩ | ⟨g', cap', cur, hv, hb, hh, hc1, hc2, _⟩
  ·omega
  ·subst hv
   have A : AppTo w g (olds ++ news) g' 0 w' := by
    refine ⟨fun j u hj => ?_, lt_of_block hh, fun b hb _ => r2.block b hb (by simp), r2.os, r2.tape, r2.output, r2.size, Or.inr hb⟩
    have := r1.cells (g := g') rfl j u hj
    rw [Addr.add_lit] at this
    exact this
   unfold Oper.wp execOp
   simp only [ho, resolve, invoke, builtin, Sem.run_bind, Sem.run_pure, Result.andThen_ok, List.map_toArray, List.map_cons, List.map_nil, hs, hx, hrun]
   exact h g' 0 cap' _ A hc1 (Or.inl hc2)
end Go.Proofs.YtjbkgmbakjnlhaaGreatDoor
namespace Go.Proofs.YtjbkgmbakjnlhaaGreatDoor
set_option maxRecDepth 100000
open Go.ChangeShapes Go.WideShapes Go.ChangeAt Go.RowKit
end Go.Proofs.YtjbkgmbakjnlhaaGreatDoor
namespace Go.Proofs.YtjbkgmbakjnlhaaGreatDoor
set_option maxRecDepth 100000
open Go.RowKit
def headB (p : Pk) : Bool := inB p.src 0 65535 && inB p.dst 0 65535 && inB p.kind 1 7 && inB p.id 0 255 && inB p.hops 1 64
def offB (p : Pk) (len : Nat) : Bool := inB p.off 0 128 && (p.off % 4 == 0) && decide ((len : Int) ≤ 128 - p.off)
def moreB (p : Pk) (len : Nat) : Bool := !p.more || (!((len : Int) == 0) && ((len : Int) % 4 == 0))
def wholeB (p : Pk) : Bool := !p.whole || ((p.off == 0) && !p.more)
def okB (p : Pk) (len : Nat) : Bool := headB p && offB p len && moreB p len && wholeB p
def offS (p : Pk) (len : Nat) : Bool := inB p.off 0 128 && (p.off.tmod 4 == 0) && decide ((len : Int) ≤ wrap64 (128 - p.off))
def okS (p : Pk) (len : Nat) : Bool := headB p && offS p len && moreB p len && wholeB p
theorem offS_eq (p : Pk) (len : Nat) : offS p len = offB p len := by
 unfold offS offB
 by_cases h : inB p.off 0 128 = true
 ·have hb : 0 ≤ p.off ∧ p.off ≤ 128 := by simpa [inB] using h
  have e1 : p.off.tmod 4 = p.off % 4 := Int.tmod_eq_emod_of_nonneg hb.1
  have e2 : wrap64 (128 - p.off) = 128 - p.off := by unfold wrap64; omega
  rw [e1, e2]
 ·have h' : inB p.off 0 128 = false := by simpa using h
  simp [h']
theorem okS_eq (p : Pk) (len : Nat) : okS p len = okB p len := by
 unfold okS okB
 rw [offS_eq]
set_option maxHeartbeats 1600000 in
theorem specOk_any (p : Pk) (a : Option Addr) (len cap : Nat) (w : World) (_hl : len ≤ 1048576) :
  Calls Tryz.prog 21 #[p.val (.slice a len cap)] w fun e w' => e = .returned (.bool (okB p len)) ∧ Below w.heap.size w w' := by
 unfold Pk.val
 rw [← okS_eq]
 go_enter Tryz.func21, Tryz.ntmps21
 go_wp2_with (go_at_call 56; refine (l1In_any _ _ _ _).mono ?_; rintro e w' ⟨rfl, rfl⟩)
 all_goals
  go_ret
  refine ⟨ret_bool ?_, zBa _ _⟩
  first | (simp_all [okS, headB, offS, moreB, wholeB]; done) | (simp_all [okS, headB, offS, moreB, wholeB]; intros; omega)
end Go.Proofs.YtjbkgmbakjnlhaaGreatDoor
namespace Go.Proofs.YtjbkgmbakjnlhaaGreatDoor
set_option maxRecDepth 100000
abbrev PB := Pk × List Int
def endOf (x : PB) : Int := x.1.off + (x.2.length : Int)
def hasB (x : PB) (j : Int) : Bool := decide (x.1.off ≤ j) && decide (j < endOf x)
def byteAt (x : PB) (j : Int) : Int := x.2.getD (j - x.1.off).toNat 0
def alikeB (x y : PB) : Bool := okB x.1 x.2.length && okB y.1 y.2.length && (x.1.src == y.1.src) && (x.1.dst == y.1.dst) && (x.1.kind == y.1.kind) && (x.1.id == y.1.id)
def againstB (x y : PB) : Bool :=
 (List.range x.2.length).any (fun t => hasB y (x.1.off + t) && (byteAt x (x.1.off + t) != byteAt y (x.1.off + t))) ||
 (!x.1.more && (decide (endOf x < endOf y) || (!y.1.more && (endOf y != endOf x))))
def alikeL : List PB → Bool
 | [] => false
 | x :: r => decide (r.length + 1 ≤ 40) && (x :: r).all (alikeB x)
def disagreeL (L : List PB) : Bool := L.any fun x => L.any fun y => againstB x y
def endL (L : List PB) : Option Int := (L.find? fun x => !x.1.more).map endOf
def bytesL (L : List PB) : Nat → Option (List Int)
 | 0 => some []
 | n + 1 => match bytesL L n, L.find? (fun x => hasB x n) with
  | some bs, some x => some (bs ++ [byteAt x n])
  | _, _ => none
def headL : List PB → Pk
 | [] => zeroPk
 | x :: r => ⟨x.1.src, x.1.dst, x.1.kind, x.1.id, (x :: r).foldl (fun h y => if y.1.hops < h then y.1.hops else h) x.1.hops, (x :: r).any (fun y => y.1.whole), 0, false⟩
def joinL (L : List PB) : Int × PB :=
 if alikeL L = true then
  if disagreeL L = true then (2, (zeroPk, []))
  else match endL L with
   | none => (3, (zeroPk, []))
   | some e => match bytesL L e.toNat with
    | none => (3, (zeroPk, []))
    | some bs => (0, (headL L, bs))
 else (1, (zeroPk, []))
end Go.Proofs.YtjbkgmbakjnlhaaGreatDoor
namespace Go.Proofs.YtjbkgmbakjnlhaaGreatDoor
set_option maxRecDepth 100000
open Go.RowKit
structure RV where
 p : Pk
 a : Option Addr
 c : Nat
 zs : List Int
def RV.key (x : RV) : PB := (x.p, x.zs)
structure RElem (w : World) (g k : Nat) (y : RV) : Prop where
 e0 : w.cell? ⟨g, k * 9, none⟩ = some (.int .i64 y.p.src)
 e1 : w.cell? ⟨g, k * 9 + 1, none⟩ = some (.int .i64 y.p.dst)
 e2 : w.cell? ⟨g, k * 9 + 2, none⟩ = some (.int .i64 y.p.kind)
 e3 : w.cell? ⟨g, k * 9 + 3, none⟩ = some (.int .i64 y.p.id)
 e4 : w.cell? ⟨g, k * 9 + 4, none⟩ = some (.int .i64 y.p.hops)
 e5 : w.cell? ⟨g, k * 9 + 5, none⟩ = some (.bool y.p.whole)
 e6 : w.cell? ⟨g, k * 9 + 6, none⟩ = some (.int .i64 y.p.off)
 e7 : w.cell? ⟨g, k * 9 + 7, none⟩ = some (.bool y.p.more)
 e8 : w.cell? ⟨g, k * 9 + 8, none⟩ = some (.slice y.a y.zs.length y.c)
theorem RElem.upto {w w' : World} {B g k : Nat} {y : RV} (h : RElem w g k y) (hb : Below B w w') (hB : g < B) : RElem w' g k y :=
 have e : ∀ o, w'.cell? ⟨g, o, none⟩ = w.cell? ⟨g, o, none⟩ := fun o => hb.cell (p := ⟨g, o, none⟩) hB
 ⟨(e _).trans h.e0, (e _).trans h.e1, (e _).trans h.e2, (e _).trans h.e3, (e _).trans h.e4, (e _).trans h.e5, (e _).trans h.e6, (e _).trans h.e7, (e _).trans h.e8⟩
structure RHead (w : World) (g : Nat) (y : RV) : Prop where
 e0 : w.cell? ⟨g, 0, none⟩ = some (.int .i64 y.p.src)
 e1 : w.cell? ⟨g, 1, none⟩ = some (.int .i64 y.p.dst)
 e2 : w.cell? ⟨g, 2, none⟩ = some (.int .i64 y.p.kind)
 e3 : w.cell? ⟨g, 3, none⟩ = some (.int .i64 y.p.id)
 e4 : w.cell? ⟨g, 4, none⟩ = some (.int .i64 y.p.hops)
 e5 : w.cell? ⟨g, 5, none⟩ = some (.bool y.p.whole)
 e6 : w.cell? ⟨g, 6, none⟩ = some (.int .i64 y.p.off)
 e7 : w.cell? ⟨g, 7, none⟩ = some (.bool y.p.more)
 e8 : w.cell? ⟨g, 8, none⟩ = some (.slice y.a y.zs.length y.c)
theorem RElem.head {w : World} {g : Nat} {y : RV} (h : RElem w g 0 y) : RHead w g y := by
 obtain ⟨a, b, c, d, e, f, i, j, k⟩ := h
 simp only [Nat.zero_mul, Nat.zero_add] at a b c d e f i j k
 exact ⟨a, b, c, d, e, f, i, j, k⟩
structure ROk (w : World) (x : RV) : Prop where
 rd : RdB w x.a x.zs.length x.zs
 len : x.zs.length ≤ 1048576
 cap : x.zs.length ≤ x.c
 capM : x.c ≤ 9223372036854775807
 byte : ∀ z ∈ x.zs, 0 ≤ z ∧ z ≤ 255
theorem ROk.below {w w' : World} {x : RV} (h : ROk w x) (hb : Below w.heap.size w w') : ROk w' x := ⟨h.rd.below hb, h.len, h.cap, h.capM, h.byte⟩
structure RL (w : World) (g : Nat) (xs : List RV) : Prop where
 lt : g < w.heap.size
 elem : ∀ k x, xs[k]? = some x → RElem w g k x
 each : ∀ x ∈ xs, ROk w x
theorem RL.below {w w' : World} {g : Nat} {xs : List RV} (h : RL w g xs) (hb : Below w.heap.size w w') : RL w' g xs :=
 ⟨Nat.lt_of_lt_of_le h.lt hb.size, fun k x hx => (h.elem k x hx).upto hb h.lt, fun x hx => (h.each x hx).below hb⟩
theorem get_of_lt {α : Type} {xs : List α} {k : Nat} (h : k < xs.length) : ∃ x, xs[k]? = some x := ⟨_, List.getElem?_eq_getElem h⟩
theorem map_get {xs : List RV} {k : Nat} {x : RV} (h : xs[k]? = some x) : (xs.map RV.key)[k]? = some x.key := by
 rw [List.getElem?_map, h]; rfl
end Go.Proofs.YtjbkgmbakjnlhaaGreatDoor
namespace Go.Proofs.YtjbkgmbakjnlhaaGreatDoor
set_option maxRecDepth 100000
open Go.ChangeShapes Go.WideShapes Go.ChangeAt Go.RowKit
end Go.Proofs.YtjbkgmbakjnlhaaGreatDoor
namespace Go.Proofs.YtjbkgmbakjnlhaaGreatDoor
set_option maxRecDepth 100000
open Go.ChangeShapes Go.WideShapes Go.ChangeAt Go.RowKit
structure SV where
 a : Option Addr
 c : Nat
 xs : List RV
 since : Int
 bad : Bool
structure SElemO (w : World) (g off k : Nat) (y : SV) : Prop where
 e0 : w.cell? ⟨g, off + k * 3, none⟩ = some (.slice y.a y.xs.length y.c)
 e1 : w.cell? ⟨g, off + k * 3 + 1, none⟩ = some (.int .i64 y.since)
 e2 : w.cell? ⟨g, off + k * 3 + 2, none⟩ = some (.bool y.bad)
theorem SElemO.upto {w w' : World} {B g off k : Nat} {y : SV} (h : SElemO w g off k y) (hb : Below B w w') (hB : g < B) : SElemO w' g off k y :=
 have e : ∀ o, w'.cell? ⟨g, o, none⟩ = w.cell? ⟨g, o, none⟩ := fun o => hb.cell (p := ⟨g, o, none⟩) hB
 ⟨(e _).trans h.e0, (e _).trans h.e1, (e _).trans h.e2⟩
end Go.Proofs.YtjbkgmbakjnlhaaGreatDoor
namespace Go.Proofs.YtjbkgmbakjnlhaaGreatDoor
set_option maxRecDepth 100000
open Go.RowKit
end Go.Proofs.YtjbkgmbakjnlhaaGreatDoor
namespace Go.Proofs.YtjbkgmbakjnlhaaGreatDoor
set_option maxRecDepth 100000
open Go.RowKit
end Go.Proofs.YtjbkgmbakjnlhaaGreatDoor
namespace Go.Proofs.YtjbkgmbakjnlhaaGreatDoor
set_option maxRecDepth 100000
open Go.RowKit
structure LB (w : World) (lo gL n : Nat) (ys : List RV) : Prop where
 low : lo ≤ gL
 blk : ∃ cur : Array Value, w.heap[gL]? = some (.cells cur 29 (0, 0)) ∧ cur.size = n * 9 ∧ ∀ (i : Nat) y, ys[i]? = some y → ∀ j, j < 9 → cur[i * 9 + j]? = (pcells y.p (.slice y.a y.zs.length y.c))[j]?
 each : ∀ y ∈ ys, ∃ gy, y.a = some ⟨gy, 0, none⟩ ∧ y.c = y.zs.length ∧ lo ≤ gy ∧ w.heap[gy]? = some (.cells (cellsOf y.zs) 5 (0, 0)) ∧ y.zs.length ≤ 1048576 ∧ ∀ z ∈ y.zs, 0 ≤ z ∧ z ≤ 255
theorem set_at {w : World} {g o : Nat} {cur : Array Value} {t : TypeId} {v : Value} (h : w.heap[g]? = some (.cells cur t (0, 0))) : (w.setCell ⟨g, o, none⟩ v).heap[g]? = some (.cells (cur.setIfInBounds o v) t (0, 0)) := by
 rw [setCell_eq_setRow w g o _ _ _ _ h, setRow_heap _ _ _ _ _ _ h]
def put9 (cur : Array Value) (o : Nat) (x0 x1 x2 x3 x4 x5 x6 x7 x8 : Value) : Array Value := ((((((((cur.setIfInBounds o x0).setIfInBounds (o + 1) x1).setIfInBounds (o + 2) x2).setIfInBounds (o + 3) x3).setIfInBounds (o + 4) x4).setIfInBounds (o + 5) x5).setIfInBounds (o + 6) x6).setIfInBounds (o + 7) x7).setIfInBounds (o + 8) x8
theorem put9_size (cur : Array Value) (o : Nat) (x0 x1 x2 x3 x4 x5 x6 x7 x8 : Value) : (put9 cur o x0 x1 x2 x3 x4 x5 x6 x7 x8).size = cur.size := by simp [put9]
theorem put9_far {cur : Array Value} {o q : Nat} (x0 x1 x2 x3 x4 x5 x6 x7 x8 : Value) (h : q < o ∨ o + 9 ≤ q) : (put9 cur o x0 x1 x2 x3 x4 x5 x6 x7 x8)[q]? = cur[q]? := by
 unfold put9
 simp only [Array.getElem?_setIfInBounds]
 repeat rw [if_neg (by omega)]
theorem put9_at {cur : Array Value} {o j : Nat} (x0 x1 x2 x3 x4 x5 x6 x7 x8 : Value) (hs : o + 9 ≤ cur.size) (hj : j < 9) : (put9 cur o x0 x1 x2 x3 x4 x5 x6 x7 x8)[o + j]? = #[x0, x1, x2, x3, x4, x5, x6, x7, x8][j]? := by
 unfold put9
 simp only [Array.getElem?_setIfInBounds, Array.size_setIfInBounds]
 rcases (show j = 0 ∨ j = 1 ∨ j = 2 ∨ j = 3 ∨ j = 4 ∨ j = 5 ∨ j = 6 ∨ j = 7 ∨ j = 8 by omega) with rfl | rfl | rfl | rfl | rfl | rfl | rfl | rfl | rfl
 all_goals
  simp
  try omega
theorem heap_put9 {w : World} {g o : Nat} {cur : Array Value} {t : TypeId} (h : w.heap[g]? = some (.cells cur t (0, 0))) (x0 x1 x2 x3 x4 x5 x6 x7 x8 : Value) :
  (((((((((w.setCell ⟨g, o, none⟩ x0).setCell ⟨g, o + 1, none⟩ x1).setCell ⟨g, o + 2, none⟩ x2).setCell ⟨g, o + 3, none⟩ x3).setCell ⟨g, o + 4, none⟩ x4).setCell ⟨g, o + 5, none⟩ x5).setCell ⟨g, o + 6, none⟩ x6).setCell ⟨g, o + 7, none⟩ x7).setCell ⟨g, o + 8, none⟩ x8).heap[g]? = some (.cells (put9 cur o x0 x1 x2 x3 x4 x5 x6 x7 x8) t (0, 0)) :=
 set_at (set_at (set_at (set_at (set_at (set_at (set_at (set_at (set_at h))))))))
theorem heap_far9 (w : World) (g o k : Nat) (h : k ≠ g) (x0 x1 x2 x3 x4 x5 x6 x7 x8 : Value) :
  (((((((((w.setCell ⟨g, o, none⟩ x0).setCell ⟨g, o + 1, none⟩ x1).setCell ⟨g, o + 2, none⟩ x2).setCell ⟨g, o + 3, none⟩ x3).setCell ⟨g, o + 4, none⟩ x4).setCell ⟨g, o + 5, none⟩ x5).setCell ⟨g, o + 6, none⟩ x6).setCell ⟨g, o + 7, none⟩ x7).setCell ⟨g, o + 8, none⟩ x8).heap[k]? = w.heap[k]? :=
 ((zHs h).trans ((zHs h).trans ((zHs h).trans ((zHs h).trans ((zHs h).trans ((zHs h).trans ((zHs h).trans ((zHs h).trans (zHs h)))))))))
theorem below_far9 {B : Nat} {a w : World} {g o : Nat} (h : Below B a w) (hb : B ≤ g) (x0 x1 x2 x3 x4 x5 x6 x7 x8 : Value) :
  Below B a (((((((((w.setCell ⟨g, o, none⟩ x0).setCell ⟨g, o + 1, none⟩ x1).setCell ⟨g, o + 2, none⟩ x2).setCell ⟨g, o + 3, none⟩ x3).setCell ⟨g, o + 4, none⟩ x4).setCell ⟨g, o + 5, none⟩ x5).setCell ⟨g, o + 6, none⟩ x6).setCell ⟨g, o + 7, none⟩ x7).setCell ⟨g, o + 8, none⟩ x8) :=
 (Below.setCell (Below.setCell (Below.setCell (Below.setCell (Below.setCell (Below.setCell (Below.setCell (Below.setCell (Below.setCell h hb _) hb _) hb _) hb _) hb _) hb _) hb _) hb _) hb _)
theorem Tryz.info9 : (Tryz.prog.info? 29).map (fun i => (i.zero, i.size, i.bytes)) = some (some (.agg #[.int .i64 0, .int .i64 0, .int .i64 0, .int .i64 0, .int .i64 0, .bool false, .int .i64 0, .bool false, .slice none 0 0]), 9, 88) := by kernel_rfl
theorem cells_there {cur : Array Value} {o : Nat} (h : o < cur.size) : ∃ v, cur[o]? = some v := ⟨_, Array.getElem?_eq_getElem h⟩
end Go.Proofs.YtjbkgmbakjnlhaaGreatDoor
namespace Go.Proofs.YtjbkgmbakjnlhaaGreatDoor
set_option maxRecDepth 100000
open Go.RowKit
def SV.key (s : SV) : List PB × Int × Bool := (s.xs.map RV.key, s.since, s.bad)
def scells (v : Value) (since : Int) (bad : Bool) : Array Value := #[v, .int .i64 since, .bool bad]
theorem heap_far3 (w : World) (g o k : Nat) (h : k ≠ g) (x0 x1 x2 : Value) : (((w.setCell ⟨g, o, none⟩ x0).setCell ⟨g, o + 1, none⟩ x1).setCell ⟨g, o + 2, none⟩ x2).heap[k]? = w.heap[k]? :=
 ((zHs h).trans ((zHs h).trans (zHs h)))
theorem below_far3 {B : Nat} {a w : World} {g o : Nat} (h : Below B a w) (hb : B ≤ g) (x0 x1 x2 : Value) : Below B a (((w.setCell ⟨g, o, none⟩ x0).setCell ⟨g, o + 1, none⟩ x1).setCell ⟨g, o + 2, none⟩ x2) :=
 (Below.setCell (Below.setCell (Below.setCell h hb _) hb _) hb _)
def put3 (cur : Array Value) (o : Nat) (x0 x1 x2 : Value) : Array Value := ((cur.setIfInBounds o x0).setIfInBounds (o + 1) x1).setIfInBounds (o + 2) x2
theorem put3_size (cur : Array Value) (o : Nat) (x0 x1 x2 : Value) : (put3 cur o x0 x1 x2).size = cur.size := by simp [put3]
theorem put3_far {cur : Array Value} {o q : Nat} (x0 x1 x2 : Value) (h : q < o ∨ o + 3 ≤ q) : (put3 cur o x0 x1 x2)[q]? = cur[q]? := by
 unfold put3
 simp only [Array.getElem?_setIfInBounds]
 repeat rw [if_neg (by omega)]
theorem put3_at {cur : Array Value} {o j : Nat} (x0 x1 x2 : Value) (hs : o + 3 ≤ cur.size) (hj : j < 3) : (put3 cur o x0 x1 x2)[o + j]? = #[x0, x1, x2][j]? := by
 unfold put3
 simp only [Array.getElem?_setIfInBounds, Array.size_setIfInBounds]
 rcases (show j = 0 ∨ j = 1 ∨ j = 2 by omega) with rfl | rfl | rfl
 all_goals
  simp
  try omega
theorem heap_put3 {w : World} {g o : Nat} {cur : Array Value} {t : TypeId} (h : w.heap[g]? = some (.cells cur t (0, 0))) (x0 x1 x2 : Value) :
  (((w.setCell ⟨g, o, none⟩ x0).setCell ⟨g, o + 1, none⟩ x1).setCell ⟨g, o + 2, none⟩ x2).heap[g]? = some (.cells (put3 cur o x0 x1 x2) t (0, 0)) :=
 set_at (set_at (set_at h))
theorem Tryz.infoSlot : (Tryz.prog.info? 39).map (fun i => (i.zero, i.size, i.bytes)) = some (some (.agg #[.slice none 0 0, .int .i64 0, .bool false]), 3, 40) := by kernel_rfl
end Go.Proofs.YtjbkgmbakjnlhaaGreatDoor
namespace Go.Proofs.YtjbkgmbakjnlhaaGreatDoor
set_option maxRecDepth 100000
open Go.RowKit
end Go.Proofs.YtjbkgmbakjnlhaaGreatDoor
namespace Go.Proofs.YtjbkgmbakjnlhaaGreatDoor
set_option maxRecDepth 100000
open Go.RowKit
structure SElem (w : World) (g k : Nat) (y : SV) : Prop where
 e0 : w.cell? ⟨g, k * 3, none⟩ = some (.slice y.a y.xs.length y.c)
 e1 : w.cell? ⟨g, k * 3 + 1, none⟩ = some (.int .i64 y.since)
 e2 : w.cell? ⟨g, k * 3 + 2, none⟩ = some (.bool y.bad)
theorem SElem.upto {w w' : World} {B g k : Nat} {y : SV} (h : SElem w g k y) (hb : Below B w w') (hB : g < B) : SElem w' g k y :=
 have e : ∀ o, w'.cell? ⟨g, o, none⟩ = w.cell? ⟨g, o, none⟩ := fun o => hb.cell (p := ⟨g, o, none⟩) hB
 ⟨(e _).trans h.e0, (e _).trans h.e1, (e _).trans h.e2⟩
structure SOk (w : World) (x : SV) : Prop where
 at_ : ∃ gL, x.a = some ⟨gL, 0, none⟩ ∧ RL w gL x.xs
 len : x.xs.length ≤ 1048576
 cap : x.xs.length ≤ x.c
 capM : x.c ≤ 9223372036854775807
theorem SOk.below {w w' : World} {x : SV} (h : SOk w x) (hb : Below w.heap.size w w') : SOk w' x := by
 obtain ⟨gL, h1, h2⟩ := h.at_
 exact ⟨⟨gL, h1, h2.below hb⟩, h.len, h.cap, h.capM⟩
structure SL (w : World) (g : Nat) (ss : List SV) : Prop where
 lt : g < w.heap.size
 elem : ∀ k x, ss[k]? = some x → SElem w g k x
 each : ∀ x ∈ ss, SOk w x
theorem SL.below {w w' : World} {g : Nat} {xs : List SV} (h : SL w g xs) (hb : Below w.heap.size w w') : SL w' g xs :=
 ⟨Nat.lt_of_lt_of_le h.lt hb.size, fun k x hx => (h.elem k x hx).upto hb h.lt, fun x hx => (h.each x hx).below hb⟩
end Go.Proofs.YtjbkgmbakjnlhaaGreatDoor
