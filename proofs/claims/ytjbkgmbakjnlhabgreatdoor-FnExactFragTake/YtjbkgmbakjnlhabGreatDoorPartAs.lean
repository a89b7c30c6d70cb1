/- Whether a piece waits already: the list. -/
import Derived.Test.YtjbkgmbakjnlhabGreatDoorHas
import Derived.Test.YtjbkgmbakjnlhabGreatDoorPartAf
import Derived.Test.YtjbkgmbakjnlhabGreatDoorPartAh
namespace Go.Proofs.YtjbkgmbakjnlhabGreatDoor
set_option maxRecDepth 100000
open Go.RowKit

theorem Boxed.keptB {w w' : World} {b B : Nat} {p : Pk} {v : Value} (h : Boxed w b p v) (hb : Below B w w') (hB : b < B) : Boxed w' b p v := by
  have e : ∀ o, w'.cell? ⟨b, o, none⟩ = w.cell? ⟨b, o, none⟩ := fun o => hb.cell (p := ⟨b, o, none⟩) hB
  exact ⟨Nat.lt_of_lt_of_le h.lt hb.size, (e 0).trans h.c0, (e 1).trans h.c1, (e 2).trans h.c2, (e 3).trans h.c3, (e 4).trans h.c4, (e 5).trans h.c5, (e 6).trans h.c6, (e 7).trans h.c7, (e 8).trans h.c8⟩

set_option maxRecDepth 100000 in
set_option maxHeartbeats 3200000 in
theorem indexP_any (gL c pb lo lo' : Nat) (x : RV) (ys : List RV) (w : World) (hR : RL w gL ys) (hD : ∀ y ∈ ys, DataB w lo' y) (hB : Boxed w pb x.p (.slice x.a x.zs.length x.c)) (hx : DataB w lo x) (hl : ys.length ≤ 1048576) :
    Calls Tryz.prog 116 #[.slice (some ⟨gL, 0, none⟩) ys.length c, .func (.func 104) #[] #[.pointer (some ⟨pb, 0, none⟩)]] w fun e w' => (∃ r : Int, e = .returned (.int .i64 r) ∧ -1 ≤ r ∧ (0 ≤ r ↔ x.key ∈ ys.map RV.key)) ∧ Below w.heap.size w w' := by
  have HR : Hid (RL w gL ys) := hR
  have HD : Hid (∀ y ∈ ys, DataB w lo' y) := hD
  have HB0 : Hid (Boxed w pb x.p (.slice x.a x.zs.length x.c)) := hB
  have HX : Hid (DataB w lo x) := hx
  clear hR hD hB hx
  go_enter Tryz.func116, Tryz.ntmps116
  go_wp2
  go_loopw [8] (fun i wr => ∃ j : Nat, j ≤ ys.length ∧ i = .int .i64 j ∧ Hid (∀ i y, i < j → ys[i]? = some y → x.key ≠ y.key) ∧ Hid (Below w.heap.size w wr)) (fun i _ => ys.length - (intOf i).toNat)
  case atStart => exact ⟨0, by omega, rfl, fun i y h => absurd h (Nat.not_lt_zero _), Below.refl _ _⟩
  case round =>
    obtain ⟨j, hj, rfl, HN, HB⟩ := hrel
    have hsz := HB.out.size
    by_cases hlt : j < ys.length
    · have hi : (j : Int) < (ys.length : Int) := by omega
      obtain ⟨y, hy⟩ := get_of_lt hlt
      have Rr := HR.out.below HB.out
      obtain ⟨c0, c1, c2, c3, c4, c5, c6, c7, c8⟩ := Rr.elem j y hy
      have lg := Rr.lt
      have KC : Hid (∀ W : World, Below w.heap.size w W → Calls Tryz.prog 104 #[.agg #[.int .i64 y.p.src, .int .i64 y.p.dst, .int .i64 y.p.kind, .int .i64 y.p.id, .int .i64 y.p.hops, .bool y.p.whole, .int .i64 y.p.off, .bool y.p.more, .slice y.a y.zs.length y.c], .pointer (some ⟨pb, 0, none⟩)] W fun e w' => e = .returned (.bool (sameB x.key y.key)) ∧ Below W.heap.size W w') := fun W h => has1_any x y pb lo lo' W (HB0.out.below h) (HX.out.below h) ((HD.out y (List.mem_of_getElem? hy)).below h)
      have HY : Hid (ys[j]? = some y) := hy
      clear hy Rr
      cases hs : sameB x.key y.key
      · rw [hs] at KC
        have HS : Hid (x.key ≠ y.key) := fun e => by rw [(sameB_iff _ _).2 e] at hs; cases hs
        clear hs
        go_wp2_with fail
        refine (KC.out _ HB.out).mono ?_
        rintro e w1 ⟨rfl, b1⟩
        have B1 : Hid (Below w.heap.size w w1) := HB.out.trans (b1.mono hsz)
        clear b1
        go_wp2
        go_roundw
        case rel =>
          refine ⟨j + 1, by omega, by go_num, fun i z hi hz => ?_, B1.out⟩
          by_cases e : i = j
          · subst e
            rw [HY.out] at hz
            cases hz
            exact HS.out
          · exact HN.out i z (by omega) hz
        case measure => simp [intOf]; omega
      · rw [hs] at KC
        have HS : Hid (x.key = y.key) := (sameB_iff _ _).1 hs
        clear hs
        go_wp2_with fail
        refine (KC.out _ HB.out).mono ?_
        rintro e w1 ⟨rfl, b1⟩
        have B1 : Hid (Below w.heap.size w w1) := HB.out.trans (b1.mono hsz)
        clear b1
        go_wp2
        go_ret
        exact ⟨⟨_, rfl, by omega, fun _ => List.mem_map.2 ⟨y, List.mem_of_getElem? HY.out, HS.out.symm⟩, fun _ => by omega⟩, B1.out⟩
    · obtain rfl : j = ys.length := by omega
      go_wp2
      go_ret
      refine ⟨⟨-1, rfl, by omega, fun h => by omega, fun h => ?_⟩, HB.out⟩
      obtain ⟨y, hy, e⟩ := List.mem_map.1 h
      obtain ⟨i, hi⟩ := List.getElem?_of_mem hy
      exact absurd e.symm (HN.out i y ((List.getElem?_eq_some_iff.1 hi).1) hi)
set_option maxHeartbeats 800000 in
theorem contains_any (gL c pb lo lo' : Nat) (x : RV) (ys : List RV) (w : World) (hR : RL w gL ys) (hD : ∀ y ∈ ys, DataB w lo' y) (hB : Boxed w pb x.p (.slice x.a x.zs.length x.c)) (hx : DataB w lo x) (hl : ys.length ≤ 1048576) :
    Calls Tryz.prog 103 #[.slice (some ⟨gL, 0, none⟩) ys.length c, .func (.func 104) #[] #[.pointer (some ⟨pb, 0, none⟩)]] w fun e w' => ∃ b : Bool, e = .returned (.bool b) ∧ (b = true ↔ x.key ∈ ys.map RV.key) ∧ Below w.heap.size w w' := by
  have KI := indexP_any gL c pb lo lo' x ys w hR hD hB hx hl
  clear hR hD hB hx
  go_enter Tryz.func103, Tryz.ntmps103
  go_wp2_with fail
  refine KI.mono ?_
  rintro e w1 ⟨⟨r, rfl, h1, h2⟩, b1⟩
  have H2 : Hid (0 ≤ r ↔ x.key ∈ ys.map RV.key) := h2
  clear h2 KI
  go_wp2
  go_ret
  exact ⟨_, rfl, by rw [decide_eq_true_eq]; exact H2.out, b1⟩
/-- a slot in a box -/
def SlotIn (w : World) (sb : Nat) (s : SV) : Prop := w.cell? ⟨sb, 0, none⟩ = some (.slice s.a s.xs.length s.c) ∧ w.cell? ⟨sb, 1, none⟩ = some (.int .i64 s.since) ∧ w.cell? ⟨sb, 2, none⟩ = some (.bool s.bad)

set_option maxHeartbeats 800000 in
theorem hasPiece_any (sb lo lo' : Nat) (s : SV) (x : RV) (w : World) (hS : SlotB w lo' s) (hc : w.cell? ⟨sb, 0, none⟩ = some (.slice s.a s.xs.length s.c)) (hx : DataB w lo x) :
    Calls Tryz.prog 82 #[.pointer (some ⟨sb, 0, none⟩), x.p.val (.slice x.a x.zs.length x.c)] w fun e w' => ∃ b : Bool, e = .returned (.bool b) ∧ (b = true ↔ x.key ∈ s.xs.map RV.key) ∧ Below w.heap.size w w' := by
  obtain ⟨gL, ha, hR⟩ := hS.rl
  have hl := World.block_lt_of_cell? w _ hc
  rw [ha] at hc
  have KC : Hid (∀ W : World, Below w.heap.size w W → Boxed W w.heap.size x.p (.slice x.a x.zs.length x.c) → Calls Tryz.prog 103 #[.slice (some ⟨gL, 0, none⟩) s.xs.length s.c, .func (.func 104) #[] #[.pointer (some ⟨w.heap.size, 0, none⟩)]] W fun e w' => ∃ b : Bool, e = .returned (.bool b) ∧ (b = true ↔ x.key ∈ s.xs.map RV.key) ∧ Below W.heap.size W w') := fun W h hb => contains_any gL s.c w.heap.size lo lo' x s.xs W (hR.below h) (fun y hy => (hS.each y hy).below h) hb (hx.below h) hS.len
  clear hS hR hx ha
  unfold Pk.val
  go_enter Tryz.func82, Tryz.ntmps82
  go_wp2_with fail
  refine (KC.out _ (Joins.below_alloc1 _ _) (Boxed.new w x.p _ _)).mono ?_
  rintro e w1 ⟨b, rfl, h1, b1⟩
  have H1 : Hid (b = true ↔ x.key ∈ s.xs.map RV.key) := h1
  have B1 : Hid (Below w.heap.size w w1) := (Joins.below_alloc1 _ _).trans (b1.mono (by simp))
  clear h1 b1 KC
  go_wp2
  go_ret
  exact ⟨b, rfl, H1.out, B1.out⟩
end Go.Proofs.YtjbkgmbakjnlhabGreatDoor

/- Regions that draw their order and end with a store into what they have read: what is read may be taken first, though the last operation writes it. -/
namespace Go.Proofs.YtjbkgmbakjnlhabGreatDoor
set_option maxRecDepth 100000
open Go.RowKit

section late
variable {P : Program} {ops : Array Oper} {Q : Exit → Act → World → Prop} {md : Region.Mode} {S : World → Prop}
/-- one operation waits for another -/
def waitsOn (md : Region.Mode) (ops : Array Oper) (j i : Nat) : Bool := (ops[j]?).any fun o => o.after.any fun e => Region.binds md e && e.on == i
/-- of every other operation it is known which of the two comes first -/
def lateB (md : Region.Mode) (ops : Array Oper) (j : Nat) : Bool := (List.range ops.size).all fun i => i == j || waitsOn md ops j i || waitsOn md ops i j
theorem waits_listed {l : Array Bool} {i j : Nat} (hj : j ∈ Region.ready md ops l) (hw : waitsOn md ops j i = true) : l.getD i false = true := by
  obtain ⟨_, o, ho, h⟩ := mem_ready.1 hj
  unfold waitsOn at hw
  rw [ho] at hw
  simp only [Option.any_some, Array.any_eq_true] at hw
  obtain ⟨k, hk, hb⟩ := hw
  rw [Bool.and_eq_true, beq_iff_eq] at hb
  rw [← hb.2]
  exact h _ (Array.getElem_mem hk) hb.1
theorem ready_open {l : Array Bool} {i : Nat} (hi : i ∈ Region.ready md ops l) : l.getD i false = false := by
  have h := (mem_ready.1 hi).1
  rw [Array.getD_eq_getD_getElem?] at h ⊢
  cases hl : l[i]? with
  | none => rfl
  | some b =>
    rw [hl] at h
    exact h
theorem late_alone {l : Array Bool} {i j : Nat} (hi : i ∈ Region.ready md ops l) (hj : j ∈ Region.ready md ops l) (hne : j ≠ i) : lateB md ops j = false := by
  cases h : lateB md ops j with
  | false => rfl
  | true =>
    exfalso
    obtain ⟨_, o, ho, _⟩ := mem_ready.1 hi
    have hlt : i < ops.size := (Array.getElem?_eq_some_iff.1 ho).1
    have hk := List.all_eq_true.1 h i (List.mem_range.2 hlt)
    simp only [Bool.or_eq_true, beq_iff_eq] at hk
    rcases hk with (e | e) | e
    · exact hne e.symm
    · have := waits_listed hj e
      rw [ready_open hi] at this
      cases this
    · have := waits_listed hi e
      rw [ready_open hj] at this
      cases this
/-- whatever order is picked, S holds behind each operation but a last one -/
def wpAnyL (P : Program) (md : Region.Mode) (ops : Array Oper) (Q : Exit → Act → World → Prop) (S : World → Prop) : Nat → Array Bool → Act → World → Prop
  | 0, l, a, w => Region.ready md ops l = [] ∧ Q .normal a w
  | f + 1, l, a, w => (Region.ready md ops l = [] → Q .normal a w) ∧ ∀ i ∈ Region.ready md ops l, wpOp P ops Q i (fun a' w' => (lateB md ops i = true ∨ S w') ∧ wpAnyL P md ops Q S f (l.setIfInBounds i true) a' w') a w
theorem wpAny_of_late : ∀ (f : Nat) (l : Array Bool) (a : Act) (w : World), wpAnyL P md ops Q S f l a w → wpAny P md ops Q f l a w
  | 0, _, _, _, h => h
  | f + 1, _, _, _, h => ⟨h.1, fun i hi => wpOp_mono (fun a' w' h' => wpAny_of_late f _ a' w' h'.2) (h.2 i hi)⟩
theorem late_first {i : Nat} {oi : Oper} {v : Value} (hi : ops[i]? = some oi) (hsel : ∀ (j : Nat) (o : Oper) cs b, ops[j]? = some o → o.op ≠ .select cs b) (hQ : ∀ c a w, Q (.panic c) (a.put oi.dst v) w → Q (.panic c) a w) :
    ∀ (f : Nat) (l : Array Bool) (a : Act) (w : World), (∀ j oj, ops[j]? = some oj → j ≠ i → l.getD j true = false → (∀ e ∈ oj.after, Region.binds md e = true → e.on ≠ i) → oi.apart ops oj = true) →
      i ∈ Region.ready md ops l → YieldsIf P ops S oi v a → S w → wpAnyL P md ops Q S f (l.setIfInBounds i true) (a.put oi.dst v) w → wpAnyL P md ops Q S (f + 1) l a w
  | 0, l, a, w, _, hr, hy, hS, H => by
    refine ⟨fun h => (by rw [h] at hr; cases hr), fun j hj => ?_⟩
    rcases Nat.decEq j i with hne | he
    · have := ready_mono hj hne
      rw [H.1] at this
      cases this
    · subst he
      exact hy.wpOp hi hS ⟨Or.inr hS, H⟩
  | f + 1, l, a, w, hfree, hr, hy, hS, H => by
    refine ⟨fun h => (by rw [h] at hr; cases hr), fun j hj => ?_⟩
    rcases Nat.decEq j i with hne | he
    · obtain ⟨hun, oj, hoj, hall⟩ := mem_ready.1 hj
      have hnl := late_alone hr hj hne
      have hno : ∀ e ∈ oj.after, Region.binds md e = true → e.on ≠ i := fun e he hb heq => by
        have h1 := hall e he hb
        rw [heq, ready_open hr] at h1
        cases h1
      have h2 := wpOp_putIf hoj (hfree j oj hoj hne hun hno) (fun cs b => hsel i oi cs b hi) (fun cs b => hsel j oj cs b hoj) hQ hy (H.2 j (ready_mono hj hne))
      refine wpOp_mono (fun a' w' h3 => ?_) h2
      have hS' : S w' := h3.2.1.resolve_left (by rw [hnl]; decide)
      refine ⟨Or.inr hS', late_first hi hsel hQ f (l.setIfInBounds j true) a' w' (fun k ok hk hki hu hn => hfree k ok hk hki ?_ hn) (ready_mono hr (Ne.symm hne)) h3.1 hS' ?_⟩
      · rcases Nat.decEq j k with hjk | hjk
        · rw [getD_set_ne true hjk] at hu
          exact hu
        · rw [← hjk]
          exact hun
      · rw [Array.setIfInBounds_comm _ _ hne]
        exact h3.2.2
    · subst he
      exact hy.wpOp hi hS ⟨Or.inr hS, H⟩
theorem late_take {f : Nat} {l : Array Bool} {a : Act} {w : World} {oi : Oper} (i : Nat) (d : Option Tmp) (v : Value) (hi : ops[i]? = some oi) (hd : oi.dst = d)
    (hs : Region.noSelect ops = true) (hf : Region.free md ops l i = true) (hr : (Region.ready md ops l).contains i = true)
    (hQ : ∀ c a w, Q (.panic c) (a.put d v) w → Q (.panic c) a w) (hw : Region.wanted oi (yielded ops a.tmps) = true) (hy : ∀ w, S w → (execOp a.eval oi).run P w = .ok (.value v) w) (hS : S w)
    (h : wpAnyL P md ops Q S f (l.setIfInBounds i true) (a.put d v) w) : wpAnyL P md ops Q S (f + 1) l a w := by
  subst hd
  exact late_first hi (Region.noSelect_spec hs) hQ f l a w (Region.free_spec hi hf) (by simpa using hr) (Or.inl ⟨hw, hy⟩) hS h
/-- the one operation that may come up -/
theorem late_one {f : Nat} {l : Array Bool} {a : Act} {w : World} {i : Nat} {o : Oper} (hr : Region.ready md ops l = [i]) (ho : ops[i]? = some o)
    (h : ∀ K' : Act → World → Prop, Shut (∀ a w, (lateB md ops i = true ∨ S w) → ((lateB md ops i = true ∨ S w) → wpAnyL P md ops Q S f (l.setIfInBounds i true) a w) → K' a w) → if Region.wanted o (yielded ops a.tmps) = true then Oper.wp P o a w K' Q else K' (a.put o.dst undef) w) : wpAnyL P md ops Q S (f + 1) l a w := by
  refine ⟨(fun e => by rw [hr] at e; cases e), fun j hj => ?_⟩
  rw [hr] at hj
  obtain rfl := List.mem_singleton.1 hj
  exact wpOp_step ho (fun K' hK => h K' (fun a w hS hW => hK a w ⟨hS, hW hS⟩))
theorem late_done {l : Array Bool} {a : Act} {w : World} (hr : Region.ready md ops l = []) (h : Q .normal a w) : ∀ f, wpAnyL P md ops Q S f l a w
  | 0 => ⟨hr, h⟩
  | _ + 1 => ⟨fun _ => h, by rw [hr]; simp⟩
theorem wp_region_late {id : Nat} {a : Act} {w : World} (hm : P.follows .mixedOrders = true) (hS : S w.drew)
    (h : S w.drew → wpAnyL P .any ops Q S ops.size (Array.replicate ops.size false) a w.drew) : (Code.region id ops true).wp P Q a w :=
  wp_region_any hm (wpAny_of_late _ _ _ _ (h hS))
end late
end Go.Proofs.YtjbkgmbakjnlhabGreatDoor

/- The specification's l1Copy of whatever packet, and l4Pieces. -/
namespace Go.Proofs.YtjbkgmbakjnlhabGreatDoor
set_option maxRecDepth 100000
open Go.RowKit

theorem append_none (g cap : Nat) (ty : TypeId) (W : World) : (Builtin.append_ #[25, 25] ty #[.slice (some ⟨g, 0, none⟩) 0 0, .slice none 0 cap]).run Tryz.prog W = .ok (.slice (some ⟨g, 0, none⟩) 0 0) W := by
  obtain ⟨i0, hi, hz0, hz1, hz2⟩ := info_parts Tryz.info5
  simp [Builtin.append_, run_underlying Tryz.underlying25, sizeOf, typeInfo, hi, Builtin.lenOf, Builtin.firstCells, storeCells]
set_option maxHeartbeats 1600000 in
theorem l1Copy_nil (p : Pk) (cap : Nat) (w : World) :
    Calls Tryz.prog 24 #[p.val (.slice none 0 cap)] w fun e w' => e = .returned (p.val (.slice (some ⟨w.heap.size + 2, 0, none⟩) 0 0)) ∧ w'.heap[w.heap.size + 2]? = some (.cells #[] 5 (0, 0)) ∧ Below w.heap.size w w' := by
  unfold Pk.val
  have ha := fun ty W => append_none (w.heap.size + 2) cap ty W
  go_enter Tryz.func24, Tryz.ntmps24
  go_wp2
  refine bodyPost_ret (v := .agg #[.int .i64 p.src, .int .i64 p.dst, .int .i64 p.kind, .int .i64 p.id, .int .i64 p.hops, .bool p.whole, .int .i64 p.off, .bool p.more, .slice (some ⟨w.heap.size + 2, 0, none⟩) 0 0]) (by simp [results, Tryz.results24, go_sem]) rfl ⟨rfl, heap_new _ _ _ (by simp), ?_⟩
  exact Joins.below_alloc3 _ _ _ _
theorem l1Copy_rv (y : RV) (w : World) (h : ROk w y) :
    Calls Tryz.prog 24 #[y.val] w fun e w' => ∃ z : RV, e = .returned z.val ∧ z.key = y.key ∧ DataB w' w.heap.size z ∧ Below w.heap.size w w' := by
  obtain ⟨p, a, c, zs⟩ := y
  cases a with
  | none =>
    have h0 : zs.length = 0 := by
      rcases h.rd.2 with e | ⟨g, o, e, _⟩
      · exact e
      · cases e
    have hz : zs = [] := List.eq_nil_of_length_eq_zero h0
    subst hz
    exact (l1Copy_nil p c w).mono fun e w' ⟨h1, h2, h3⟩ => ⟨⟨p, some ⟨w.heap.size + 2, 0, none⟩, 0, []⟩, h1, rfl, ⟨Or.inr ⟨w.heap.size + 2, rfl, by omega, ⟨#[], h2, rfl⟩, by simp, Nat.zero_le _⟩, by simp, fun z hz => by cases hz⟩, h3⟩
  | some ad =>
    refine (l1Copy_any p ad zs.length c zs w h.rd h.len).mono fun e w' ⟨g, c', h1, h2, h3⟩ => ⟨⟨p, some ⟨g, 0, none⟩, c', zs⟩, h1, rfl, ⟨Or.inr ⟨g, rfl, (own_lt h2 g rfl).1, RowB.of_own h2, ?_⟩, h.len, h.byte⟩, h3⟩
    exact own_caps h2
/-- pieces in new memory -/
structure POut (w : World) (lo g c : Nat) (ys : List RV) : Prop where
  own : w.ownsRow lo 33 9 (.slice (some ⟨g, 0, none⟩) ys.length c) ys.length (ys.flatMap RV.cells)
  each : ∀ y ∈ ys, DataB w lo y
  nd : (ys.flatMap RV.blk).Nodup
theorem POut.below {w w' : World} {lo g c : Nat} {ys : List RV} (h : POut w lo g c ys) (hb : Below w.heap.size w w') : POut w' lo g c ys := ⟨own_below h.own hb, fun y hy => (h.each y hy).below hb, h.nd⟩
theorem POut.le {w : World} {lo lo' g c : Nat} {ys : List RV} (h : POut w lo g c ys) (hl : lo' ≤ lo) : POut w lo' g c ys := ⟨Joins.ownsRow_le h.own hl, fun y hy => (h.each y hy).le hl, h.nd⟩
theorem own_at {w : World} {lo e size n : Nat} {v : Value} {xs : List Value} (h : w.ownsRow lo e size v n xs) : ∀ k, v.ownBlock = some k → ∃ cur, w.heap[k]? = some (.cells cur e (0, 0)) := by
  intro k hk
  rcases h.2 with ⟨hv, _⟩ | ⟨g, cap, cur, hv, _, hh, _⟩
  · rw [hv] at hk; cases hk
  · rw [hv] at hk
    cases hk
    exact ⟨cur, hh⟩
theorem POut.slot {w : World} {lo g c : Nat} {ys : List RV} (h : POut w lo g c ys) (hl : ys.length ≤ 1048576) (since : Int) (bad : Bool) : SlotB w lo ⟨some ⟨g, 0, none⟩, c, ys, since, bad⟩ ∧ (SV.blks ⟨some ⟨g, 0, none⟩, c, ys, since, bad⟩).Nodup := by
  have hc := own_caps h.own
  refine ⟨⟨⟨g, rfl, (own_lt h.own g rfl).1, RowB.of_own h.own⟩, h.each, hl, hc.1, hc.2⟩, ?_⟩
  show ((some g).toList ++ ys.flatMap RV.blk).Nodup
  simp only [Option.toList_some, List.singleton_append, List.nodup_cons]
  refine ⟨fun hm => ?_, h.nd⟩
  obtain ⟨y, hy, hb⟩ := List.mem_flatMap.1 hm
  obtain ⟨_, _, cu, hcu⟩ := (h.each y hy).blk _ hb
  obtain ⟨cu', hcu'⟩ := own_at h.own g rfl
  rw [hcu] at hcu'
  cases hcu'
theorem rcells_one (y : RV) : ∀ u ∈ y.cells, u.oneCell' = true := by
  intro u hu
  simp [RV.cells, pcells] at hu
  rcases hu with rfl | rfl | rfl | rfl | rfl | rfl | rfl | rfl | rfl <;> rfl
theorem rcells_new (w : World) (y : RV) : ∀ j u, y.cells[j]? = some u → (w.alloc (.cells (pcells y.p (.slice y.a y.zs.length y.c)) 33)).cell? ((Addr.mk w.heap.size 0 none).add j) = some u := by
  intro j u hu
  rw [add_none, Nat.zero_add, cell_of_row _ _ _ _ _ _ (heap_new _ _ _ rfl), ← Array.getElem?_toList]
  exact hu
theorem POut.nil (w : World) (n base : Nat) (h : n = w.heap.size) (hb : base ≤ n) : POut (w.alloc (.cells #[] 33)) base n 0 [] :=
  ⟨⟨rfl, Or.inr ⟨n, 0, #[], rfl, hb, heap_new _ _ _ h, Nat.le_refl _, by unfold maxLen; omega, rfl, rfl⟩⟩, (fun y hy => by cases hy), List.nodup_nil⟩

set_option maxRecDepth 100000 in
set_option maxHeartbeats 3200000 in
theorem l4Pieces_any (gx cx : Nat) (xs : List RV) (w : World) (hR : RL w gx xs) (hl : xs.length ≤ 1048576) :
    Calls Tryz.prog 44 #[.slice (some ⟨gx, 0, none⟩) xs.length cx] w fun e w' => ∃ g c ys, e = .returned (.slice (some ⟨g, 0, none⟩) xs.length c) ∧ POut w' w.heap.size g c ys ∧ ys.map RV.key = xs.map RV.key ∧ Below w.heap.size w w' := by
  obtain ⟨ti, hti, hy0, hy1, hy2⟩ := info_parts Tryz.info9
  have HL : Hid (RL w gx xs) := hR
  have P0 : Hid (POut (w.alloc (.cells #[] 33)) w.heap.size w.heap.size 0 []) := POut.nil w _ _ rfl (Nat.le_refl _)
  clear hR
  go_enter Tryz.func44, Tryz.ntmps44
  go_wp2
  go_loopw [3, 4] (fun v i wr => ∃ (k g c : Nat) (ys : List RV), k ≤ xs.length ∧ i = .int .i64 k ∧ v = .slice (some ⟨g, 0, none⟩) k c ∧ Hid (ys.length = k) ∧ Hid (POut wr w.heap.size g c ys) ∧ Hid (ys.map RV.key = (xs.take k).map RV.key) ∧ Hid (Below w.heap.size w wr)) (fun _ i _ => xs.length - (intOf i).toNat)
  case atStart => exact ⟨0, w.heap.size, 0, [], by omega, rfl, rfl, rfl, P0.out, rfl, Joins.below_alloc1 _ _⟩
  case round =>
    obtain ⟨k, g, c, ys, hk, rfl, rfl, HY, HP, HK, HW⟩ := hrel
    have hsz := HW.out.size
    by_cases hlt : k < xs.length
    · obtain ⟨x, hx⟩ := get_of_lt hlt
      have hi : (k : Int) < (xs.length : Int) := by omega
      have Lr := HL.out.below HW.out
      have hgr := Lr.lt
      obtain ⟨c0, c1, c2, c3, c4, c5, c6, c7, c8⟩ := Lr.elem k x hx
      have HX : Hid (xs[k]? = some x) := hx
      have HR : Hid (ROk wr x) := Lr.each x (List.mem_of_getElem? hx)
      clear hx Lr
      have KC : Hid (∀ W : World, Below wr.heap.size wr W → Calls Tryz.prog 24 #[.agg #[.int .i64 x.p.src, .int .i64 x.p.dst, .int .i64 x.p.kind, .int .i64 x.p.id, .int .i64 x.p.hops, .bool x.p.whole, .int .i64 x.p.off, .bool x.p.more, .slice x.a x.zs.length x.c]] W fun e w' => ∃ z : RV, e = .returned z.val ∧ z.key = x.key ∧ DataB w' W.heap.size z ∧ Below W.heap.size W w') := fun W h => l1Copy_rv x W (HR.out.below h)
      go_wp2_with fail
      refine (KC.out _ (Below.refl _ _)).mono ?_
      rintro e w1 ⟨z, rfl, hzk, DZ, b1⟩
      unfold RV.val Pk.val
      have P1 : Hid (POut w1 w.heap.size g c ys) := HP.out.below b1
      have W1 : Hid (Below w.heap.size w w1) := HW.out.trans (b1.mono hsz)
      have N1 : Hid (((ys ++ [z]).flatMap RV.blk).Nodup) := blk_apart HP.out.each HP.out.nd DZ (Nat.le_refl _)
      have DZ1 : Hid (DataB w1 w.heap.size z) := DZ.le hsz
      have HZK : Hid (z.key = x.key) := hzk
      have RO : Hid (w1.ownsRow w.heap.size 33 9 (.slice (some ⟨g, 0, none⟩) k c) k (ys.flatMap RV.cells)) := (by have h := P1.out.own; rw [HY.out] at h; exact h)
      have hs1 := W1.out.size
      clear b1 DZ hzk KC HP c0 c1 c2 c3 c4 c5 c6 c7 c8
      go_wp2_with (at_builtin; refine wpList_append_own _ rfl _ _ 69 rfl w.heap.size 33 ti (.agg #[.int .i64 0, .int .i64 0, .int .i64 0, .int .i64 0, .int .i64 0, .bool false, .int .i64 0, .bool false, .slice none 0 0]) 9 88 Tryz.underlying69 hti hy0 hy1 hy2 rfl (by decide) (.slice (some ⟨g, 0, none⟩) k c) k (ys.flatMap RV.cells) rfl (RO.out.alloc _) ⟨w1.heap.size, 0, none⟩ 1 1 (RV.cells z) rfl rfl ?h1 ?h2 ?h3 ?h4 ?h5 ?_)
      case h1 => exact rcells_new w1 z
      case h2 => exact rcells_one z
      case h3 => unfold maxLen; omega
      case h4 => omega
      case h5 => simp; omega
      intro v1 w4 hown hgrow hnil
      obtain ⟨g', c', rfl⟩ : ∃ g' c', v1 = .slice (some ⟨g', 0, none⟩) (k + 1) c' := form_of hown hnil
      have nb : ∀ y, DataB w1 w.heap.size y → DataB w4 w.heap.size y := fun y hy => (hy.below (Joins.below_alloc1 _ _)).kept fun b hb => by
        have hy' := hy.below (Joins.below_alloc1 w1 (.cells (pcells z.p (.slice z.a z.zs.length z.c)) 33))
        obtain ⟨_, hlb, cu, hcu⟩ := hy'.blk b hb
        refine hgrow.block b hlb (fun e => ?_)
        cases e
        obtain ⟨cu', hcu'⟩ := own_at (RO.out.alloc (.cells (pcells z.p (.slice z.a z.zs.length z.c)) 33)) g rfl
        rw [hcu] at hcu'
        cases hcu'
      have P4 : Hid (POut w4 w.heap.size g' c' (ys ++ [z])) := ⟨by rw [List.length_append, HY.out, List.flatMap_append]; simpa using hown, (fun y hy => by
        rcases List.mem_append.1 hy with h1 | h1
        · exact nb y (P1.out.each y h1)
        · rw [List.mem_singleton.1 h1]
          exact nb z DZ1.out), N1.out⟩
      have B4 : Hid (Below w.heap.size w w4) := (W1.out.alloc hs1 _).grown hgrow (by simp; omega) (fun j hj => (own_lt RO.out j hj).1)
      clear hown hgrow hnil nb RO
      go_wp2
      go_roundw
      case rel => exact ⟨k + 1, g', c', ys ++ [z], by omega, by go_num, rfl, (show _ = _ by rw [List.length_append, HY.out]; rfl), P4.out, (show _ = _ by rw [List.map_append, HK.out, List.take_add_one, HX.out]; simp [HZK.out]), B4.out⟩
      case measure => simp [intOf]; omega
    · obtain rfl : k = xs.length := by omega
      go_wp2
      go_ret
      exact ⟨g, c, ys, rfl, HP.out, by rw [HK.out, List.take_length], HW.out⟩
end Go.Proofs.YtjbkgmbakjnlhabGreatDoor
