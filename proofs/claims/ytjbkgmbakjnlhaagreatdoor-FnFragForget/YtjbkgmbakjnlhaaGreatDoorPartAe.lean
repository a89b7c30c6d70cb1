import Derived.Test.YtjbkgmbakjnlhaaGreatDoorPartAd
import Derived.Test.YtjbkgmbakjnlhaaGreatDoorPartAa
import Derived.Test.YtjbkgmbakjnlhaaGreatDoorPartAb
import Derived.Deep.RegionHeld3
import Derived.Test.YtjbkgmbakjnlhaaGreatDoorPartAc
import Derived.Deep.DrawnRows
namespace Go.Proofs.YtjbkgmbakjnlhaaGreatDoor
set_option maxRecDepth 100000
open Go.RowKit
theorem append_none (g cap : Nat) (ty : TypeId) (W : World) : (Builtin.append_ #[22, 22] ty #[.slice (some ⟨g, 0, none⟩) 0 0, .slice none 0 cap]).run Tryz.prog W = .ok (.slice (some ⟨g, 0, none⟩) 0 0) W := by
 obtain ⟨i0, hi, hz0, hz1, hz2⟩ := info_parts Tryz.info5
 simp [Builtin.append_, run_underlying Tryz.underlying22, sizeOf, typeInfo, hi, Builtin.lenOf, Builtin.firstCells, storeCells]
set_option maxHeartbeats 1600000 in
theorem l1Copy_nil (p : Pk) (cap : Nat) (w : World) :
  Calls Tryz.prog 33 #[p.val (.slice none 0 cap)] w fun e w' => e = .returned (p.val (.slice (some ⟨w.heap.size + 2, 0, none⟩) 0 0)) ∧ w'.heap[w.heap.size + 2]? = some (.cells #[] 5 (0, 0)) ∧ Below w.heap.size w w' := by
 unfold Pk.val
 have ha := fun ty W => append_none (w.heap.size + 2) cap ty W
 go_enter Tryz.func33, Tryz.ntmps33
 go_wp2
 refine bodyPost_ret (v := .agg #[.int .i64 p.src, .int .i64 p.dst, .int .i64 p.kind, .int .i64 p.id, .int .i64 p.hops, .bool p.whole, .int .i64 p.off, .bool p.more, .slice (some ⟨w.heap.size + 2, 0, none⟩) 0 0]) (by simp [results, Tryz.results33, go_sem]) rfl ⟨rfl, heap_new _ _ _ (by simp), ?_⟩
 exact Joins.below_alloc3 _ _ _ _
theorem l1Copy_rv (y : RV) (w : World) (h : ROk w y) :
  Calls Tryz.prog 33 #[y.val] w fun e w' => ∃ z : RV, e = .returned z.val ∧ z.key = y.key ∧ DataB w' w.heap.size z ∧ Below w.heap.size w w' := by
 obtain ⟨p, a, c, zs⟩ := y
 cases a with
 | none =>
  have h0 : zs.length = 0 := by
   rcases h.rd.2 with e | ⟨g, o, e, _⟩
   ·exact e
   ·cases e
  have hz : zs = [] := List.eq_nil_of_length_eq_zero h0
  subst hz
  exact (l1Copy_nil p c w).mono fun e w' ⟨h1, h2, h3⟩ => ⟨⟨p, some ⟨w.heap.size + 2, 0, none⟩, 0, []⟩, h1, rfl, ⟨Or.inr ⟨w.heap.size + 2, rfl, by omega, ⟨#[], h2, rfl⟩, by simp, Nat.zero_le _⟩, by simp, fun z hz => by cases hz⟩, h3⟩
 | some ad =>
  refine (l1Copy_any p ad zs.length c zs w h.rd h.len).mono fun e w' ⟨g, c', h1, h2, h3⟩ => ⟨⟨p, some ⟨g, 0, none⟩, c', zs⟩, h1, rfl, ⟨Or.inr ⟨g, rfl, (own_lt h2 g rfl).1, RowB.of_own h2, ?_⟩, h.len, h.byte⟩, h3⟩
  exact own_caps h2
structure POut (w : World) (lo g c : Nat) (ys : List RV) : Prop where
 own : w.ownsRow lo 29 9 (.slice (some ⟨g, 0, none⟩) ys.length c) ys.length (ys.flatMap RV.cells)
 each : ∀ y ∈ ys, DataB w lo y
 nd : (ys.flatMap RV.blk).Nodup
theorem POut.below {w w' : World} {lo g c : Nat} {ys : List RV} (h : POut w lo g c ys) (hb : Below w.heap.size w w') : POut w' lo g c ys := ⟨own_below h.own hb, fun y hy => (h.each y hy).below hb, h.nd⟩
theorem own_at {w : World} {lo e size n : Nat} {v : Value} {xs : List Value} (h : w.ownsRow lo e size v n xs) : ∀ k, v.ownBlock = some k → ∃ cur, w.heap[k]? = some (.cells cur e (0, 0)) := by
 intro k hk
 rcases h.2 with ⟨hv, _⟩ | ⟨g, cap, cur, hv, _, hh, _⟩
 ·rw [hv] at hk; cases hk
 ·rw [hv] at hk
  cases hk
  exact ⟨cur, hh⟩
theorem POut.slot {w : World} {lo g c : Nat} {ys : List RV} (h : POut w lo g c ys) (hl : ys.length ≤ 1048576) (since : Int) (bad : Bool) : SlotB w lo ⟨some ⟨g, 0, none⟩, c, ys, since, bad⟩ ∧ (SV.blks ⟨some ⟨g, 0, none⟩, c, ys, since, bad⟩).Nodup := by
 have hc := own_caps h.own
 refine ⟨⟨⟨g, rfl, (own_lt h.own g rfl).1, RowB.of_own h.own⟩, h.each, hl, hc.1, hc.2⟩, ?_⟩
 show ((some g).toList ++ ys.flatMap RV.blk).Nodup
 simp only [Option.toList_some, List.singleton_append, List.nodup_cons]
 refine ⟨fun hm => ?_, h.nd⟩
 obtain ⟨y, hy, hb⟩ := List.mem_flatMap.1 hm
 obtain ⟨_, _, cu, hcu⟩ := (h.each y hy).blk _ hb
 obtain ⟨cu', hcu'⟩ := own_at h.own g rfl
 rw [hcu] at hcu'
 cases hcu'
theorem rcells_one (y : RV) : ∀ u ∈ y.cells, u.oneCell' = true := by
 intro u hu
 simp [RV.cells, pcells] at hu
 rcases hu with rfl | rfl | rfl | rfl | rfl | rfl | rfl | rfl | rfl <;> rfl
theorem rcells_new (w : World) (y : RV) : ∀ j u, y.cells[j]? = some u → (w.alloc (.cells (pcells y.p (.slice y.a y.zs.length y.c)) 29)).cell? ((Addr.mk w.heap.size 0 none).add j) = some u := by
 intro j u hu
 rw [add_none, Nat.zero_add, zCr (heap_new _ _ _ rfl), ← Array.getElem?_toList]
 exact hu
theorem POut.nil (w : World) (n base : Nat) (h : n = w.heap.size) (hb : base ≤ n) : POut (w.alloc (.cells #[] 29)) base n 0 [] :=
 ⟨⟨rfl, Or.inr ⟨n, 0, #[], rfl, hb, heap_new _ _ _ h, Nat.le_refl _, by unfold maxLen; omega, rfl, rfl⟩⟩, (fun y hy => by cases hy), List.nodup_nil⟩
set_option maxHeartbeats 3200000 in
theorem l4Pieces_any (gx cx : Nat) (xs : List RV) (w : World) (hR : RL w gx xs) (hl : xs.length ≤ 1048576) :
  Calls Tryz.prog 66 #[.slice (some ⟨gx, 0, none⟩) xs.length cx] w fun e w' => ∃ g c ys, e = .returned (.slice (some ⟨g, 0, none⟩) xs.length c) ∧ POut w' w.heap.size g c ys ∧ ys.map RV.key = xs.map RV.key ∧ Below w.heap.size w w' := by
 obtain ⟨ti, hti, hy0, hy1, hy2⟩ := info_parts Tryz.info9
 have HL : Hid (RL w gx xs) := hR
 have P0 : Hid (POut (w.alloc (.cells #[] 29)) w.heap.size w.heap.size 0 []) := POut.nil w _ _ rfl (Nat.le_refl _)
 clear hR
 go_enter Tryz.func66, Tryz.ntmps66
 go_wp2
 go_loopw [3, 4] (fun v i wr => ∃ (k g c : Nat) (ys : List RV), k ≤ xs.length ∧ i = .int .i64 k ∧ v = .slice (some ⟨g, 0, none⟩) k c ∧ Hid (ys.length = k) ∧ Hid (POut wr w.heap.size g c ys) ∧ Hid (ys.map RV.key = (xs.take k).map RV.key) ∧ Hid (Below w.heap.size w wr)) (fun _ i _ => xs.length - (intOf i).toNat)
 case atStart => exact ⟨0, w.heap.size, 0, [], by omega, rfl, rfl, rfl, P0.out, rfl, zBa _ _⟩
 case round =>
  obtain ⟨k, g, c, ys, hk, rfl, rfl, HY, HP, HK, HW⟩ := hrel
  have hsz := HW.out.size
  by_cases hlt : k < xs.length
  ·obtain ⟨x, hx⟩ := get_of_lt hlt
   have hi : (k : Int) < (xs.length : Int) := by omega
   have Lr := HL.out.below HW.out
   have hgr := Lr.lt
   obtain ⟨c0, c1, c2, c3, c4, c5, c6, c7, c8⟩ := Lr.elem k x hx
   have HX : Hid (xs[k]? = some x) := hx
   have HR : Hid (ROk wr x) := Lr.each x (List.mem_of_getElem? hx)
   clear hx Lr
   have KC : Hid (∀ W : World, Below wr.heap.size wr W → Calls Tryz.prog 33 #[.agg #[.int .i64 x.p.src, .int .i64 x.p.dst, .int .i64 x.p.kind, .int .i64 x.p.id, .int .i64 x.p.hops, .bool x.p.whole, .int .i64 x.p.off, .bool x.p.more, .slice x.a x.zs.length x.c]] W fun e w' => ∃ z : RV, e = .returned z.val ∧ z.key = x.key ∧ DataB w' W.heap.size z ∧ Below W.heap.size W w') := fun W h => l1Copy_rv x W (HR.out.below h)
   go_wp2_with fail
   refine (KC.out _ (Below.refl _ _)).mono ?_
   rintro e w1 ⟨z, rfl, hzk, DZ, b1⟩
   unfold RV.val Pk.val
   have P1 : Hid (POut w1 w.heap.size g c ys) := HP.out.below b1
   have W1 : Hid (Below w.heap.size w w1) := HW.out.trans (b1.mono hsz)
   have N1 : Hid (((ys ++ [z]).flatMap RV.blk).Nodup) := blk_apart HP.out.each HP.out.nd DZ (Nat.le_refl _)
   have DZ1 : Hid (DataB w1 w.heap.size z) := DZ.le hsz
   have HZK : Hid (z.key = x.key) := hzk
   have RO : Hid (w1.ownsRow w.heap.size 29 9 (.slice (some ⟨g, 0, none⟩) k c) k (ys.flatMap RV.cells)) := (by have h := P1.out.own; rw [HY.out] at h; exact h)
   have hs1 := W1.out.size
   clear b1 DZ hzk KC HP c0 c1 c2 c3 c4 c5 c6 c7 c8
   go_wp2_with (at_builtin; refine wpList_append_own _ rfl _ _ 23 rfl w.heap.size 29 ti _ 9 88 Tryz.underlying23 hti hy0 hy1 hy2 rfl (by decide) (.slice (some ⟨g, 0, none⟩) k c) k (ys.flatMap RV.cells) rfl (RO.out.alloc _) ⟨w1.heap.size, 0, none⟩ 1 1 (RV.cells z) rfl rfl ?h1 ?h2 ?h3 ?h4 ?h5 ?_)
   case h1 => exact rcells_new w1 z
   case h2 => exact rcells_one z
   case h3 => unfold maxLen; omega
   case h4 => omega
   case h5 => simp; omega
   intro v1 w4 hown hgrow hnil
   obtain ⟨g', c', rfl⟩ : ∃ g' c', v1 = .slice (some ⟨g', 0, none⟩) (k + 1) c' := form_of hown hnil
   have nb : ∀ y, DataB w1 w.heap.size y → DataB w4 w.heap.size y := fun y hy => (hy.below (zBa _ _)).kept fun b hb => by
    have hy' := hy.below (zBa w1 (.cells (pcells z.p (.slice z.a z.zs.length z.c)) 29))
    obtain ⟨_, hlb, cu, hcu⟩ := hy'.blk b hb
    refine hgrow.block b hlb (fun e => ?_)
    cases e
    obtain ⟨cu', hcu'⟩ := own_at (RO.out.alloc (.cells (pcells z.p (.slice z.a z.zs.length z.c)) 29)) g rfl
    rw [hcu] at hcu'
    cases hcu'
   have P4 : Hid (POut w4 w.heap.size g' c' (ys ++ [z])) := ⟨by rw [List.length_append, HY.out, List.flatMap_append]; simpa using hown, (fun y hy => by
    rcases List.mem_append.1 hy with h1 | h1
    ·exact nb y (P1.out.each y h1)
    ·rw [List.mem_singleton.1 h1]
     exact nb z DZ1.out), N1.out⟩
   have B4 : Hid (Below w.heap.size w w4) := (W1.out.alloc hs1 _).grown hgrow (by simp; omega) (fun j hj => (own_lt RO.out j hj).1)
   clear hown hgrow hnil nb RO
   go_wp2
   go_roundw
   case rel => exact ⟨k + 1, g', c', ys ++ [z], by omega, by go_num, rfl, (show _ = _ by rw [List.length_append, HY.out]; rfl), P4.out, (show _ = _ by rw [List.map_append, HK.out, List.take_add_one, HX.out]; simp [HZK.out]), B4.out⟩
   case measure => simp [intOf]; omega
  ·obtain rfl : k = xs.length := by omega
   go_wp2
   go_ret
   exact ⟨g, c, ys, rfl, HP.out, by rw [HK.out, List.take_length], HW.out⟩
end Go.Proofs.YtjbkgmbakjnlhaaGreatDoor
namespace Go.Proofs.YtjbkgmbakjnlhaaGreatDoor
set_option maxRecDepth 100000
theorem alikeB_iff (x y : PB) : alikeB x y = true ↔ okB x.1 x.2.length = true ∧ okB y.1 y.2.length = true ∧ x.1.src = y.1.src ∧ x.1.dst = y.1.dst ∧ x.1.kind = y.1.kind ∧ x.1.id = y.1.id := by
 unfold alikeB
 simp only [Bool.and_eq_true, beq_iff_eq]
 constructor
 ·rintro ⟨⟨⟨⟨⟨a, b⟩, c⟩, d⟩, e⟩, f⟩; exact ⟨a, b, c, d, e, f⟩
 ·rintro ⟨a, b, c, d, e, f⟩; exact ⟨⟨⟨⟨⟨a, b⟩, c⟩, d⟩, e⟩, f⟩
theorem alikeL_iff (L : List PB) : alikeL L = true ↔ L ≠ [] ∧ L.length ≤ 40 ∧ ∀ x ∈ L, ∀ y ∈ L, alikeB x y = true := by
 match L with
 | [] => simp [alikeL]
 | x :: r =>
  unfold alikeL
  rw [Bool.and_eq_true, List.all_eq_true]
  constructor
  ·rintro ⟨h1, h2⟩
   refine ⟨by simp, by simpa using h1, fun a ha b hb => ?_⟩
   have p := (alikeB_iff x a).1 (h2 a ha)
   have q := (alikeB_iff x b).1 (h2 b hb)
   exact (alikeB_iff a b).2 ⟨p.2.1, q.2.1, by rw [← p.2.2.1, q.2.2.1], by rw [← p.2.2.2.1, q.2.2.2.1], by rw [← p.2.2.2.2.1, q.2.2.2.2.1], by rw [← p.2.2.2.2.2, q.2.2.2.2.2]⟩
  ·rintro ⟨_, h1, h2⟩
   exact ⟨by simpa using h1, fun y hy => h2 x (List.mem_cons_self ..) y hy⟩
theorem disagreeL_iff (L : List PB) : disagreeL L = true ↔ ∃ x ∈ L, ∃ y ∈ L, againstB x y = true := by
 unfold disagreeL
 simp only [List.any_eq_true]
theorem agree_of {L : List PB} (h : disagreeL L = false) {x y : PB} (hx : x ∈ L) (hy : y ∈ L) : againstB x y = false := by
 cases e : againstB x y with
 | false => rfl
 | true =>
  have := (disagreeL_iff L).2 ⟨x, hx, y, hy, e⟩
  rw [h] at this
  cases this
theorem bytes_eq {x y : PB} (h : againstB x y = false) {j : Int} (hx : hasB x j = true) (hy : hasB y j = true) : byteAt x j = byteAt y j := by
 unfold againstB at h
 rw [Bool.or_eq_false_iff, List.any_eq_false] at h
 unfold hasB endOf at hx
 simp at hx
 have e : x.1.off + (((j - x.1.off).toNat : Nat) : Int) = j := by omega
 have h1 := h.1 (j - x.1.off).toNat (List.mem_range.2 (by omega))
 rw [e, hy] at h1
 simpa using h1
theorem join_code (L : List PB) : (joinL L).1 = 0 ∨ (joinL L).1 = 1 ∨ (joinL L).1 = 2 ∨ (joinL L).1 = 3 := by
 unfold joinL
 repeat' split
 all_goals simp
theorem join_one (L : List PB) : (joinL L).1 = 1 ↔ alikeL L = false := by
 unfold joinL
 cases alikeL L with
 | false => simp
 | true =>
  simp only [if_true]
  repeat' split
  all_goals simp
theorem join_two (L : List PB) : (joinL L).1 = 2 ↔ alikeL L = true ∧ disagreeL L = true := by
 unfold joinL
 cases alikeL L with
 | false => simp
 | true =>
  cases disagreeL L with
  | true => simp
  | false =>
   simp only [if_true]
   repeat' split
   all_goals simp_all
theorem alike_more {L : List PB} {z : PB} (ha : alikeL L = true) (hz : ∀ x ∈ L, alikeB x z = true) (hl : L.length < 40) : alikeL (L ++ [z]) = true := by
 obtain ⟨hne, _, hal⟩ := (alikeL_iff L).1 ha
 refine (alikeL_iff _).2 ⟨by simp, by simp; omega, fun x hx y hy => ?_⟩
 match L, hne with
 | w :: r, _ =>
  have hw := (alikeB_iff w z).1 (hz w (List.mem_cons_self ..))
  have hzz : alikeB z z = true := (alikeB_iff z z).2 ⟨hw.2.1, hw.2.1, rfl, rfl, rfl, rfl⟩
  have sym : ∀ a b, alikeB a b = true → alikeB b a = true := fun a b h => by
   have k := (alikeB_iff a b).1 h
   exact (alikeB_iff b a).2 ⟨k.2.1, k.1, k.2.2.1.symm, k.2.2.2.1.symm, k.2.2.2.2.1.symm, k.2.2.2.2.2.symm⟩
  rcases List.mem_append.1 hx with a | a <;> rcases List.mem_append.1 hy with b | b
  ·exact hal x a y b
  ·rw [List.mem_singleton.1 b]; exact hz x a
  ·rw [List.mem_singleton.1 a]; exact sym _ _ (hz y b)
  ·rw [List.mem_singleton.1 a, List.mem_singleton.1 b]; exact hzz
theorem join_lies {L : List PB} {z : PB} (h : (joinL L).1 = 2) (hz : ∀ x ∈ L, alikeB x z = true) (hl : L.length < 40) : (joinL (L ++ [z])).1 = 2 := by
 obtain ⟨ha, hd⟩ := (join_two L).1 h
 refine (join_two _).2 ⟨alike_more ha hz hl, ?_⟩
 obtain ⟨x, hx, y, hy, e⟩ := (disagreeL_iff L).1 hd
 exact (disagreeL_iff _).2 ⟨x, List.mem_append_left _ hx, y, List.mem_append_left _ hy, e⟩
theorem find_prefix {L : List PB} {z x : PB} {f : PB → Bool} (h : L.find? f = some x) : (L ++ [z]).find? f = some x := by
 rw [List.find?_append, h]; rfl
theorem bytes_prefix {L : List PB} {z : PB} : ∀ n bs, bytesL L n = some bs → bytesL (L ++ [z]) n = some bs := by
 intro n
 induction n with
 | zero => intro bs h; exact h
 | succ n ih =>
  intro bs h
  rw [bytesL] at h ⊢
  cases e1 : bytesL L n with
  | none => rw [e1] at h; simp at h
  | some cs =>
   cases e2 : L.find? (fun x => hasB x n) with
   | none => rw [e1, e2] at h; simp at h
   | some x =>
    rw [e1, e2] at h
    rw [ih cs e1, find_prefix e2]
    exact h
theorem join_more {L : List PB} {z : PB} (h : (joinL L).1 = 0) (hz : ∀ x ∈ L, alikeB x z = true) (hl : L.length < 40) : (joinL (L ++ [z])).1 = 2 ∨ ((joinL (L ++ [z])).1 = 0 ∧ (joinL (L ++ [z])).2.2 = (joinL L).2.2 ∧ (joinL (L ++ [z])).2.1 = headL (L ++ [z]) ∧ (joinL L).2.1 = headL L) := by
 have ha : alikeL L = true := by
  cases e : alikeL L with
  | true => rfl
  | false => have := (join_one L).2 e; omega
 have ha' := alike_more ha hz hl
 cases hd' : disagreeL (L ++ [z]) with
 | true => exact Or.inl ((join_two _).2 ⟨ha', hd'⟩)
 | false =>
  right
  have hd : disagreeL L = false := by
   cases e : disagreeL L with
   | false => rfl
   | true => have := (join_two L).2 ⟨ha, e⟩; omega
  unfold joinL at h ⊢
  rw [ha, if_pos rfl, hd, if_neg (by simp)] at h
  rw [ha', if_pos rfl, hd', if_neg (by simp), ha, if_pos rfl, hd, if_neg (by simp)]
  cases e1 : endL L with
  | none => rw [e1] at h; simp at h
  | some e =>
   rw [e1] at h
   simp only at h
   have e1' : endL (L ++ [z]) = some e := by
    unfold endL at e1 ⊢
    cases e2 : L.find? (fun x => !x.1.more) with
    | none => rw [e2] at e1; simp at e1
    | some x => rw [find_prefix e2, ← e1, e2]
   rw [e1']
   simp only
   cases e3 : bytesL L e.toNat with
   | none => rw [e3] at h; simp at h
   | some bs =>
    rw [bytes_prefix e.toNat bs e3]
    simp
end Go.Proofs.YtjbkgmbakjnlhaaGreatDoor
namespace Go.Proofs.YtjbkgmbakjnlhaaGreatDoor
set_option maxRecDepth 100000
open Go.RowKit
def sinceOk (now : Int) (s : SV) : Prop := s.since ≤ now ∧ 0 ≤ s.since ∧ now - 6 < s.since
def waits (s : SV) : Prop := (joinL (s.xs.map RV.key)).1 = 3 ∧ (s.bad = true → s.xs.length = 1)
def firstAlike (s t : SV) : Prop := ∃ x y, s.xs[0]? = some x ∧ t.xs[0]? = some y ∧ alikeB x.key y.key = true
theorem firstAlike_symm {s t : SV} (h : firstAlike s t) : firstAlike t s := by
 obtain ⟨x, y, h1, h2, h3⟩ := h
 refine ⟨y, x, h2, h1, ?_⟩
 rw [alikeB_iff] at h3 ⊢
 obtain ⟨a, b, c, d, e, f⟩ := h3
 exact ⟨b, a, c.symm, d.symm, e.symm, f.symm⟩
def SaysB (Q : Prop) (w : World) (e : Ending) (w' : World) : Prop := ∃ b : Bool, e = .returned (.bool b) ∧ (b = true ↔ Q) ∧ Below w.heap.size w w'
theorem SaysB.mk {Q : Prop} {w w' : World} (b : Bool) (h : b = true ↔ Q) (hb : Below w.heap.size w w') : SaysB Q w (.returned (.bool b)) w' := ⟨b, rfl, h, hb⟩
def rises (ss : List SV) (j : Nat) (s : SV) : Prop := ∀ r, 0 < j → ss[j - 1]? = some r → r.since ≤ s.since
def lone (ss : List SV) (j : Nat) (s : SV) : Prop := ∀ i r, i < j → ss[i]? = some r → ¬ firstAlike r s
def benchOk (now : Int) (ss : List SV) : Prop := (0 ≤ now ∧ now ≤ 1000000) ∧ ss.length ≤ 4 ∧ ∀ (j : Nat) s, ss[j]? = some s → sinceOk now s ∧ waits s ∧ rises ss j s ∧ lone ss j s
theorem waits_first {s : SV} (h : waits s) : ∃ x, s.xs[0]? = some x := by
 cases hx : s.xs with
 | nil =>
  have := h.1
  rw [hx] at this
  cases this
 | cons x r => exact ⟨x, rfl⟩
set_option maxHeartbeats 3200000 in
theorem sincesHold_any (now : Int) (g cl : Nat) (ss : List SV) (w : World) (hL : SL w g ss) (h0 : 0 ≤ now) (h1 : now ≤ 1000000) (hm : ss.length ≤ 4) :
  Calls Tryz.prog 38 #[.agg #[.int .i64 now, .slice (some ⟨g, 0, none⟩) ss.length cl]] w (SaysB (∀ (j : Nat) s, ss[j]? = some s → sinceOk now s ∧ rises ss j s) w) := by
 have HL : Hid (SL w g ss) := hL
 clear hL
 have KC : Hid (∀ (n lo : Int) (W : World), Calls Tryz.prog 37 #[.int .i64 n, .int .i64 lo, .int .i64 now] W fun e w' => e = .returned (.int .i64 (clampI n lo now)) ∧ w' = W) := fun n lo W => clamp_any n lo now W
 by_cases hmx : now - 6 + 1 ≤ 0
 all_goals
  go_enter Tryz.func38, Tryz.ntmps38
  go_wp2
  go_loopw [3, 14] (fun l i wr => ∃ (k : Nat) (L : Int), k ≤ ss.length ∧ i = .int .i64 k ∧ l = .int .i64 L ∧ (0 ≤ L ∧ now - 6 < L ∧ L ≤ now) ∧ Hid (∀ r, 0 < k → ss[k - 1]? = some r → L = r.since) ∧ Hid (k = 0 → L = 0 ∨ L = now - 5) ∧ Hid (∀ j s, j < k → ss[j]? = some s → sinceOk now s ∧ rises ss j s) ∧ Hid (Below w.heap.size w wr) ∧ Hid (wr.cell? ⟨w.heap.size, 0, none⟩ = some (.int .i64 now) ∧ w.heap.size < wr.heap.size)) (fun _ i _ => ss.length - (intOf i).toNat)
  case atStart => exact ⟨0, _, by omega, rfl, rfl, ⟨by omega, by omega, by omega⟩, fun r h => by omega, fun _ => by omega, fun j s h => by omega, zBa _ _, by go_simp, by simp⟩
  case round =>
   obtain ⟨k, L, hk, rfl, rfl, ⟨hL0, hL1, hL2⟩, HP, HZ, HC, HB, HN⟩ := hrel
   obtain ⟨n0, n1⟩ := HN.out
   by_cases hlt : k < ss.length
   ·obtain ⟨x, hx⟩ := get_of_lt hlt
    have hi : (k : Int) < (ss.length : Int) := by omega
    have Lr := HL.out.below HB.out
    obtain ⟨c0, c1, c2⟩ := Lr.elem k x hx
    have hgr := Lr.lt
    have HX : Hid (ss[k]? = some x) := hx
    clear hx Lr
    have KX : Hid (∀ W : World, Calls Tryz.prog 37 #[.int .i64 x.since, .int .i64 L, .int .i64 now] W fun e w' => e = .returned (.int .i64 (clampI x.since L now)) ∧ w' = W) := fun W => KC.out _ _ W
    have HG : Hid (∀ s, ss[k]? = some s → (sinceOk now s ∧ rises ss k s ↔ L ≤ x.since ∧ x.since ≤ now)) := fun s hs => by
     have e : s = x := Option.some.inj (hs.symm.trans HX.out)
     subst e
     constructor
     ·rintro ⟨⟨a, b, c⟩, d⟩
      refine ⟨?_, a⟩
      rcases Nat.eq_zero_or_pos k with h | h
      ·rcases HZ.out h with h' | h' <;> omega
      ·obtain ⟨r, hr⟩ := get_of_lt (show k - 1 < ss.length by omega)
       have := HP.out r h hr
       have := d r h hr
       omega
     ·rintro ⟨a, b⟩
      refine ⟨⟨b, by omega, by omega⟩, fun r h hr => ?_⟩
      have := HP.out r h hr
      omega
    by_cases hin : L ≤ x.since ∧ x.since ≤ now
    ·have hcl : clampI x.since L now = x.since := by unfold clampI; split <;> split <;> omega
     rw [hcl] at KX
     have hne : (x.since != x.since) = false := by simp
     clear hcl
     go_wp2
     go_region_held3 (fun w' => w'.cell? ⟨wr.heap.size, 1, none⟩ = some (.int .i64 x.since) ∧ w'.cell? ⟨w.heap.size, 0, none⟩ = some (.int .i64 now)) (go_keep)
      (first
       | (go_at_call 37; (with_reducible refine (KX.out _).mono ?_); rintro e w1 ⟨rfl, hw1⟩; subst hw1))
     go_wp2
     go_roundw
     case rel =>
      refine ⟨k + 1, x.since, by omega, by go_num, rfl, ⟨by omega, by omega, by omega⟩, fun r _ hr => ?_, fun h => by omega, fun j s hj hs => ?_, (HB.out.alloc (HB.out.size) _).drew, ?_, ?_⟩
      ·rw [Nat.add_sub_cancel, HX.out] at hr
       exact congrArg SV.since (Option.some.inj hr)
      ·rcases Nat.lt_or_ge j k with h | h
       ·exact HC.out j s h hs
       ·obtain rfl : j = k := by omega
        exact (HG.out s hs).2 hin
      ·go_simp
      ·simp; omega
     case measure => simp [intOf]; omega
    ·have hcl : (x.since != clampI x.since L now) = true := by
      rw [bne_iff_ne]
      unfold clampI
      split <;> split <;> omega
     go_wp2
     go_region_held3 (fun w' => w'.cell? ⟨wr.heap.size, 1, none⟩ = some (.int .i64 x.since) ∧ w'.cell? ⟨w.heap.size, 0, none⟩ = some (.int .i64 now)) (go_keep)
      (first
       | (go_at_call 37; (with_reducible refine (KX.out _).mono ?_); rintro e w1 ⟨rfl, hw1⟩; subst hw1))
     go_wp2
     go_ret
     refine (SaysB.mk false ⟨fun h => by simp at h, fun h => (hin ((HG.out x HX.out).1 (h k x HX.out))).elim⟩ ((HB.out.alloc (HB.out.size) _).drew))
   ·obtain rfl : k = ss.length := by omega
    go_wp2
    go_ret
    refine (SaysB.mk true ⟨fun _ j s hs => HC.out j s (by rw [List.getElem?_eq_some_iff] at hs; exact hs.1) hs, fun _ => rfl⟩ (HB.out))
end Go.Proofs.YtjbkgmbakjnlhaaGreatDoor
namespace Go.Proofs.YtjbkgmbakjnlhaaGreatDoor
set_option maxRecDepth 100000
open Go.RowKit
set_option maxHeartbeats 1600000 in
theorem specAlike_any (p q : Pk) (a b : Option Addr) (zs ys : List Int) (c d : Nat) (w : World) (hp : zs.length ≤ 1048576) (hq : ys.length ≤ 1048576) :
  Calls Tryz.prog 16 #[p.val (.slice a zs.length c), q.val (.slice b ys.length d)] w fun e w' => e = .returned (.bool (alikeB (p, zs) (q, ys))) ∧ Below w.heap.size w w' := by
 unfold Pk.val
 cases hv : okB p zs.length
 ·have HA : Hid (alikeB (p, zs) (q, ys) = false) := by simp [Hid, alikeB, hv]
  go_enter Tryz.func16, Tryz.ntmps16
  go_wp2_with fail
  refine (specOk_any p a zs.length c _ hp).mono ?_
  rintro e w1 ⟨rfl, b1⟩
  have B1 : Hid (Below w.heap.size w w1) := (Joins.below_alloc2 _ _ _).trans (b1.mono (by simp; omega))
  clear b1
  go_wp2
  go_ret
  exact ⟨ret_bool HA.out.symm, B1.out⟩
 go_enter Tryz.func16, Tryz.ntmps16
 go_wp2_with fail
 refine (specOk_any p a zs.length c _ hp).mono ?_
 rintro e w1 ⟨rfl, b1⟩
 have B1 : Below w.heap.size w w1 := (Joins.below_alloc2 _ _ _).trans (b1.mono (by simp; omega))
 have X1 : Boxed w1 w.heap.size p (.slice a zs.length c) := ((Boxed.new w p (.slice a zs.length c) 29).below (zBa _ _)).below b1
 have Y1 : Boxed w1 (w.heap.size + 1) q (.slice b ys.length d) := (Boxed.newAt (w.alloc _) (w.heap.size + 1) q (.slice b ys.length d) 29 (by simp)).below b1
 clear b1
 obtain ⟨l1, k0, k1, k2, k3, k4, k5, k6, k7, k8⟩ := id Y1
 cases hu : okB q ys.length
 ·have HA : Hid (alikeB (p, zs) (q, ys) = false) := by simp [Hid, alikeB, hu]
  go_wp2_with fail
  refine (specOk_any q b ys.length d _ hq).mono ?_
  rintro e w2 ⟨rfl, b2⟩
  have B2 : Hid (Below w.heap.size w w2) := B1.trans (b2.mono (by omega))
  clear b2 B1
  go_wp2
  go_ret
  exact ⟨ret_bool HA.out.symm, B2.out⟩
 ·go_wp2_with fail
  refine (specOk_any q b ys.length d _ hq).mono ?_
  rintro e w2 ⟨rfl, b2⟩
  have B2 : Hid (Below w.heap.size w w2) := B1.trans (b2.mono (by omega))
  have X2 := X1.below b2
  have Y2 := Y1.below b2
  clear b2 B1 X1 Y1 k0 k1 k2 k3 k4 k5 k6 k7 k8 l1
  obtain ⟨l0, c0, c1, c2, c3, c4, c5, c6, c7, c8⟩ := id X2
  obtain ⟨l1, k0, k1, k2, k3, k4, k5, k6, k7, k8⟩ := id Y2
  have HV : Hid (okB p zs.length = true ∧ okB q ys.length = true) := ⟨hv, hu⟩
  clear hv hu
  go_wp2
  all_goals
   go_ret
   refine ⟨ret_bool ?_, B2.out⟩
   have h1 := HV.out.1
   have h2 := HV.out.2
   simp_all [alikeB]
end Go.Proofs.YtjbkgmbakjnlhaaGreatDoor
namespace Go.Proofs.YtjbkgmbakjnlhaaGreatDoor
set_option maxRecDepth 100000
open Go.RowKit
attribute [local go_sem ↓] Go.wp_at_zero Go.wp_at_succ
theorem fld46 (s d k i h o n : Int) (x m : Bool) : ∀ w : World, (Instr.field 105 (.agg #[.int .i64 s, .int .i64 d, .int .i64 k, .int .i64 i, .int .i64 h, .bool x, .int .i64 o, .bool m, .int .i64 n]) 0).run Tryz.prog w = .ok (.agg #[.int .i64 s, .int .i64 d, .int .i64 k, .int .i64 i]) w := fun _ => by kernel_rfl
set_option maxHeartbeats 12800000 in
theorem implAlike_any (p q : Pk) (a b : Option Addr) (zs ys : List Int) (c d : Nat) (w : World) (hp : zs.length ≤ 1048576) (hq : ys.length ≤ 1048576) :
  Calls Tryz.prog 73 #[p.val (.slice a zs.length c), q.val (.slice b ys.length d)] w fun e w' => e = .returned (.bool (alikeB (p, zs) (q, ys))) ∧ Below w.heap.size w w' := by
 unfold Pk.val
 cases hv : okB p zs.length
 ·have HA : Hid (alikeB (p, zs) (q, ys) = false) := (show alikeB (p, zs) (q, ys) = false by simp [alikeB, hv])
  have K1 : Hid (∀ W : World, Calls Tryz.prog 67 #[.agg #[.int .i64 p.src, .int .i64 p.dst, .int .i64 p.kind, .int .i64 p.id, .int .i64 p.hops, .bool p.whole, .int .i64 p.off, .bool p.more, .slice a zs.length c]] W fun e w' => e = .returned (.bool false) ∧ Below W.heap.size W w') := fun W => by
   have h := implOk_any p a zs.length c W hp
   unfold Pk.val at h
   rw [hv] at h
   exact h
  clear hv
  go_enter Tryz.func73, Tryz.ntmps73
  go_wp2
  go_region_with
   (first
    | (go_at_call 67; with_reducible refine (K1.out _).mono ?_; rintro e w1 ⟨rfl, b1⟩; have hs1 : w.heap.size + 2 ≤ w1.heap.size := Nat.le_trans (by simp) b1.size; have hc1 : ∀ b o, b < w.heap.size + 2 → w1.cell? ⟨b, o, none⟩ = _ := fun b o h => b1.cell (p := ⟨b, o, none⟩) (by simpa using h)))
  all_goals
   go_wp2
   go_ret
   exact ⟨ret_bool HA.out.symm, (Joins.below_alloc2 _ _ _).drew.trans (b1.mono (by simp; omega))⟩
 have K1 : Hid (∀ W : World, Calls Tryz.prog 67 #[.agg #[.int .i64 p.src, .int .i64 p.dst, .int .i64 p.kind, .int .i64 p.id, .int .i64 p.hops, .bool p.whole, .int .i64 p.off, .bool p.more, .slice a zs.length c]] W fun e w' => e = .returned (.bool true) ∧ Below W.heap.size W w') := fun W => by
  have h := implOk_any p a zs.length c W hp
  unfold Pk.val at h
  rw [hv] at h
  exact h
 cases hu : okB q ys.length
 ·have HA : Hid (alikeB (p, zs) (q, ys) = false) := (show alikeB (p, zs) (q, ys) = false by simp [alikeB, hu])
  have K2 : Hid (∀ W : World, Calls Tryz.prog 67 #[.agg #[.int .i64 q.src, .int .i64 q.dst, .int .i64 q.kind, .int .i64 q.id, .int .i64 q.hops, .bool q.whole, .int .i64 q.off, .bool q.more, .slice b ys.length d]] W fun e w' => e = .returned (.bool false) ∧ Below W.heap.size W w') := fun W => by
   have h := implOk_any q b ys.length d W hq
   unfold Pk.val at h
   rw [hu] at h
   exact h
  clear hv hu
  go_enter Tryz.func73, Tryz.ntmps73
  go_wp2
  go_region_with
   (first
    | (go_at_call 67; with_reducible refine (K1.out _).mono ?_; rintro e w1 ⟨rfl, b1⟩; have hs1 : w.heap.size + 2 ≤ w1.heap.size := Nat.le_trans (by simp) b1.size; have hc1 : ∀ b o, b < w.heap.size + 2 → w1.cell? ⟨b, o, none⟩ = _ := fun b o h => b1.cell (p := ⟨b, o, none⟩) (by simpa using h))
    | (go_at_call 67; with_reducible refine (K2.out _).mono ?_; rintro e w2 ⟨rfl, b2⟩; have hs2 : w.heap.size + 2 ≤ w2.heap.size := Nat.le_trans hs1 b2.size; have hc2 : ∀ b o, b < w.heap.size + 2 → w2.cell? ⟨b, o, none⟩ = _ := fun b o h => b2.cell (p := ⟨b, o, none⟩) (Nat.lt_of_lt_of_le h hs1)))
  all_goals
   go_wp2
   go_ret
   exact ⟨ret_bool HA.out.symm, ((Joins.below_alloc2 _ _ _).drew.trans (b1.mono (by simp; omega))).trans (b2.mono (by omega))⟩
 ·have HA : Hid (alikeB (p, zs) (q, ys) = ((p.src == q.src) && (p.dst == q.dst) && (p.kind == q.kind) && (p.id == q.id))) := (show alikeB (p, zs) (q, ys) = _ by simp [alikeB, hv, hu])
  have K2 : Hid (∀ W : World, Calls Tryz.prog 67 #[.agg #[.int .i64 q.src, .int .i64 q.dst, .int .i64 q.kind, .int .i64 q.id, .int .i64 q.hops, .bool q.whole, .int .i64 q.off, .bool q.more, .slice b ys.length d]] W fun e w' => e = .returned (.bool true) ∧ Below W.heap.size W w') := fun W => by
   have h := implOk_any q b ys.length d W hq
   unfold Pk.val at h
   rw [hu] at h
   exact h
  have K3 : Hid (∀ W : World, Calls Tryz.prog 61 #[.agg #[.int .i64 p.src, .int .i64 p.dst, .int .i64 p.kind, .int .i64 p.id, .int .i64 p.hops, .bool p.whole, .int .i64 p.off, .bool p.more, .slice a zs.length c]] W fun e w' => e = .returned (.agg #[.int .i64 p.src, .int .i64 p.dst, .int .i64 p.kind, .int .i64 p.id, .int .i64 p.hops, .bool p.whole, .int .i64 p.off, .bool p.more, .int .i64 zs.length]) ∧ Below W.heap.size W w') := fun W => by
   have h := keyed_any p a zs.length c W
   unfold Pk.val Pk.kval at h
   exact h
  have K4 : Hid (∀ W : World, Calls Tryz.prog 61 #[.agg #[.int .i64 q.src, .int .i64 q.dst, .int .i64 q.kind, .int .i64 q.id, .int .i64 q.hops, .bool q.whole, .int .i64 q.off, .bool q.more, .slice b ys.length d]] W fun e w' => e = .returned (.agg #[.int .i64 q.src, .int .i64 q.dst, .int .i64 q.kind, .int .i64 q.id, .int .i64 q.hops, .bool q.whole, .int .i64 q.off, .bool q.more, .int .i64 ys.length]) ∧ Below W.heap.size W w') := fun W => by
   have h := keyed_any q b ys.length d W
   unfold Pk.val Pk.kval at h
   exact h
  clear hv hu
  have hg := eqg51
  have he := eql51
  have hfd := fld46
  go_enter Tryz.func73, Tryz.ntmps73
  go_wp2
  go_region_held3 (fun w' => w.heap.size + 2 ≤ w'.heap.size ∧ w'.cell? ⟨w.heap.size, 0, none⟩ = some (.int .i64 p.src) ∧ w'.cell? ⟨w.heap.size, 1, none⟩ = some (.int .i64 p.dst) ∧ w'.cell? ⟨w.heap.size, 2, none⟩ = some (.int .i64 p.kind) ∧ w'.cell? ⟨w.heap.size, 3, none⟩ = some (.int .i64 p.id) ∧ w'.cell? ⟨w.heap.size, 4, none⟩ = some (.int .i64 p.hops) ∧ w'.cell? ⟨w.heap.size, 5, none⟩ = some (.bool p.whole) ∧ w'.cell? ⟨w.heap.size, 6, none⟩ = some (.int .i64 p.off) ∧ w'.cell? ⟨w.heap.size, 7, none⟩ = some (.bool p.more) ∧ w'.cell? ⟨w.heap.size, 8, none⟩ = some (.slice a zs.length c) ∧ w'.cell? ⟨w.heap.size + 1, 0, none⟩ = some (.int .i64 q.src) ∧ w'.cell? ⟨w.heap.size + 1, 1, none⟩ = some (.int .i64 q.dst) ∧ w'.cell? ⟨w.heap.size + 1, 2, none⟩ = some (.int .i64 q.kind) ∧ w'.cell? ⟨w.heap.size + 1, 3, none⟩ = some (.int .i64 q.id) ∧ w'.cell? ⟨w.heap.size + 1, 4, none⟩ = some (.int .i64 q.hops) ∧ w'.cell? ⟨w.heap.size + 1, 5, none⟩ = some (.bool q.whole) ∧ w'.cell? ⟨w.heap.size + 1, 6, none⟩ = some (.int .i64 q.off) ∧ w'.cell? ⟨w.heap.size + 1, 7, none⟩ = some (.bool q.more) ∧ w'.cell? ⟨w.heap.size + 1, 8, none⟩ = some (.slice b ys.length d)) (go_keep)
   (first
    | (go_at_call 67; with_reducible refine (K1.out _).mono ?_; rintro e w1 ⟨rfl, b1⟩; have hs1 : w.heap.size + 2 ≤ w1.heap.size := Nat.le_trans (by simp) b1.size; have hc1 : ∀ b o, b < w.heap.size + 2 → w1.cell? ⟨b, o, none⟩ = _ := fun b o h => b1.cell (p := ⟨b, o, none⟩) (by simpa using h))
    | (go_at_call 67; with_reducible refine (K2.out _).mono ?_; rintro e w2 ⟨rfl, b2⟩; have hs2 : w.heap.size + 2 ≤ w2.heap.size := Nat.le_trans hs1 b2.size; have hc2 : ∀ b o, b < w.heap.size + 2 → w2.cell? ⟨b, o, none⟩ = _ := fun b o h => b2.cell (p := ⟨b, o, none⟩) (Nat.lt_of_lt_of_le h hs1))
    | (go_at_call 61; with_reducible refine (K3.out _).mono ?_; rintro e w3 ⟨rfl, b3⟩; have hs3 : w.heap.size + 2 ≤ w3.heap.size := Nat.le_trans hs2 b3.size; have hc3 : ∀ b o, b < w.heap.size + 2 → w3.cell? ⟨b, o, none⟩ = _ := fun b o h => b3.cell (p := ⟨b, o, none⟩) (Nat.lt_of_lt_of_le h hs2))
    | (go_at_call 61; with_reducible refine (K4.out _).mono ?_; rintro e w4 ⟨rfl, b4⟩; have hs4 : w.heap.size + 2 ≤ w4.heap.size := Nat.le_trans hs3 b4.size; have hc4 : ∀ b o, b < w.heap.size + 2 → w4.cell? ⟨b, o, none⟩ = _ := fun b o h => b4.cell (p := ⟨b, o, none⟩) (Nat.lt_of_lt_of_le h hs3)))
  go_wp2
  go_ret
  exact ⟨ret_bool HA.out.symm, (((Joins.below_alloc2 _ _ _).drew.trans (b1.mono (by simp; omega))).trans (b2.mono (by omega))).trans ((b3.mono (by omega)).trans (b4.mono (by omega)))⟩
end Go.Proofs.YtjbkgmbakjnlhaaGreatDoor
