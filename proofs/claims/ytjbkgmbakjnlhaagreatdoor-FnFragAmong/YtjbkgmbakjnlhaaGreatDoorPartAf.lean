import Derived.Test.YtjbkgmbakjnlhaaGreatDoorPartAd
import Derived.Test.YtjbkgmbakjnlhaaGreatDoorPartAe
import Derived.Lib.Bytes
import Derived.Deep.LoopGhost
import Derived.Deep.WholeRow
namespace Go.Proofs.YtjbkgmbakjnlhaaGreatDoor
set_option maxRecDepth 100000
theorem u8_inj {a b : Int} (ha : 0 ≤ a ∧ a ≤ 255) (hb : 0 ≤ b ∧ b ≤ 255) (h : UInt8.ofNat a.toNat = UInt8.ofNat b.toNat) : a = b := by
 have := congrArg UInt8.toNat h
 simp at this
 omega
theorem bytes_inj {xs ys : List Int} (hx : ∀ z ∈ xs, 0 ≤ z ∧ z ≤ 255) (hy : ∀ z ∈ ys, 0 ≤ z ∧ z ≤ 255) : ((strOfNums xs).toList == (strOfNums ys).toList) = true ↔ xs = ys := by
 rw [beq_iff_eq, Lib.strOfNums_toList, Lib.strOfNums_toList]
 constructor
 ·intro h
  induction xs generalizing ys with
  | nil => cases ys with
   | nil => rfl
   | cons y r => simp [Lib.bytesOf] at h
  | cons x r ih =>
   cases ys with
   | nil => simp [Lib.bytesOf] at h
   | cons y s =>
    simp only [Lib.bytesOf, List.map_cons, List.cons.injEq] at h
    have e := u8_inj (hx x (List.mem_cons_self ..)) (hy y (List.mem_cons_self ..)) h.1
    rw [e, ih (fun z hz => hx z (List.mem_cons_of_mem _ hz)) (fun z hz => hy z (List.mem_cons_of_mem _ hz)) h.2]
 ·rintro rfl; rfl
def BytesOk (x : PB) : Prop := ∀ z ∈ x.2, 0 ≤ z ∧ z ≤ 255
theorem hasB_iff (x : PB) (j : Int) : hasB x j = true ↔ x.1.off ≤ j ∧ j < endOf x := by
 unfold hasB; simp
theorem fromI_le (x y : PB) : x.1.off ≤ fromI x y ∧ y.1.off ≤ fromI x y ∧ (fromI x y = x.1.off ∨ fromI x y = y.1.off) := by
 unfold fromI; split <;> omega
theorem toI_le (x y : PB) : toI x y ≤ endOf x ∧ toI x y ≤ endOf y ∧ (toI x y = endOf x ∨ toI x y = endOf y) := by
 unfold toI; split <;> omega
theorem has_both (x y : PB) (j : Int) : (hasB x j = true ∧ hasB y j = true) ↔ fromI x y ≤ j ∧ j < toI x y := by
 rw [hasB_iff, hasB_iff]
 have := fromI_le x y
 have := toI_le x y
 constructor
 ·omega
 ·omega
def Clash (x y : PB) : Prop := ∃ j : Int, hasB x j = true ∧ hasB y j = true ∧ byteAt x j ≠ byteAt y j
theorem cutD_get (x y z : PB) (hz : z = x ∨ z = y) (i : Nat) (hi : i < (toI x y - fromI x y).toNat) : (cutD x y z)[i]? = some (byteAt z (fromI x y + i)) := by
 have f := fromI_le x y
 have t := toI_le x y
 unfold cutD byteAt
 have hl : (fromI x y - z.1.off).toNat + i < z.2.length := by
  rcases hz with rfl | rfl <;> simp only [endOf] at t <;> omega
 rw [List.getElem?_take, if_pos hi, List.getElem?_drop, show (fromI x y + (i : Int) - z.1.off).toNat = (fromI x y - z.1.off).toNat + i by rcases hz with rfl | rfl <;> omega]
 simp [List.getD, List.getElem?_eq_getElem hl]
theorem cutD_len (x y z : PB) (hz : z = x ∨ z = y) : (cutD x y z).length = (toI x y - fromI x y).toNat := by
 have f := fromI_le x y
 have t := toI_le x y
 unfold cutD
 rw [List.length_take, List.length_drop]
 rcases hz with rfl | rfl <;> simp only [endOf] at t <;> omega
theorem cutD_byte {x y z : PB} (h : BytesOk z) : ∀ b ∈ cutD x y z, 0 ≤ b ∧ b ≤ 255 := fun b hb => h b (List.mem_of_mem_drop (List.mem_of_mem_take hb))
theorem differ_iff {x y : PB} (hx : BytesOk x) (hy : BytesOk y) : differB x y = true ↔ Clash x y := by
 have hb := bytes_inj (cutD_byte (x := x) (y := y) hx) (cutD_byte (x := x) (y := y) hy)
 have lx := cutD_len x y x (Or.inl rfl)
 have ly := cutD_len x y y (Or.inr rfl)
 unfold differB
 rw [Bool.and_eq_true, decide_eq_true_eq, Bool.not_eq_true', ← Bool.not_eq_true, hb]
 constructor
 ·rintro ⟨hlt, hne⟩
  apply Classical.byContradiction
  intro hc
  apply hne
  apply List.ext_getElem?
  intro i
  by_cases hi : i < (toI x y - fromI x y).toNat
  ·rw [cutD_get x y x (Or.inl rfl) i hi, cutD_get x y y (Or.inr rfl) i hi]
   congr 1
   apply Classical.byContradiction
   intro hn
   have := (has_both x y (fromI x y + i)).2 ⟨by omega, by omega⟩
   exact hc ⟨_, this.1, this.2, hn⟩
  ·rw [List.getElem?_eq_none (by omega), List.getElem?_eq_none (by omega)]
 ·rintro ⟨j, h1, h2, hn⟩
  have hj := (has_both x y j).1 ⟨h1, h2⟩
  refine ⟨by omega, fun e => hn ?_⟩
  have a := cutD_get x y x (Or.inl rfl) (j - fromI x y).toNat (by omega)
  have b := cutD_get x y y (Or.inr rfl) (j - fromI x y).toNat (by omega)
  rw [show fromI x y + (((j - fromI x y).toNat : Nat) : Int) = j by omega] at a b
  rw [e, b] at a
  exact (Option.some.inj a).symm
theorem any_clash (x y : PB) : (List.range x.2.length).any (fun t => hasB y (x.1.off + t) && (byteAt x (x.1.off + t) != byteAt y (x.1.off + t))) = true ↔ Clash x y := by
 rw [List.any_eq_true]
 constructor
 ·rintro ⟨t, ht, h⟩
  rw [List.mem_range] at ht
  simp only [Bool.and_eq_true, bne_iff_ne, ne_eq] at h
  exact ⟨x.1.off + t, (hasB_iff x _).2 (by unfold endOf; omega), h.1, h.2⟩
 ·rintro ⟨j, h1, h2, hn⟩
  have hj := (hasB_iff x j).1 h1
  unfold endOf at hj
  refine ⟨(j - x.1.off).toNat, List.mem_range.2 (by omega), ?_⟩
  rw [show x.1.off + (((j - x.1.off).toNat : Nat) : Int) = j by omega]
  simp [h2, hn]
theorem clash_symm {x y : PB} (h : Clash x y) : Clash y x := by
 obtain ⟨j, a, b, c⟩ := h
 exact ⟨j, b, a, fun e => c e.symm⟩
theorem against_iff (x y : PB) : againstB x y = true ↔ Clash x y ∨ (x.1.more = false ∧ (endOf x < endOf y ∨ (y.1.more = false ∧ endOf y ≠ endOf x))) := by
 unfold againstB
 rw [Bool.or_eq_true, any_clash]
 simp
theorem behind_iff (x y : PB) : behindB x y = true ↔ y.1.more = false ∧ endOf y < endOf x := by
 unfold behindB; simp
theorem dis_iff {x y : PB} (hx : BytesOk x) (hy : BytesOk y) : disB x y = true ↔ againstB x y = true ∨ againstB y x = true := by
 unfold disB
 rw [Bool.or_eq_true, Bool.or_eq_true, differ_iff hx hy, behind_iff, behind_iff, against_iff, against_iff]
 constructor
 ·rintro ((h | h) | h)
  ·exact Or.inl (Or.inl h)
  ·exact Or.inr (Or.inr ⟨h.1, Or.inl h.2⟩)
  ·exact Or.inl (Or.inr ⟨h.1, Or.inl h.2⟩)
 ·rintro ((h | ⟨h, h1 | ⟨h2, h1⟩⟩) | (h | ⟨h, h1 | ⟨h2, h1⟩⟩))
  ·exact Or.inl (Or.inl h)
  ·exact Or.inr ⟨h, h1⟩
  ·rcases Int.lt_or_gt_of_ne h1 with h3 | h3
   ·exact Or.inl (Or.inr ⟨h2, h3⟩)
   ·exact Or.inr ⟨h, h3⟩
  ·exact Or.inl (Or.inl (clash_symm h))
  ·exact Or.inl (Or.inr ⟨h, h1⟩)
  ·rcases Int.lt_or_gt_of_ne h1 with h3 | h3
   ·exact Or.inr ⟨h2, h3⟩
   ·exact Or.inl (Or.inr ⟨h, h3⟩)
theorem against_self (x : PB) : againstB x x = false := by
 rw [← Bool.not_eq_true, against_iff]
 rintro (⟨j, _, _, h⟩ | ⟨_, h | ⟨_, h⟩⟩)
 ·exact h rfl
 ·omega
 ·exact h rfl
theorem disagree_pairs {L : List PB} (hb : ∀ x ∈ L, BytesOk x) : disagreeL L = true ↔ ∃ (i j : Nat) (x y : PB), j < i ∧ L[i]? = some x ∧ L[j]? = some y ∧ disB x y = true := by
 rw [disagreeL_iff]
 constructor
 ·rintro ⟨x, hx, y, hy, h⟩
  obtain ⟨i, hi⟩ := List.getElem?_of_mem hx
  obtain ⟨j, hj⟩ := List.getElem?_of_mem hy
  rcases Nat.lt_trichotomy i j with hij | hij | hij
  ·exact ⟨j, i, y, x, hij, hj, hi, (dis_iff (hb y hy) (hb x hx)).2 (Or.inr h)⟩
  ·subst hij
   rw [hi] at hj
   obtain rfl := Option.some.inj hj
   rw [against_self] at h
   cases h
  ·exact ⟨i, j, x, y, hij, hi, hj, (dis_iff (hb x hx) (hb y hy)).2 (Or.inl h)⟩
 ·rintro ⟨i, j, x, y, _, hi, hj, h⟩
  have hx := List.mem_of_getElem? hi
  have hy := List.mem_of_getElem? hj
  rcases (dis_iff (hb x hx) (hb y hy)).1 h with h | h
  ·exact ⟨x, hx, y, hy, h⟩
  ·exact ⟨y, hy, x, hx, h⟩
end Go.Proofs.YtjbkgmbakjnlhaaGreatDoor
namespace Go.Proofs.YtjbkgmbakjnlhaaGreatDoor
set_option maxRecDepth 100000
open Go.RowKit
theorem ok_bounds {p : Pk} {len : Nat} (h : okB p len = true) : 0 ≤ p.off ∧ p.off ≤ 128 ∧ p.off + len ≤ 128 := by
 simp only [okB, offB, inB, Bool.and_eq_true, decide_eq_true_eq] at h
 omega
set_option maxHeartbeats 3200000 in
theorem closure_any (lb g n cl i j : Nat) (xs : List RV) (x y : RV) (w : World) (hn : n = xs.length) (hL : RL w g xs) (hx : xs[i]? = some x) (hy : xs[j]? = some y) (hlb : w.cell? ⟨lb, 0, none⟩ = some (.slice (some ⟨g, 0, none⟩) n cl)) (hlt : lb < w.heap.size)
  (ox : okB x.p x.zs.length = true) (oy : okB y.p y.zs.length = true) (hi : i < n) (hj : j < n) (_hm : n ≤ 40) :
  Calls Tryz.prog 74 #[.int .i64 i, .int .i64 j, .pointer (some ⟨lb, 0, none⟩)] w fun e w' => e = .returned (.bool (disB x.key y.key)) ∧ Below w.heap.size w w' := by
 have X := hL.elem i x hx
 have Y := hL.elem j y hy
 have hX := hL.each x (List.mem_of_getElem? hx)
 have hY := hL.each y (List.mem_of_getElem? hy)
 have hg := hL.lt
 have bx := ok_bounds ox
 have by_ := ok_bounds oy
 have hi' : (i : Int) < (n : Int) := by omega
 have hj' : (j : Int) < (n : Int) := by omega
 clear hL hx hy hn
 obtain ⟨c0, c1, c2, c3, c4, c5, c6, c7, c8⟩ := id X
 obtain ⟨k0, k1, k2, k3, k4, k5, k6, k7, k8⟩ := id Y
 have HX : Hid (ROk w x) := hX
 have HY : Hid (ROk w y) := hY
 clear hX hY
 have hlx := HX.out.len
 have hly := HY.out.len
 go_enter Tryz.func74, Tryz.ntmps74
 go_upto_region 1 with fail
 go_cut [6, 7] (fun u v wx => ∃ b6 b7 : Nat, u = .pointer (some ⟨b6, 0, none⟩) ∧ v = .pointer (some ⟨b7, 0, none⟩) ∧ Hid (Boxed wx b6 x.p (.slice x.a x.zs.length x.c)) ∧ Hid (Boxed wx b7 y.p (.slice y.a y.zs.length y.c)) ∧ Hid (Below w.heap.size w wx))
 case first =>
  go_region
  all_goals
   go_wp2
   go_meet
   case rel =>
    first
     | exact ⟨w.heap.size, w.heap.size + 1, rfl, rfl, ((Boxed.new w x.p _ 29).below (zBa _ _)).below (draw1 _), (Boxed.newAt (w.alloc _) (w.heap.size + 1) y.p _ 29 (by simp)).below (draw1 _), (Joins.below_alloc2 _ _ _).drew⟩
     | exact ⟨w.heap.size + 1, w.heap.size, rfl, rfl, (Boxed.newAt (w.alloc _) (w.heap.size + 1) x.p _ 29 (by simp)).below (draw1 _), ((Boxed.new w y.p _ 29).below (zBa _ _)).below (draw1 _), (Joins.below_alloc2 _ _ _).drew⟩
 case rest =>
  obtain ⟨b6, b7, rfl, rfl, X6, Y7, HB⟩ := hcut
  clear c0 c1 c2 c3 c4 c5 c6 c7 c8 k0 k1 k2 k3 k4 k5 k6 k7 k8 X Y hlb
  have hs := HB.out.size
  obtain ⟨l0, c0, c1, c2, c3, c4, c5, c6, c7, c8⟩ := id X6.out
  obtain ⟨l1, k0, k1, k2, k3, k4, k5, k6, k7, k8⟩ := id Y7.out
  have HD : Hid (disB x.key y.key = (differB x.key y.key || behindB x.key y.key || behindB y.key x.key)) := rfl
  go_wp2_with fail
  refine (differ_any x.p y.p x.a y.a x.zs y.zs x.c y.c _ bx.1 bx.2.1 by_.1 by_.2.1 (HX.out.below HB.out) (HY.out.below HB.out)).mono ?_
  rintro e w1 ⟨rfl, b1⟩
  have B1 : Hid (Below w.heap.size w w1) := HB.out.trans (b1.mono hs)
  have X1 := X6.out.below b1
  have Y1 := Y7.out.below b1
  have hs1 := B1.out.size
  clear c0 c1 c2 c3 c4 c5 c6 c7 c8 k0 k1 k2 k3 k4 k5 k6 k7 k8 X6 Y7 HB b1 l0 l1 hs
  cases hd : differB (x.p, x.zs) (y.p, y.zs)
  ·obtain ⟨l0, c0, c1, c2, c3, c4, c5, c6, c7, c8⟩ := id X1
   obtain ⟨l1, k0, k1, k2, k3, k4, k5, k6, k7, k8⟩ := id Y1
   go_wp2_with fail
   refine (endsBehind_any x.p y.p x.a y.a x.zs y.zs x.c y.c _ bx.1 bx.2.1 by_.1 by_.2.1 hlx hly).mono ?_
   rintro e w2 ⟨rfl, b2⟩
   have B2 : Hid (Below w.heap.size w w2) := B1.out.trans (b2.mono hs1)
   have X2 := X1.below b2
   have Y2 := Y1.below b2
   have hs2 := B2.out.size
   clear c0 c1 c2 c3 c4 c5 c6 c7 c8 k0 k1 k2 k3 k4 k5 k6 k7 k8 X1 Y1 b2 l0 l1
   cases hb : behindB (x.p, x.zs) (y.p, y.zs)
   ·obtain ⟨l0, c0, c1, c2, c3, c4, c5, c6, c7, c8⟩ := id X2
    obtain ⟨l1, k0, k1, k2, k3, k4, k5, k6, k7, k8⟩ := id Y2
    have HE : Hid (disB x.key y.key = behindB (y.p, y.zs) (x.p, x.zs)) := by
     show disB x.key y.key = _
     rw [HD.out]
     show (differB (x.p, x.zs) (y.p, y.zs) || behindB (x.p, x.zs) (y.p, y.zs) || _) = _
     rw [hd, hb]
     rfl
    clear hd hb
    go_wp2_with fail
    refine (endsBehind_any y.p x.p y.a x.a y.zs x.zs y.c x.c _ by_.1 by_.2.1 bx.1 bx.2.1 hly hlx).mono ?_
    rintro e w3 ⟨rfl, b3⟩
    go_wp2
    go_ret
    exact ⟨ret_bool HE.out.symm, B2.out.trans (b3.mono hs2)⟩
   ·have HE : Hid (disB x.key y.key = true) := by
     show disB x.key y.key = _
     rw [HD.out]
     show (differB (x.p, x.zs) (y.p, y.zs) || behindB (x.p, x.zs) (y.p, y.zs) || _) = _
     rw [hd, hb]
     rfl
    clear X2 Y2 hd
    go_wp2
    go_ret
    exact ⟨ret_bool HE.out.symm, B2.out⟩
  ·have HE : Hid (disB x.key y.key = true) := by
    show disB x.key y.key = _
    rw [HD.out]
    show (differB (x.p, x.zs) (y.p, y.zs) || _ || _) = _
    rw [hd]
    rfl
   clear X1 Y1
   go_wp2
   go_ret
   exact ⟨ret_bool HE.out.symm, B1.out⟩
end Go.Proofs.YtjbkgmbakjnlhaaGreatDoor
namespace Go.Proofs.YtjbkgmbakjnlhaaGreatDoor
set_option maxRecDepth 100000
open Go.RowKit
def Calm (xs : List RV) (i : Nat) : Prop := ∀ a b x y, a < i → b < a → xs[a]? = some x → xs[b]? = some y → disB x.key y.key = false
def CalmAt (xs : List RV) (i j : Nat) : Prop := ∀ b x y, b < j → xs[i]? = some x → xs[b]? = some y → disB x.key y.key = false
theorem Calm.succ {xs : List RV} {i : Nat} (h : Calm xs i) (h2 : CalmAt xs i i) : Calm xs (i + 1) := by
 intro a b x y ha hb hx hy
 rcases Nat.lt_or_ge a i with h' | h'
 ·exact h a b x y h' hb hx hy
 ·obtain rfl : a = i := by omega
  exact h2 b x y hb hx hy
theorem CalmAt.succ {xs : List RV} {i j : Nat} {x y : RV} (h : CalmAt xs i j) (hx : xs[i]? = some x) (hy : xs[j]? = some y) (hd : disB x.key y.key = false) : CalmAt xs i (j + 1) := by
 intro b x' y' hb hx' hy'
 rcases Nat.lt_or_ge b j with h' | h'
 ·exact h b x' y' h' hx' hy'
 ·obtain rfl : b = j := by omega
  rw [hx] at hx'
  rw [hy] at hy'
  obtain rfl := Option.some.inj hx'
  obtain rfl := Option.some.inj hy'
  exact hd
theorem get_key {xs : List RV} {k : Nat} {y : PB} (h : (xs.map RV.key)[k]? = some y) : ∃ x, xs[k]? = some x ∧ x.key = y := by
 rw [List.getElem?_map] at h
 cases hx : xs[k]? with
 | none => rw [hx] at h; cases h
 | some z => rw [hx] at h; exact ⟨z, rfl, Option.some.inj h⟩
theorem keys_ok {w : World} {xs : List RV} (h : ∀ x ∈ xs, ROk w x) : ∀ x ∈ xs.map RV.key, BytesOk x := by
 intro y hy
 obtain ⟨x, hx, rfl⟩ := List.mem_map.1 hy
 exact (h x hx).byte
theorem calm_all {w : World} {xs : List RV} (h : Calm xs xs.length) (hb : ∀ x ∈ xs, ROk w x) : disagreeL (xs.map RV.key) = false := by
 rw [← Bool.not_eq_true, disagree_pairs (keys_ok hb)]
 rintro ⟨i, j, x, y, hij, hx, hy, hd⟩
 obtain ⟨x', hx', rfl⟩ := get_key hx
 obtain ⟨y', hy', rfl⟩ := get_key hy
 have hi : i < xs.length := by
  rcases Nat.lt_or_ge i xs.length with h' | h'
  ·exact h'
  ·rw [List.getElem?_eq_none h'] at hx'; cases hx'
 rw [h i j x' y' hi hij hx' hy'] at hd
 cases hd
theorem not_calm {w : World} {xs : List RV} {i j : Nat} {x y : RV} (hij : j < i) (hx : xs[i]? = some x) (hy : xs[j]? = some y) (hd : disB x.key y.key = true) (hb : ∀ x ∈ xs, ROk w x) : disagreeL (xs.map RV.key) = true :=
 (disagree_pairs (keys_ok hb)).2 ⟨i, j, x.key, y.key, hij, map_get hx, map_get hy, hd⟩
set_option maxHeartbeats 3200000 in
theorem anyDisagree_any (g cl : Nat) (xs : List RV) (w : World) (hL : RL w g xs) (hm : xs.length ≤ 40) (ho : ∀ x ∈ xs, okB x.p x.zs.length = true) :
  Calls Tryz.prog 42 #[.slice (some ⟨g, 0, none⟩) xs.length cl] w fun e w' => e = .returned (.bool (disagreeL (xs.map RV.key))) ∧ Below w.heap.size w w' := by
 have hmf : ∀ (fn : Fn) (first cap : Array Value) (w : World), (Instr.makeFunc fn first cap).run Tryz.prog w = .ok (.func fn first cap) w := fun _ _ _ _ => rfl
 have HL : Hid (RL w g xs) := hL
 have HO : Hid (∀ x ∈ xs, okB x.p x.zs.length = true) := ho
 have HE : Hid (∀ x ∈ xs, ROk w x) := hL.each
 clear hL ho
 go_enter Tryz.func42, Tryz.ntmps42
 go_wp2
 go_step3
 go_wp2
 go_step3
 go_wp2
 go_loopg [3, 10] xs.length (fun gk f i wr => ∃ k : Nat, k + gk = xs.length ∧ f = .bool false ∧ i = .int .i64 k ∧ Hid (Calm xs k) ∧ Hid (Below (w.heap.size + 1) (w.alloc (.cells #[.slice (some ⟨g, 0, none⟩) xs.length cl] 23)) wr))
 case atStart => exact ⟨0, by omega, rfl, rfl, fun a b x y h => by omega, Below.refl _ _⟩
 case round =>
  obtain ⟨k, hk, rfl, rfl, HC, HB⟩ := hrel
  have hsz : w.heap.size + 1 ≤ wr.heap.size := Nat.le_trans (by simp) HB.out.size
  have B0 : Hid (Below w.heap.size w wr) := (zBa _ _).trans (HB.out.mono (by omega))
  cases gk with
  | zero =>
   have hz : ¬ ((k : Int) < (xs.length : Int)) := by omega
   go_wp2
   try rw [Exit.noGoto_ret]
   go_ret
   have ek : k = xs.length := by omega
   subst ek
   exact ⟨ret_bool (calm_all HC.out HE.out).symm, B0.out⟩
  | succ gk =>
   have hlt : k < xs.length := by omega
   have hi : (k : Int) < (xs.length : Int) := by omega
   obtain ⟨x, hx⟩ := get_of_lt hlt
   have HX : Hid (xs[k]? = some x) := hx
   clear hx B0
   go_wp2
   go_loopg [3, 14] k (fun gj f j wq => ∃ m : Nat, m + gj = k ∧ f = .bool false ∧ j = .int .i64 m ∧ Hid (CalmAt xs k m) ∧ Hid (Below (w.heap.size + 1) (w.alloc (.cells #[.slice (some ⟨g, 0, none⟩) xs.length cl] 23)) wq))
   case atStart => exact ⟨0, by omega, rfl, rfl, fun b x y h => by omega, HB.out⟩
   case round =>
    obtain ⟨m, hmk, rfl, rfl, HM, HQ⟩ := hrel
    cases gk with
    | zero =>
     have hz : ¬ ((m : Int) < (k : Int)) := by omega
     go_wp2
     have em : m = k := by omega
     subst em
     go_roundg gk
     case measure => omega
     case rel => exact ⟨m + 1, by omega, rfl, by go_num, HC.out.succ HM.out, HQ.out⟩
    | succ gj =>
     have hmk' : (m : Int) < (k : Int) := by omega
     obtain ⟨y, hy⟩ := get_of_lt (show m < xs.length by omega)
     have HY : Hid (xs[m]? = some y) := hy
     clear hy
     have hsq : w.heap.size + 1 ≤ wr.heap.size := Nat.le_trans (by simp) HQ.out.size
     have BQ : Hid (Below w.heap.size w wr) := (zBa _ _).trans (HQ.out.mono (by omega))
     have cb : wr.cell? ⟨w.heap.size, 0, none⟩ = some (.slice (some ⟨g, 0, none⟩) xs.length cl) := by
      rw [HQ.out.cell (p := ⟨w.heap.size, 0, none⟩) (by simp), World.cell?_alloc_at _ _ _ _ rfl]
      rfl
     have CL : Hid (Calls Tryz.prog 74 #[.int .i64 k, .int .i64 m, .pointer (some ⟨w.heap.size, 0, none⟩)] wr fun e w' => e = .returned (.bool (disB x.key y.key)) ∧ Below wr.heap.size wr w') :=
      closure_any w.heap.size g xs.length cl k m xs x y wr rfl (HL.out.below BQ.out) HX.out HY.out cb (by omega) (HO.out x (List.mem_of_getElem? HX.out)) (HO.out y (List.mem_of_getElem? HY.out)) hlt (by omega) hm
     clear cb
     cases hd : disB x.key y.key
     ·go_wp2_with (go_at_call 74; refine CL.out.mono ?_; rw [hd]; rintro e w1 ⟨rfl, b1⟩)
      go_roundg gj
      case measure => omega
      case rel => exact ⟨m + 1, by omega, rfl, by go_num, HM.out.succ HX.out HY.out hd, HQ.out.trans (b1.mono hsq)⟩
     ·have HD : Hid (disagreeL (xs.map RV.key) = true) := not_calm (show m < k by omega) HX.out HY.out hd HE.out
      go_wp2_with (go_at_call 74; refine CL.out.mono ?_; rw [hd]; rintro e w1 ⟨rfl, b1⟩)
      try rw [Exit.noGoto_ret]
      go_ret
      exact ⟨ret_bool HD.out.symm, BQ.out.trans (b1.mono (by omega))⟩
end Go.Proofs.YtjbkgmbakjnlhaaGreatDoor
namespace Go.Proofs.YtjbkgmbakjnlhaaGreatDoor
set_option maxRecDepth 100000
open Go.RowKit
def toldI (L : List PB) : Int := match endL L with | some e => e | none => 0
def toldB (L : List PB) : Bool := (endL L).isSome
theorem endL_at {L : List PB} {k : Nat} {x : PB} (hx : L[k]? = some x) (hm : x.1.more = false) (h : ∀ j y, j < k → L[j]? = some y → y.1.more = true) : endL L = some (endOf x) := by
 induction L generalizing k with
 | nil => simp at hx
 | cons z r ih =>
  unfold endL
  match k with
  | 0 =>
   simp at hx
   subst hx
   simp [List.find?, hm]
  | k + 1 =>
   have hz := h 0 z (by omega) rfl
   simp at hx
   have := ih hx (fun j y hj hy => h (j + 1) y (by omega) (by simpa using hy))
   unfold endL at this
   simp [List.find?, hz]
   simpa using this
theorem endL_none {L : List PB} (h : ∀ (j : Nat) y, L[j]? = some y → y.1.more = true) : endL L = none := by
 unfold endL
 rw [List.find?_eq_none.2]
 ·rfl
 ·intro y hy
  obtain ⟨j, hj⟩ := List.getElem?_of_mem hy
  simp [h j y hj]
set_option maxHeartbeats 3200000 in
theorem toldEnd_any (g cl : Nat) (xs : List RV) (w : World) (hL : RL w g xs) (hm : xs.length ≤ 40) (ho : ∀ x ∈ xs, 0 ≤ x.p.off ∧ x.p.off ≤ 128) :
  Calls Tryz.prog 43 #[.slice (some ⟨g, 0, none⟩) xs.length cl] w fun e w' => e = .returned (.tuple #[.int .i64 (toldI (xs.map RV.key)), .bool (toldB (xs.map RV.key))]) ∧ Below w.heap.size w w' := by
 have HL : Hid (RL w g xs) := hL
 have HO : Hid (∀ x ∈ xs, 0 ≤ x.p.off ∧ x.p.off ≤ 128) := ho
 clear hL ho
 go_enter Tryz.func43, Tryz.ntmps43
 go_wp2
 go_loopw [8] (fun i wr => ∃ k : Nat, k ≤ xs.length ∧ i = .int .i64 k ∧ Hid (∀ j x, j < k → xs[j]? = some x → x.p.more = true) ∧ Hid (Below w.heap.size w wr)) (fun i _ => xs.length - (intOf i).toNat)
 case atStart => exact ⟨0, by omega, rfl, fun j x hj => by omega, Below.refl _ _⟩
 case round =>
  obtain ⟨k, hk, rfl, HC, HB⟩ := hrel
  have hsz := HB.out.size
  by_cases hlt : k < xs.length
  ·obtain ⟨x, hx⟩ := get_of_lt hlt
   have HX : Hid (xs[k]? = some x) := hx
   have Lr := HL.out.below HB.out
   have hxm := List.mem_of_getElem? hx
   have hp := (Lr.each x hxm).len
   have hgr := Lr.lt
   have Hk := Lr.elem k x hx
   have hi : (k : Int) < (xs.length : Int) := by omega
   obtain ⟨o0, o1⟩ := HO.out x hxm
   obtain ⟨p, a, c, zs⟩ := x
   obtain ⟨s2, d2, k2, i2, h2, w2, o2, m2⟩ := p
   clear hx Lr hxm
   obtain ⟨c0, c1, c2, c3, c4, c5, c6, c7, c8⟩ := Hk
   cases m2
   ·go_wp2_with (go_at_call 77; refine (endOf_any ⟨s2, d2, k2, i2, h2, w2, o2, false⟩ a zs.length c _ o0 o1 hp).mono ?_; rintro e w1 ⟨rfl, b1⟩)
    have HE : Hid (endL (xs.map RV.key) = some (o2 + (zs.length : Int))) := by
     refine endL_at (k := k) (map_get HX.out) rfl fun j y hj hy => ?_
     rw [List.getElem?_map] at hy
     cases hxj : xs[j]? with
     | none => rw [hxj] at hy; cases hy
     | some z =>
      rw [hxj] at hy
      obtain rfl := Option.some.inj hy
      exact HC.out j z hj hxj
    go_ret2
    refine ⟨?_, ?_⟩
    ·unfold toldI toldB
     rw [HE.out]
     rfl
    ·exact (HB.out.alloc hsz _).trans (b1.mono (by simp; omega))
   ·go_wp2
    go_roundw
    case rel =>
     refine ⟨k + 1, by omega, by go_num, fun j y hj hy => ?_, HB.out.alloc hsz _⟩
     rcases Nat.lt_or_ge j k with h | h
     ·exact HC.out j y h hy
     ·obtain rfl : j = k := by omega
      rw [HX.out] at hy
      obtain rfl := Option.some.inj hy
      rfl
    case measure => simp [intOf]; omega
  ·go_wp2
   go_ret2
   have ek : k = xs.length := by omega
   subst ek
   have HE : endL (xs.map RV.key) = none := by
    refine endL_none fun j y hy => ?_
    rw [List.getElem?_map] at hy
    cases hxj : xs[j]? with
    | none => rw [hxj] at hy; cases hy
    | some z =>
     rw [hxj] at hy
     obtain rfl := Option.some.inj hy
     refine HC.out j z ?_ hxj
     rcases Nat.lt_or_ge j xs.length with h | h
     ·exact h
     ·rw [List.getElem?_eq_none h] at hxj; cases hxj
   refine ⟨?_, HB.out⟩
   unfold toldI toldB
   rw [HE]
   rfl
end Go.Proofs.YtjbkgmbakjnlhaaGreatDoor
namespace Go.Proofs.YtjbkgmbakjnlhaaGreatDoor
set_option maxRecDepth 100000
open Go.RowKit
abbrev Tab := List (Int × Bool)
def tcells (T : Tab) : Array Value := (T.flatMap fun e => [Value.int .u8 e.1, Value.bool e.2]).toArray
def noTab : Tab := List.replicate 128 (0, false)
theorem tcells_size (T : Tab) : (tcells T).size = T.length * 2 := by
 unfold tcells
 rw [List.size_toArray]
 induction T with
 | nil => rfl
 | cons x r ih => simp only [List.flatMap_cons, List.length_append, ih, List.length_cons, List.length_nil]; omega
theorem flat2_at (T : Tab) (m j : Nat) (h : m < T.length) (hj : j < 2) : (T.flatMap fun e => [Value.int .u8 e.1, Value.bool e.2])[m * 2 + j]? = ([Value.int .u8 T[m].1, Value.bool T[m].2])[j]? := by
 induction T generalizing m with
 | nil => simp at h
 | cons x r ih =>
  rw [List.flatMap_cons]
  match m with
  | 0 => rw [List.getElem?_append_left (by simp; omega)]; simp
  | m + 1 =>
   rw [List.getElem?_append_right (by simp; omega), show (m + 1) * 2 + j - [Value.int .u8 x.1, Value.bool x.2].length = m * 2 + j by simp; omega]
   exact ih m (by simpa using h)
theorem tcells_at {T : Tab} {m : Nat} {e : Int × Bool} (h : T[m]? = some e) : (tcells T)[m * 2]? = some (.int .u8 e.1) ∧ (tcells T)[m * 2 + 1]? = some (.bool e.2) := by
 have hm : m < T.length := by
  rcases Nat.lt_or_ge m T.length with h' | h'
  ·exact h'
  ·rw [List.getElem?_eq_none h'] at h; cases h
 have he : T[m] = e := by rw [List.getElem?_eq_getElem hm] at h; exact Option.some.inj h
 have a := flat2_at T m 0 hm (by omega)
 have b := flat2_at T m 1 hm (by omega)
 rw [he] at a b
 unfold tcells
 rw [List.getElem?_toArray, List.getElem?_toArray]
 exact ⟨a, b⟩
theorem tcells_one (T : Tab) : (tcells T).all (·.oneCell') = true := by
 unfold tcells
 rw [Array.all_eq_true_iff_forall_mem]
 intro v hv
 rw [List.mem_toArray, List.mem_flatMap] at hv
 obtain ⟨e, _, hv⟩ := hv
 simp at hv
 rcases hv with rfl | rfl <;> rfl
theorem tcells_set (T : Tab) (m : Nat) (z : Int) (b : Bool) (h : m < T.length) : ((tcells T).setIfInBounds (m * 2) (.int .u8 z)).setIfInBounds (m * 2 + 1) (.bool b) = tcells (T.set m (z, b)) := by
 apply Array.ext_getElem?
 intro i
 have hs := tcells_size T
 have hs' := tcells_size (T.set m (z, b))
 rw [List.length_set] at hs'
 rw [Array.getElem?_setIfInBounds, Array.getElem?_setIfInBounds]
 by_cases hi : i < T.length * 2
 ·obtain ⟨q, j, rfl, hj⟩ : ∃ q j, i = q * 2 + j ∧ j < 2 := ⟨i / 2, i % 2, by omega, by omega⟩
  have hq : q < T.length := by omega
  have e1 := tcells_at (List.getElem?_eq_getElem hq)
  have e2 := tcells_at (T := T.set m (z, b)) (List.getElem?_eq_getElem (show q < (T.set m (z, b)).length by simpa using hq))
  rw [List.getElem_set] at e2
  by_cases hqm : m = q
  ·subst hqm
   simp only [if_true] at e2
   rcases (show j = 0 ∨ j = 1 by omega) with rfl | rfl
   ·rw [if_neg (by omega), if_pos (by omega), if_pos (by rw [hs]; omega)]
    exact e2.1.symm
   ·rw [if_pos rfl, if_pos (by rw [Array.size_setIfInBounds, hs]; omega)]
    exact e2.2.symm
  ·rw [if_neg hqm] at e2
   rw [if_neg (by omega), if_neg (by omega)]
   rcases (show j = 0 ∨ j = 1 by omega) with rfl | rfl
   ·exact e1.1.trans e2.1.symm
   ·exact e1.2.trans e2.2.symm
 ·rw [if_neg (by omega), if_neg (by omega), Array.getElem?_eq_none (by omega), Array.getElem?_eq_none (by omega)]
structure Says (L : List PB) (T : Tab) : Prop where
 len : T.length = 128
 true_ : ∀ (m : Nat) e, T[m]? = some e → e.2 = true → ∃ x ∈ L, hasB x m = true ∧ e.1 = byteAt x m
 all : ∀ (m : Nat) e, T[m]? = some e → (∃ x ∈ L, hasB x m = true) → e.2 = true
theorem says_no : Says [] noTab := by
 refine ⟨by simp [noTab], fun m e h he => ?_, fun m e h ⟨x, hx, _⟩ => by cases hx⟩
 unfold noTab at h
 rw [List.getElem?_replicate] at h
 split at h
 ·obtain rfl := Option.some.inj h
  cases he
 ·cases h
theorem has_take {x : PB} {i : Nat} (hi : i ≤ x.2.length) (m : Int) : hasB (x.1, x.2.take i) m = true ↔ x.1.off ≤ m ∧ m < x.1.off + i := by
 unfold hasB endOf
 simp only [List.length_take, Nat.min_eq_left hi]
 simp
theorem byte_take {x : PB} {i : Nat} {m : Int} (h0 : x.1.off ≤ m) (h : m < x.1.off + i) : byteAt (x.1, x.2.take i) m = byteAt x m := by
 unfold byteAt
 simp only [List.getD, List.getElem?_take]
 rw [if_pos (by omega)]
def upTo (L : List PB) (k i : Nat) (x : PB) : List PB := L.take k ++ [(x.1, x.2.take i)]
theorem says_begin {L : List PB} {k : Nat} {x : PB} {T : Tab} (h : Says (L.take k) T) : Says (upTo L k 0 x) T := by
 refine ⟨h.len, fun m e he hb => ?_, fun m e he ⟨y, hy, hm⟩ => ?_⟩
 ·obtain ⟨y, hy, r⟩ := h.true_ m e he hb
  exact ⟨y, List.mem_append_left _ hy, r⟩
 ·rcases List.mem_append.1 hy with hy | hy
  ·exact h.all m e he ⟨y, hy, hm⟩
  ·obtain rfl := List.mem_singleton.1 hy
   have := (has_take (x := x) (i := 0) (by omega) m).1 hm
   omega
theorem says_end {L : List PB} {k : Nat} {x : PB} {T : Tab} (hx : L[k]? = some x) (h : Says (upTo L k x.2.length x) T) : Says (L.take (k + 1)) T := by
 have e : upTo L k x.2.length x = L.take (k + 1) := by
  unfold upTo
  rw [List.take_length, List.take_add_one, hx]
  rfl
 rw [e] at h
 exact h
theorem says_step {L : List PB} {k i n : Nat} {x : PB} {T : Tab} {z : Int} (h : Says (upTo L k i x) T) (hi : i < x.2.length) (hz : x.2[i]? = some z) (hn : x.1.off + (i : Int) = (n : Int)) (h128 : n < 128) : Says (upTo L k (i + 1) x) (T.set n (z, true)) := by
 have hb : byteAt x n = z := by
  unfold byteAt
  rw [show ((n : Int) - x.1.off).toNat = i by omega]
  simp [List.getD, hz]
 refine ⟨by rw [List.length_set]; exact h.len, fun m e he hb' => ?_, fun m e he ⟨y, hy, hm⟩ => ?_⟩
 ·rw [List.getElem?_set] at he
  by_cases hnm : n = m
  ·subst hnm
   rw [if_pos rfl, if_pos (by rw [h.len]; exact h128)] at he
   obtain rfl := Option.some.inj he
   refine ⟨(x.1, x.2.take (i + 1)), List.mem_append_right _ (List.mem_singleton.2 rfl), (has_take (by omega) _).2 ⟨by omega, by omega⟩, ?_⟩
   rw [byte_take (by omega) (by omega), hb]
  ·rw [if_neg hnm] at he
   obtain ⟨y, hy, r1, r2⟩ := h.true_ m e he hb'
   rcases List.mem_append.1 hy with hy | hy
   ·exact ⟨y, List.mem_append_left _ hy, r1, r2⟩
   ·obtain rfl := List.mem_singleton.1 hy
    have := (has_take (x := x) (i := i) (by omega) m).1 r1
    refine ⟨(x.1, x.2.take (i + 1)), List.mem_append_right _ (List.mem_singleton.2 rfl), (has_take (by omega) _).2 ⟨by omega, by omega⟩, ?_⟩
    rw [byte_take (by omega) (by omega)] at r2
    rw [byte_take (by omega) (by omega)]
    exact r2
 ·rw [List.getElem?_set] at he
  by_cases hnm : n = m
  ·subst hnm
   rw [if_pos rfl, if_pos (by rw [h.len]; exact h128)] at he
   obtain rfl := Option.some.inj he
   rfl
  ·rw [if_neg hnm] at he
   rcases List.mem_append.1 hy with hy | hy
   ·exact h.all m e he ⟨y, List.mem_append_left _ hy, hm⟩
   ·obtain rfl := List.mem_singleton.1 hy
    have := (has_take (x := x) (i := i + 1) (by omega) m).1 hm
    exact h.all m e he ⟨(x.1, x.2.take i), List.mem_append_right _ (List.mem_singleton.2 rfl), (has_take (by omega) _).2 ⟨by omega, by omega⟩⟩
def knownB (T : Tab) (n : Nat) : Bool := (T.take n).all (·.2)
def valsT (T : Tab) (n : Nat) : List Int := (T.take n).map (·.1)
theorem known_bytes {L : List PB} {T : Tab} (h : Says L T) (hd : disagreeL L = false) : ∀ n, n ≤ 128 → bytesL L n = if knownB T n = true then some (valsT T n) else none := by
 intro n
 induction n with
 | zero => intro _; simp [bytesL, knownB, valsT]
 | succ n ih =>
  intro hn
  have hl : n < T.length := by rw [h.len]; omega
  obtain ⟨e, he⟩ : ∃ e, T[n]? = some e := ⟨_, List.getElem?_eq_getElem hl⟩
  have hk : knownB T (n + 1) = (knownB T n && e.2) := by
   unfold knownB
   rw [List.take_add_one, he, List.all_append]
   simp
  have hv : valsT T (n + 1) = valsT T n ++ [e.1] := by
   unfold valsT
   rw [List.take_add_one, he, List.map_append]
   rfl
  rw [bytesL, ih (by omega), hk, hv]
  cases hkn : knownB T n with
  | false => simp
  | true =>
   cases hf : L.find? (fun x => hasB x n) with
   | none =>
    have hne : e.2 = false := by
     cases h2 : e.2 with
     | false => rfl
     | true =>
      obtain ⟨x, hx, hh, _⟩ := h.true_ n e he h2
      exact absurd hh (by simpa using List.find?_eq_none.1 hf x hx)
    simp [hne]
   | some x =>
    have hx := List.mem_of_find?_eq_some hf
    have hh : hasB x n = true := by have := List.find?_some hf; simpa using this
    have h2 := h.all n e he ⟨x, hx, hh⟩
    obtain ⟨y, hy, hhy, hb⟩ := h.true_ n e he h2
    have := bytes_eq (agree_of hd hx hy) hh hhy
    simp [h2, hb, this]
end Go.Proofs.YtjbkgmbakjnlhaaGreatDoor
