/- The program's way to disagree is the document's. -/
import Derived.Test.YtjbkgmbakjnlhaaJoinS
import Derived.Test.YtjbkgmbakjnlhaaJoinA
import Derived.Lib.Bytes
namespace Go.Proofs.Ytjbkgmbakjnlhaa

theorem u8_inj {a b : Int} (ha : 0 ≤ a ∧ a ≤ 255) (hb : 0 ≤ b ∧ b ≤ 255) (h : UInt8.ofNat a.toNat = UInt8.ofNat b.toNat) : a = b := by
  have := congrArg UInt8.toNat h
  simp at this
  omega
theorem bytes_inj {xs ys : List Int} (hx : ∀ z ∈ xs, 0 ≤ z ∧ z ≤ 255) (hy : ∀ z ∈ ys, 0 ≤ z ∧ z ≤ 255) : ((strOfNums xs).toList == (strOfNums ys).toList) = true ↔ xs = ys := by
  rw [beq_iff_eq, Lib.strOfNums_toList, Lib.strOfNums_toList]
  constructor
  · intro h
    induction xs generalizing ys with
    | nil => cases ys with
      | nil => rfl
      | cons y r => simp [Lib.bytesOf] at h
    | cons x r ih =>
      cases ys with
      | nil => simp [Lib.bytesOf] at h
      | cons y s =>
        simp only [Lib.bytesOf, List.map_cons, List.cons.injEq] at h
        have e := u8_inj (hx x (List.mem_cons_self ..)) (hy y (List.mem_cons_self ..)) h.1
        rw [e, ih (fun z hz => hx z (List.mem_cons_of_mem _ hz)) (fun z hz => hy z (List.mem_cons_of_mem _ hz)) h.2]
  · rintro rfl; rfl
/-- a packet's bytes are bytes -/
def BytesOk (x : PB) : Prop := ∀ z ∈ x.2, 0 ≤ z ∧ z ≤ 255
theorem hasB_iff (x : PB) (j : Int) : hasB x j = true ↔ x.1.off ≤ j ∧ j < endOf x := by
  unfold hasB; simp
theorem fromI_le (x y : PB) : x.1.off ≤ fromI x y ∧ y.1.off ≤ fromI x y ∧ (fromI x y = x.1.off ∨ fromI x y = y.1.off) := by
  unfold fromI; split <;> omega
theorem toI_le (x y : PB) : toI x y ≤ endOf x ∧ toI x y ≤ endOf y ∧ (toI x y = endOf x ∨ toI x y = endOf y) := by
  unfold toI; split <;> omega
theorem has_both (x y : PB) (j : Int) : (hasB x j = true ∧ hasB y j = true) ↔ fromI x y ≤ j ∧ j < toI x y := by
  rw [hasB_iff, hasB_iff]
  have := fromI_le x y
  have := toI_le x y
  constructor
  · omega
  · omega
/-- there is a place of which both have the byte, and not the same one -/
def Clash (x y : PB) : Prop := ∃ j : Int, hasB x j = true ∧ hasB y j = true ∧ byteAt x j ≠ byteAt y j
theorem cutD_get (x y z : PB) (hz : z = x ∨ z = y) (i : Nat) (hi : i < (toI x y - fromI x y).toNat) : (cutD x y z)[i]? = some (byteAt z (fromI x y + i)) := by
  have f := fromI_le x y
  have t := toI_le x y
  unfold cutD byteAt
  have hl : (fromI x y - z.1.off).toNat + i < z.2.length := by
    rcases hz with rfl | rfl <;> simp only [endOf] at t <;> omega
  rw [List.getElem?_take, if_pos hi, List.getElem?_drop, show (fromI x y + (i : Int) - z.1.off).toNat = (fromI x y - z.1.off).toNat + i by rcases hz with rfl | rfl <;> omega]
  simp [List.getD, List.getElem?_eq_getElem hl]
theorem cutD_len (x y z : PB) (hz : z = x ∨ z = y) : (cutD x y z).length = (toI x y - fromI x y).toNat := by
  have f := fromI_le x y
  have t := toI_le x y
  unfold cutD
  rw [List.length_take, List.length_drop]
  rcases hz with rfl | rfl <;> simp only [endOf] at t <;> omega
theorem cutD_byte {x y z : PB} (h : BytesOk z) : ∀ b ∈ cutD x y z, 0 ≤ b ∧ b ≤ 255 := fun b hb => h b (List.mem_of_mem_drop (List.mem_of_mem_take hb))
theorem differ_iff {x y : PB} (hx : BytesOk x) (hy : BytesOk y) : differB x y = true ↔ Clash x y := by
  have hb := bytes_inj (cutD_byte (x := x) (y := y) hx) (cutD_byte (x := x) (y := y) hy)
  have lx := cutD_len x y x (Or.inl rfl)
  have ly := cutD_len x y y (Or.inr rfl)
  unfold differB
  rw [Bool.and_eq_true, decide_eq_true_eq, Bool.not_eq_true', ← Bool.not_eq_true, hb]
  constructor
  · rintro ⟨hlt, hne⟩
    apply Classical.byContradiction
    intro hc
    apply hne
    apply List.ext_getElem?
    intro i
    by_cases hi : i < (toI x y - fromI x y).toNat
    · rw [cutD_get x y x (Or.inl rfl) i hi, cutD_get x y y (Or.inr rfl) i hi]
      congr 1
      apply Classical.byContradiction
      intro hn
      have := (has_both x y (fromI x y + i)).2 ⟨by omega, by omega⟩
      exact hc ⟨_, this.1, this.2, hn⟩
    · rw [List.getElem?_eq_none (by omega), List.getElem?_eq_none (by omega)]
  · rintro ⟨j, h1, h2, hn⟩
    have hj := (has_both x y j).1 ⟨h1, h2⟩
    refine ⟨by omega, fun e => hn ?_⟩
    have a := cutD_get x y x (Or.inl rfl) (j - fromI x y).toNat (by omega)
    have b := cutD_get x y y (Or.inr rfl) (j - fromI x y).toNat (by omega)
    rw [show fromI x y + (((j - fromI x y).toNat : Nat) : Int) = j by omega] at a b
    rw [e, b] at a
    exact (Option.some.inj a).symm
theorem any_clash (x y : PB) : (List.range x.2.length).any (fun t => hasB y (x.1.off + t) && (byteAt x (x.1.off + t) != byteAt y (x.1.off + t))) = true ↔ Clash x y := by
  rw [List.any_eq_true]
  constructor
  · rintro ⟨t, ht, h⟩
    rw [List.mem_range] at ht
    simp only [Bool.and_eq_true, bne_iff_ne, ne_eq] at h
    exact ⟨x.1.off + t, (hasB_iff x _).2 (by unfold endOf; omega), h.1, h.2⟩
  · rintro ⟨j, h1, h2, hn⟩
    have hj := (hasB_iff x j).1 h1
    unfold endOf at hj
    refine ⟨(j - x.1.off).toNat, List.mem_range.2 (by omega), ?_⟩
    rw [show x.1.off + (((j - x.1.off).toNat : Nat) : Int) = j by omega]
    simp [h2, hn]
theorem clash_symm {x y : PB} (h : Clash x y) : Clash y x := by
  obtain ⟨j, a, b, c⟩ := h
  exact ⟨j, b, a, fun e => c e.symm⟩
theorem against_iff (x y : PB) : againstB x y = true ↔ Clash x y ∨ (x.1.more = false ∧ (endOf x < endOf y ∨ (y.1.more = false ∧ endOf y ≠ endOf x))) := by
  unfold againstB
  rw [Bool.or_eq_true, any_clash]
  simp
theorem behind_iff (x y : PB) : behindB x y = true ↔ y.1.more = false ∧ endOf y < endOf x := by
  unfold behindB; simp
theorem dis_iff {x y : PB} (hx : BytesOk x) (hy : BytesOk y) : disB x y = true ↔ againstB x y = true ∨ againstB y x = true := by
  unfold disB
  rw [Bool.or_eq_true, Bool.or_eq_true, differ_iff hx hy, behind_iff, behind_iff, against_iff, against_iff]
  constructor
  · rintro ((h | h) | h)
    · exact Or.inl (Or.inl h)
    · exact Or.inr (Or.inr ⟨h.1, Or.inl h.2⟩)
    · exact Or.inl (Or.inr ⟨h.1, Or.inl h.2⟩)
  · rintro ((h | ⟨h, h1 | ⟨h2, h1⟩⟩) | (h | ⟨h, h1 | ⟨h2, h1⟩⟩))
    · exact Or.inl (Or.inl h)
    · exact Or.inr ⟨h, h1⟩
    · rcases Int.lt_or_gt_of_ne h1 with h3 | h3
      · exact Or.inl (Or.inr ⟨h2, h3⟩)
      · exact Or.inr ⟨h, h3⟩
    · exact Or.inl (Or.inl (clash_symm h))
    · exact Or.inl (Or.inr ⟨h, h1⟩)
    · rcases Int.lt_or_gt_of_ne h1 with h3 | h3
      · exact Or.inr ⟨h2, h3⟩
      · exact Or.inl (Or.inr ⟨h, h3⟩)
theorem against_self (x : PB) : againstB x x = false := by
  rw [← Bool.not_eq_true, against_iff]
  rintro (⟨j, _, _, h⟩ | ⟨_, h | ⟨_, h⟩⟩)
  · exact h rfl
  · omega
  · exact h rfl
/-- asked of each two, one behind the other -/
theorem disagree_pairs {L : List PB} (hb : ∀ x ∈ L, BytesOk x) : disagreeL L = true ↔ ∃ (i j : Nat) (x y : PB), j < i ∧ L[i]? = some x ∧ L[j]? = some y ∧ disB x y = true := by
  rw [disagreeL_iff]
  constructor
  · rintro ⟨x, hx, y, hy, h⟩
    obtain ⟨i, hi⟩ := List.getElem?_of_mem hx
    obtain ⟨j, hj⟩ := List.getElem?_of_mem hy
    rcases Nat.lt_trichotomy i j with hij | hij | hij
    · exact ⟨j, i, y, x, hij, hj, hi, (dis_iff (hb y hy) (hb x hx)).2 (Or.inr h)⟩
    · subst hij
      rw [hi] at hj
      obtain rfl := Option.some.inj hj
      rw [against_self] at h
      cases h
    · exact ⟨i, j, x, y, hij, hi, hj, (dis_iff (hb x hx) (hb y hy)).2 (Or.inl h)⟩
  · rintro ⟨i, j, x, y, _, hi, hj, h⟩
    have hx := List.mem_of_getElem? hi
    have hy := List.mem_of_getElem? hj
    rcases (dis_iff (hb x hx) (hb y hy)).1 h with h | h
    · exact ⟨x, hx, y, hy, h⟩
    · exact ⟨y, hy, x, hx, h⟩
end Go.Proofs.Ytjbkgmbakjnlhaa
