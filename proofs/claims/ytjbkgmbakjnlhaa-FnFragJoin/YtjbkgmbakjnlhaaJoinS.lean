/- Joining hangs on the set of the pieces alone; one more piece. -/
import Derived.Test.YtjbkgmbakjnlhaaJoinD
namespace Go.Proofs.Ytjbkgmbakjnlhaa

theorem alikeB_iff (x y : PB) : alikeB x y = true ↔ okB x.1 x.2.length = true ∧ okB y.1 y.2.length = true ∧ x.1.src = y.1.src ∧ x.1.dst = y.1.dst ∧ x.1.kind = y.1.kind ∧ x.1.id = y.1.id := by
  unfold alikeB
  simp only [Bool.and_eq_true, beq_iff_eq]
  constructor
  · rintro ⟨⟨⟨⟨⟨a, b⟩, c⟩, d⟩, e⟩, f⟩; exact ⟨a, b, c, d, e, f⟩
  · rintro ⟨a, b, c, d, e, f⟩; exact ⟨⟨⟨⟨⟨a, b⟩, c⟩, d⟩, e⟩, f⟩
theorem alikeL_iff (L : List PB) : alikeL L = true ↔ L ≠ [] ∧ L.length ≤ 40 ∧ ∀ x ∈ L, ∀ y ∈ L, alikeB x y = true := by
  match L with
  | [] => simp [alikeL]
  | x :: r =>
    unfold alikeL
    rw [Bool.and_eq_true, List.all_eq_true]
    constructor
    · rintro ⟨h1, h2⟩
      refine ⟨by simp, by simpa using h1, fun a ha b hb => ?_⟩
      have p := (alikeB_iff x a).1 (h2 a ha)
      have q := (alikeB_iff x b).1 (h2 b hb)
      exact (alikeB_iff a b).2 ⟨p.2.1, q.2.1, by rw [← p.2.2.1, q.2.2.1], by rw [← p.2.2.2.1, q.2.2.2.1], by rw [← p.2.2.2.2.1, q.2.2.2.2.1], by rw [← p.2.2.2.2.2, q.2.2.2.2.2]⟩
    · rintro ⟨_, h1, h2⟩
      exact ⟨by simpa using h1, fun y hy => h2 x (List.mem_cons_self ..) y hy⟩
theorem disagreeL_iff (L : List PB) : disagreeL L = true ↔ ∃ x ∈ L, ∃ y ∈ L, againstB x y = true := by
  unfold disagreeL
  simp only [List.any_eq_true]
theorem agree_of {L : List PB} (h : disagreeL L = false) {x y : PB} (hx : x ∈ L) (hy : y ∈ L) : againstB x y = false := by
  cases e : againstB x y with
  | false => rfl
  | true =>
    have := (disagreeL_iff L).2 ⟨x, hx, y, hy, e⟩
    rw [h] at this
    cases this
/-- two that end, and don't disagree, end at one place -/
theorem ends_eq {x y : PB} (h : againstB x y = false) (hx : x.1.more = false) (hy : y.1.more = false) : endOf x = endOf y := by
  unfold againstB at h
  rw [Bool.or_eq_false_iff, hx, hy] at h
  have h2 := h.2
  simp at h2
  exact h2.2.symm
theorem bytes_eq {x y : PB} (h : againstB x y = false) {j : Int} (hx : hasB x j = true) (hy : hasB y j = true) : byteAt x j = byteAt y j := by
  unfold againstB at h
  rw [Bool.or_eq_false_iff, List.any_eq_false] at h
  unfold hasB endOf at hx
  simp at hx
  have e : x.1.off + (((j - x.1.off).toNat : Nat) : Int) = j := by omega
  have h1 := h.1 (j - x.1.off).toNat (List.mem_range.2 (by omega))
  rw [e, hy] at h1
  simpa using h1
theorem endL_same {L L' : List PB} (h1 : ∀ y ∈ L, y ∈ L') (h2 : ∀ y ∈ L', y ∈ L) (hd : disagreeL L = false) : endL L = endL L' := by
  unfold endL
  cases e1 : L.find? (fun x => !x.1.more) with
  | none =>
    cases e2 : L'.find? (fun x => !x.1.more) with
    | none => rfl
    | some y =>
      have a := List.mem_of_find?_eq_some e2
      have b := List.find?_some e2
      exact absurd b (by simpa using List.find?_eq_none.1 e1 y (h2 y a))
  | some x =>
    have a := List.mem_of_find?_eq_some e1
    have b : x.1.more = false := by have := List.find?_some e1; simpa using this
    cases e2 : L'.find? (fun x => !x.1.more) with
    | none =>
      have := List.find?_eq_none.1 e2 x (h1 x a)
      simp [b] at this
    | some y =>
      have a' := List.mem_of_find?_eq_some e2
      have b' : y.1.more = false := by have := List.find?_some e2; simpa using this
      simp only [Option.map_some]
      rw [ends_eq (agree_of hd a (h2 y a')) b b']
theorem bytesL_same {L L' : List PB} (h1 : ∀ y ∈ L, y ∈ L') (h2 : ∀ y ∈ L', y ∈ L) (hd : disagreeL L = false) : ∀ n, bytesL L n = bytesL L' n := by
  intro n
  induction n with
  | zero => rfl
  | succ n ih =>
    rw [bytesL, bytesL, ih]
    cases e1 : L.find? (fun x => hasB x n) with
    | none =>
      cases e2 : L'.find? (fun x => hasB x n) with
      | none => rfl
      | some y =>
        have a := List.mem_of_find?_eq_some e2
        have b := List.find?_some e2
        exact absurd b (by simpa using List.find?_eq_none.1 e1 y (h2 y a))
    | some x =>
      have a := List.mem_of_find?_eq_some e1
      have b : hasB x n = true := by have := List.find?_some e1; simpa using this
      cases e2 : L'.find? (fun x => hasB x n) with
      | none =>
        have := List.find?_eq_none.1 e2 x (h1 x a)
        simp [b] at this
      | some y =>
        have a' := List.mem_of_find?_eq_some e2
        have b' : hasB y n = true := by have := List.find?_some e2; simpa using this
        have e := bytes_eq (agree_of hd a (h2 y a')) b b'
        cases bytesL L' n <;> simp [e]
/-- the least of the hops -/
theorem fold_least (L : List PB) (h0 : Int) : L.foldl (fun h y => if y.1.hops < h then y.1.hops else h) h0 ≤ h0 ∧ (∀ y ∈ L, L.foldl (fun h y => if y.1.hops < h then y.1.hops else h) h0 ≤ y.1.hops) ∧ (L.foldl (fun h y => if y.1.hops < h then y.1.hops else h) h0 = h0 ∨ ∃ y ∈ L, L.foldl (fun h y => if y.1.hops < h then y.1.hops else h) h0 = y.1.hops) := by
  induction L generalizing h0 with
  | nil => exact ⟨Int.le_refl _, fun y hy => (List.not_mem_nil hy).elim, Or.inl rfl⟩
  | cons x r ih =>
    rw [List.foldl_cons]
    by_cases hc : x.1.hops < h0
    · rw [if_pos hc]
      obtain ⟨a, b, c⟩ := ih x.1.hops
      refine ⟨by omega, fun y hy => ?_, ?_⟩
      · rcases List.mem_cons.1 hy with rfl | hy
        · exact a
        · exact b y hy
      · rcases c with c | ⟨y, hy, c⟩
        · exact Or.inr ⟨x, List.mem_cons_self .., c⟩
        · exact Or.inr ⟨y, List.mem_cons_of_mem _ hy, c⟩
    · rw [if_neg hc]
      obtain ⟨a, b, c⟩ := ih h0
      refine ⟨a, fun y hy => ?_, ?_⟩
      · rcases List.mem_cons.1 hy with rfl | hy
        · omega
        · exact b y hy
      · rcases c with c | ⟨y, hy, c⟩
        · exact Or.inl c
        · exact Or.inr ⟨y, List.mem_cons_of_mem _ hy, c⟩
theorem fold_mem (x : PB) (r : List PB) : ∃ y ∈ x :: r, (x :: r).foldl (fun h y => if y.1.hops < h then y.1.hops else h) x.1.hops = y.1.hops := by
  rcases (fold_least (x :: r) x.1.hops).2.2 with h | h
  · exact ⟨x, List.mem_cons_self .., h⟩
  · exact h
theorem any_same {L L' : List PB} (h1 : ∀ y ∈ L, y ∈ L') (h2 : ∀ y ∈ L', y ∈ L) (f : PB → Bool) : L.any f = L'.any f := by
  rw [Bool.eq_iff_iff, List.any_eq_true, List.any_eq_true]
  constructor
  · rintro ⟨y, hy, h⟩; exact ⟨y, h1 y hy, h⟩
  · rintro ⟨y, hy, h⟩; exact ⟨y, h2 y hy, h⟩
theorem headL_same {L L' : List PB} (h1 : ∀ y ∈ L, y ∈ L') (h2 : ∀ y ∈ L', y ∈ L) (ha : alikeL L = true) : headL L = headL L' := by
  obtain ⟨hne, _, hal⟩ := (alikeL_iff L).1 ha
  match L, L', h1, h2, hne, hal with
  | [], _, _, _, hne, _ => exact absurd rfl hne
  | x :: r, [], h1, _, _, _ => exact (List.not_mem_nil (h1 x (List.mem_cons_self ..))).elim
  | x :: r, y :: s, h1, h2, _, hal =>
    have k := (alikeB_iff x y).1 (hal x (List.mem_cons_self ..) y (h2 y (List.mem_cons_self ..)))
    have hw := any_same h1 h2 (fun y => y.1.whole)
    have hh : (x :: r).foldl (fun h y => if y.1.hops < h then y.1.hops else h) x.1.hops = (y :: s).foldl (fun h y => if y.1.hops < h then y.1.hops else h) y.1.hops := by
      obtain ⟨u, hu, eu⟩ := fold_mem x r
      obtain ⟨v, hv, ev⟩ := fold_mem y s
      have a := (fold_least (x :: r) x.1.hops).2.1 v (h2 v hv)
      have b := (fold_least (y :: s) y.1.hops).2.1 u (h1 u hu)
      omega
    simp only [headL]
    rw [hh, hw, k.2.2.1, k.2.2.2.1, k.2.2.2.2.1, k.2.2.2.2.2]
/-- JOINING HANGS ON THE SET OF THE PIECES ALONE: not on their order, nor on one of them being there twice -/
theorem join_same {L L' : List PB} (h1 : ∀ y ∈ L, y ∈ L') (h2 : ∀ y ∈ L', y ∈ L) (l1 : L.length ≤ 40) (l2 : L'.length ≤ 40) : joinL L = joinL L' := by
  have ea : alikeL L = alikeL L' := by
    rw [Bool.eq_iff_iff, alikeL_iff, alikeL_iff]
    constructor
    · rintro ⟨a, _, c⟩
      refine ⟨fun e => ?_, l2, fun x hx y hy => c x (h2 x hx) y (h2 y hy)⟩
      match L, a with
      | z :: r, _ => have := h1 z (List.mem_cons_self ..); rw [e] at this; cases this
    · rintro ⟨a, _, c⟩
      refine ⟨fun e => ?_, l1, fun x hx y hy => c x (h1 x hx) y (h1 y hy)⟩
      match L', a with
      | z :: r, _ => have := h2 z (List.mem_cons_self ..); rw [e] at this; cases this
  have ed : disagreeL L = disagreeL L' := by
    rw [Bool.eq_iff_iff, disagreeL_iff, disagreeL_iff]
    constructor
    · rintro ⟨x, hx, y, hy, h⟩; exact ⟨x, h1 x hx, y, h1 y hy, h⟩
    · rintro ⟨x, hx, y, hy, h⟩; exact ⟨x, h2 x hx, y, h2 y hy, h⟩
  unfold joinL
  cases ha : alikeL L with
  | false => rw [← ea, ha]; rfl
  | true =>
    rw [← ea, ha, if_pos rfl, if_pos rfl]
    cases hd : disagreeL L with
    | true => rw [← ed, hd, if_pos rfl, if_pos rfl]
    | false =>
      rw [← ed, hd, if_neg (by simp), if_neg (by simp), ← endL_same h1 h2 hd]
      cases endL L with
      | none => rfl
      | some e =>
        simp only
        rw [← bytesL_same h1 h2 hd, ← headL_same h1 h2 ha]

/-- what the code says -/
theorem join_code (L : List PB) : (joinL L).1 = 0 ∨ (joinL L).1 = 1 ∨ (joinL L).1 = 2 ∨ (joinL L).1 = 3 := by
  unfold joinL
  repeat' split
  all_goals simp
theorem join_one (L : List PB) : (joinL L).1 = 1 ↔ alikeL L = false := by
  unfold joinL
  cases alikeL L with
  | false => simp
  | true =>
    simp only [if_true]
    repeat' split
    all_goals simp
theorem join_two (L : List PB) : (joinL L).1 = 2 ↔ alikeL L = true ∧ disagreeL L = true := by
  unfold joinL
  cases alikeL L with
  | false => simp
  | true =>
    cases disagreeL L with
    | true => simp
    | false =>
      simp only [if_true]
      repeat' split
      all_goals simp_all
/-- a piece that came in for joining, beside others -/
theorem alike_more {L : List PB} {z : PB} (ha : alikeL L = true) (hz : ∀ x ∈ L, alikeB x z = true) (hl : L.length < 40) : alikeL (L ++ [z]) = true := by
  obtain ⟨hne, _, hal⟩ := (alikeL_iff L).1 ha
  refine (alikeL_iff _).2 ⟨by simp, by simp; omega, fun x hx y hy => ?_⟩
  match L, hne with
  | w :: r, _ =>
    have hw := (alikeB_iff w z).1 (hz w (List.mem_cons_self ..))
    have hzz : alikeB z z = true := (alikeB_iff z z).2 ⟨hw.2.1, hw.2.1, rfl, rfl, rfl, rfl⟩
    have sym : ∀ a b, alikeB a b = true → alikeB b a = true := fun a b h => by
      have k := (alikeB_iff a b).1 h
      exact (alikeB_iff b a).2 ⟨k.2.1, k.1, k.2.2.1.symm, k.2.2.2.1.symm, k.2.2.2.2.1.symm, k.2.2.2.2.2.symm⟩
    rcases List.mem_append.1 hx with a | a <;> rcases List.mem_append.1 hy with b | b
    · exact hal x a y b
    · rw [List.mem_singleton.1 b]; exact hz x a
    · rw [List.mem_singleton.1 a]; exact sym _ _ (hz y b)
    · rw [List.mem_singleton.1 a, List.mem_singleton.1 b]; exact hzz
/-- WHAT LIES IS NOT JOINED: where two disagree, no more pieces make them agree -/
theorem join_lies {L : List PB} {z : PB} (h : (joinL L).1 = 2) (hz : ∀ x ∈ L, alikeB x z = true) (hl : L.length < 40) : (joinL (L ++ [z])).1 = 2 := by
  obtain ⟨ha, hd⟩ := (join_two L).1 h
  refine (join_two _).2 ⟨alike_more ha hz hl, ?_⟩
  obtain ⟨x, hx, y, hy, e⟩ := (disagreeL_iff L).1 hd
  exact (disagreeL_iff _).2 ⟨x, List.mem_append_left _ hx, y, List.mem_append_left _ hy, e⟩
theorem find_prefix {L : List PB} {z x : PB} {f : PB → Bool} (h : L.find? f = some x) : (L ++ [z]).find? f = some x := by
  rw [List.find?_append, h]; rfl
theorem bytes_prefix {L : List PB} {z : PB} : ∀ n bs, bytesL L n = some bs → bytesL (L ++ [z]) n = some bs := by
  intro n
  induction n with
  | zero => intro bs h; exact h
  | succ n ih =>
    intro bs h
    rw [bytesL] at h ⊢
    cases e1 : bytesL L n with
    | none => rw [e1] at h; simp at h
    | some cs =>
      cases e2 : L.find? (fun x => hasB x n) with
      | none => rw [e1, e2] at h; simp at h
      | some x =>
        rw [e1, e2] at h
        rw [ih cs e1, find_prefix e2]
        exact h
/-- what is joined, and one more piece that doesn't disagree: the bytes stay -/
theorem join_more {L : List PB} {z : PB} (h : (joinL L).1 = 0) (hz : ∀ x ∈ L, alikeB x z = true) (hl : L.length < 40) : (joinL (L ++ [z])).1 = 2 ∨ ((joinL (L ++ [z])).1 = 0 ∧ (joinL (L ++ [z])).2.2 = (joinL L).2.2 ∧ (joinL (L ++ [z])).2.1 = headL (L ++ [z]) ∧ (joinL L).2.1 = headL L) := by
  have ha : alikeL L = true := by
    cases e : alikeL L with
    | true => rfl
    | false => have := (join_one L).2 e; omega
  have ha' := alike_more ha hz hl
  cases hd' : disagreeL (L ++ [z]) with
  | true => exact Or.inl ((join_two _).2 ⟨ha', hd'⟩)
  | false =>
    right
    have hd : disagreeL L = false := by
      cases e : disagreeL L with
      | false => rfl
      | true => have := (join_two L).2 ⟨ha, e⟩; omega
    unfold joinL at h ⊢
    rw [ha, if_pos rfl, hd, if_neg (by simp)] at h
    rw [ha', if_pos rfl, hd', if_neg (by simp), ha, if_pos rfl, hd, if_neg (by simp)]
    cases e1 : endL L with
    | none => rw [e1] at h; simp at h
    | some e =>
      rw [e1] at h
      simp only at h
      have e1' : endL (L ++ [z]) = some e := by
        unfold endL at e1 ⊢
        cases e2 : L.find? (fun x => !x.1.more) with
        | none => rw [e2] at e1; simp at e1
        | some x => rw [find_prefix e2, ← e1, e2]
      rw [e1']
      simp only
      cases e3 : bytesL L e.toNat with
      | none => rw [e3] at h; simp at h
      | some bs =>
        rw [bytes_prefix e.toNat bs e3]
        simp
end Go.Proofs.Ytjbkgmbakjnlhaa
