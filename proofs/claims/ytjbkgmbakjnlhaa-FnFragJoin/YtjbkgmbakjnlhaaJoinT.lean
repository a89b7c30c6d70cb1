/- Joining, plain: what is joined is ok; what one more piece makes of it. -/
import Derived.Test.YtjbkgmbakjnlhaaJoinS
namespace Go.Proofs.Ytjbkgmbakjnlhaa

theorem bytes_len {L : List PB} : ∀ (n : Nat) (bs : List Int), bytesL L n = some bs → bs.length = n
  | 0, bs, h => by
    simp only [bytesL, Option.some.injEq] at h
    subst h
    rfl
  | n + 1, bs, h => by
    unfold bytesL at h
    cases h1 : bytesL L n with
    | none => rw [h1] at h; simp at h
    | some cs =>
      cases h2 : L.find? (fun x => hasB x n) with
      | none => rw [h1, h2] at h; simp at h
      | some x =>
        rw [h1, h2] at h
        simp only [Option.some.injEq] at h
        subst h
        rw [List.length_append, bytes_len n cs h1]
        rfl
theorem ok_parts {p : Pk} {len : Nat} (h : okB p len = true) : (0 ≤ p.src ∧ p.src ≤ 65535) ∧ (0 ≤ p.dst ∧ p.dst ≤ 65535) ∧ (1 ≤ p.kind ∧ p.kind ≤ 7) ∧ (0 ≤ p.id ∧ p.id ≤ 255) ∧ (1 ≤ p.hops ∧ p.hops ≤ 64) ∧ 0 ≤ p.off ∧ (len : Int) ≤ 128 - p.off := by
  simp only [okB, headB, offB, inB, Bool.and_eq_true, decide_eq_true_eq] at h
  omega
theorem fold_in : ∀ (l : List PB) (h : Int), 1 ≤ h ∧ h ≤ 64 → (∀ y ∈ l, 1 ≤ y.1.hops ∧ y.1.hops ≤ 64) → 1 ≤ l.foldl (fun h y => if y.1.hops < h then y.1.hops else h) h ∧ l.foldl (fun h y => if y.1.hops < h then y.1.hops else h) h ≤ 64
  | [], h, h1, _ => h1
  | y :: r, h, h1, h2 => by
    rw [List.foldl_cons]
    refine fold_in r _ ?_ (fun z hz => h2 z (List.mem_cons_of_mem _ hz))
    have := h2 y (List.mem_cons_self)
    split <;> omega
/-- the parts of a good join -/
theorem join_parts {L : List PB} (h : (joinL L).1 = 0) : ∃ e bs, alikeL L = true ∧ endL L = some e ∧ bytesL L e.toNat = some bs ∧ joinL L = (0, (headL L, bs)) := by
  unfold joinL at h ⊢
  cases ha : alikeL L with
  | false => rw [ha] at h; simp at h
  | true =>
    rw [ha, if_pos rfl] at h
    rw [if_pos rfl]
    cases hd : disagreeL L with
    | true => rw [hd] at h; simp at h
    | false =>
      rw [hd, if_neg (by simp)] at h
      rw [if_neg (by simp)]
      cases he : endL L with
      | none => rw [he] at h; simp at h
      | some e =>
        rw [he] at h
        simp only at h ⊢
        cases hb : bytesL L e.toNat with
        | none => rw [hb] at h; simp at h
        | some bs => exact ⟨e, bs, by first | rfl | trivial, by first | rfl | trivial, by first | rfl | exact hb, by first | rfl | rw [hb]⟩
theorem end_le {L : List PB} {e : Int} (ha : alikeL L = true) (h : endL L = some e) : e.toNat ≤ 128 := by
  unfold endL at h
  cases hf : L.find? (fun x => !x.1.more) with
  | none => rw [hf] at h; simp at h
  | some x =>
    rw [hf] at h
    simp only [Option.map_some, Option.some.injEq] at h
    have hx := List.mem_of_find?_eq_some hf
    have hk := ((alikeL_iff L).1 ha).2.2 x hx x hx
    simp only [alikeB, Bool.and_eq_true] at hk
    have := ok_parts hk.1.1.1.1.1
    unfold endOf at h
    omega
/-- what is joined is ok -/
theorem join_ok {L : List PB} {p : Pk} {ds : List Int} (h : joinL L = (0, (p, ds))) : okB p ds.length = true := by
  obtain ⟨e, bs, ha, he, hb, hj⟩ := join_parts (L := L) (by rw [h])
  rw [h] at hj
  simp only [Prod.mk.injEq, true_and] at hj
  obtain ⟨rfl, rfl⟩ := hj
  have hl := bytes_len _ _ hb
  have h128 := end_le ha he
  obtain ⟨hne, _, hal⟩ := (alikeL_iff L).1 ha
  have oks : ∀ x ∈ L, okB x.1 x.2.length = true := fun x hx => by
    have hk := hal x hx x hx
    simp only [alikeB, Bool.and_eq_true] at hk
    exact hk.1.1.1.1.1
  match L, hne, oks with
  | x :: r, _, oks =>
    have hx := ok_parts (oks x List.mem_cons_self)
    have hh := fold_in (x :: r) x.1.hops hx.2.2.2.2.1 (fun y hy => (ok_parts (oks y hy)).2.2.2.2.1)
    obtain ⟨m, wh, hm, e⟩ : ∃ (m : Int) (wh : Bool), (1 ≤ m ∧ m ≤ 64) ∧ headL (x :: r) = ⟨x.1.src, x.1.dst, x.1.kind, x.1.id, m, wh, 0, false⟩ := ⟨_, _, hh, rfl⟩
    rw [e]
    simp [okB, headB, offB, moreB, wholeB, inB]
    omega
theorem join_small (L : List PB) : (joinL L).2.2.length ≤ 128 := by
  by_cases h : (joinL L).1 = 0
  · obtain ⟨e, bs, ha, he, hb, hj⟩ := join_parts h
    rw [hj, bytes_len _ _ hb]
    exact end_le ha he
  · unfold joinL at h ⊢
    split
    · rename_i ha
      rw [if_pos ha] at h
      split
      · simp
      · rename_i hd
        rw [if_neg hd] at h
        cases he : endL L with
        | none => simp
        | some e =>
          rw [he] at h
          simp only at h ⊢
          cases hb : bytesL L e.toNat with
          | none => simp
          | some bs => rw [hb] at h; simp at h
    · simp
theorem join_many {L : List PB} (h : 40 < L.length) : joinL L = (1, (zeroPk, [])) := by
  have ha : alikeL L = false := by
    cases e : alikeL L with
    | false => rfl
    | true => have := ((alikeL_iff L).1 e).2.1; omega
  unfold joinL
  rw [ha]
  rfl
theorem join_rev (L : List PB) : joinL L.reverse = joinL L := by
  by_cases h : 40 < L.length
  · rw [join_many h, join_many (by rw [List.length_reverse]; exact h)]
  · exact join_same (fun y hy => List.mem_reverse.1 hy) (fun y hy => List.mem_reverse.2 hy) (by rw [List.length_reverse]; omega) (by omega)
theorem join_twice {L : List PB} {z : PB} (hz : z ∈ L) (hl : L.length < 40) : joinL (L ++ [z]) = joinL L :=
  join_same (fun y hy => by
    rcases List.mem_append.1 hy with a | a
    · exact a
    · obtain rfl := List.mem_singleton.1 a
      exact hz) (fun y hy => List.mem_append_left _ hy) (by simp; omega) (by omega)
/-- one more piece that is alike -/
theorem join_next {L : List PB} {z : PB} (h : (joinL L).1 ≠ 1) (hz : ∀ x ∈ L, alikeB x z = true) (hl : L.length < 40) :
    ((joinL L).1 = 2 ∧ (joinL (L ++ [z])).1 = 2) ∨ ((joinL L).1 = 3 ∧ ((joinL (L ++ [z])).1 = 0 ∨ (joinL (L ++ [z])).1 = 2 ∨ (joinL (L ++ [z])).1 = 3)) ∨ ((joinL L).1 = 0 ∧ ((joinL (L ++ [z])).1 = 2 ∨ ((joinL (L ++ [z])).1 = 0 ∧ (joinL (L ++ [z])).2.2 = (joinL L).2.2 ∧ (joinL (L ++ [z])).2.1 = ⟨(joinL L).2.1.src, (joinL L).2.1.dst, (joinL L).2.1.kind, (joinL L).2.1.id, (joinL (L ++ [z])).2.1.hops, (joinL (L ++ [z])).2.1.whole, (joinL L).2.1.off, (joinL L).2.1.more⟩))) := by
  have ha : alikeL L = true := by
    cases e : alikeL L with
    | true => rfl
    | false => exact absurd ((join_one L).2 e) h
  have ha' := alike_more ha hz hl
  have h1 : (joinL (L ++ [z])).1 ≠ 1 := fun e => by
    have := (join_one _).1 e
    rw [ha'] at this
    cases this
  rcases join_code L with c | c | c | c
  · refine Or.inr (Or.inr ⟨c, ?_⟩)
    rcases join_more c hz hl with a | ⟨a, b, d, e⟩
    · exact Or.inl a
    · refine Or.inr ⟨a, b, ?_⟩
      rw [d, e]
      obtain ⟨hne, _, _⟩ := (alikeL_iff L).1 ha
      match L, hne with
      | x :: r, _ => rfl
  · exact absurd c h
  · exact Or.inl ⟨c, join_lies c hz hl⟩
  · refine Or.inr (Or.inl ⟨c, ?_⟩)
    rcases join_code (L ++ [z]) with a | a | a | a
    · exact Or.inl a
    · exact absurd a h1
    · exact Or.inr (Or.inl a)
    · exact Or.inr (Or.inr a)
theorem alike_first {x0 z : PB} {r : List PB} (ha : alikeL (x0 :: r) = true) (hz : okB z.1 z.2.length = true) (h1 : z.1.src = x0.1.src) (h2 : z.1.dst = x0.1.dst) (h3 : z.1.kind = x0.1.kind) (h4 : z.1.id = x0.1.id) : ∀ x ∈ x0 :: r, alikeB x z = true := fun x hx => by
  have hk := ((alikeL_iff _).1 ha).2.2 x hx x0 List.mem_cons_self
  simp only [alikeB, Bool.and_eq_true, beq_iff_eq] at hk ⊢
  rw [h1, h2, h3, h4]
  exact ⟨⟨⟨⟨⟨hk.1.1.1.1.1, hz⟩, hk.1.1.1.2⟩, hk.1.1.2⟩, hk.1.2⟩, hk.2⟩
end Go.Proofs.Ytjbkgmbakjnlhaa
