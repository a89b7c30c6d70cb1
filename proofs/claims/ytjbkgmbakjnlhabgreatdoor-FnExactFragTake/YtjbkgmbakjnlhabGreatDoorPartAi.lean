/- Joining hangs on the set of the pieces alone; one more piece. -/
import Derived.Test.YtjbkgmbakjnlhabGreatDoorPartAa
import Derived.Test.YtjbkgmbakjnlhabGreatDoorPartAe
import Derived.Deep.RegionHeld3
import Derived.Test.YtjbkgmbakjnlhabGreatDoorPartAb
import Derived.Test.YtjbkgmbakjnlhabGreatDoorPartAf
namespace Go.Proofs.YtjbkgmbakjnlhabGreatDoor
set_option maxRecDepth 100000

theorem alikeB_iff (x y : PB) : alikeB x y = true ↔ okB x.1 x.2.length = true ∧ okB y.1 y.2.length = true ∧ x.1.src = y.1.src ∧ x.1.dst = y.1.dst ∧ x.1.kind = y.1.kind ∧ x.1.id = y.1.id := by
  unfold alikeB
  simp only [Bool.and_eq_true, beq_iff_eq]
  constructor
  · rintro ⟨⟨⟨⟨⟨a, b⟩, c⟩, d⟩, e⟩, f⟩; exact ⟨a, b, c, d, e, f⟩
  · rintro ⟨a, b, c, d, e, f⟩; exact ⟨⟨⟨⟨⟨a, b⟩, c⟩, d⟩, e⟩, f⟩
theorem alikeL_iff (L : List PB) : alikeL L = true ↔ L ≠ [] ∧ L.length ≤ 40 ∧ ∀ x ∈ L, ∀ y ∈ L, alikeB x y = true := by
  match L with
  | [] => simp [alikeL]
  | x :: r =>
    unfold alikeL
    rw [Bool.and_eq_true, List.all_eq_true]
    constructor
    · rintro ⟨h1, h2⟩
      refine ⟨by simp, by simpa using h1, fun a ha b hb => ?_⟩
      have p := (alikeB_iff x a).1 (h2 a ha)
      have q := (alikeB_iff x b).1 (h2 b hb)
      exact (alikeB_iff a b).2 ⟨p.2.1, q.2.1, by rw [← p.2.2.1, q.2.2.1], by rw [← p.2.2.2.1, q.2.2.2.1], by rw [← p.2.2.2.2.1, q.2.2.2.2.1], by rw [← p.2.2.2.2.2, q.2.2.2.2.2]⟩
    · rintro ⟨_, h1, h2⟩
      exact ⟨by simpa using h1, fun y hy => h2 x (List.mem_cons_self ..) y hy⟩
theorem disagreeL_iff (L : List PB) : disagreeL L = true ↔ ∃ x ∈ L, ∃ y ∈ L, againstB x y = true := by
  unfold disagreeL
  simp only [List.any_eq_true]
theorem agree_of {L : List PB} (h : disagreeL L = false) {x y : PB} (hx : x ∈ L) (hy : y ∈ L) : againstB x y = false := by
  cases e : againstB x y with
  | false => rfl
  | true =>
    have := (disagreeL_iff L).2 ⟨x, hx, y, hy, e⟩
    rw [h] at this
    cases this
/-- two that end, and don't disagree, end at one place -/
theorem ends_eq {x y : PB} (h : againstB x y = false) (hx : x.1.more = false) (hy : y.1.more = false) : endOf x = endOf y := by
  unfold againstB at h
  rw [Bool.or_eq_false_iff, hx, hy] at h
  have h2 := h.2
  simp at h2
  exact h2.2.symm
theorem bytes_eq {x y : PB} (h : againstB x y = false) {j : Int} (hx : hasB x j = true) (hy : hasB y j = true) : byteAt x j = byteAt y j := by
  unfold againstB at h
  rw [Bool.or_eq_false_iff, List.any_eq_false] at h
  unfold hasB endOf at hx
  simp at hx
  have e : x.1.off + (((j - x.1.off).toNat : Nat) : Int) = j := by omega
  have h1 := h.1 (j - x.1.off).toNat (List.mem_range.2 (by omega))
  rw [e, hy] at h1
  simpa using h1
theorem endL_same {L L' : List PB} (h1 : ∀ y ∈ L, y ∈ L') (h2 : ∀ y ∈ L', y ∈ L) (hd : disagreeL L = false) : endL L = endL L' := by
  unfold endL
  cases e1 : L.find? (fun x => !x.1.more) with
  | none =>
    cases e2 : L'.find? (fun x => !x.1.more) with
    | none => rfl
    | some y =>
      have a := List.mem_of_find?_eq_some e2
      have b := List.find?_some e2
      exact absurd b (by simpa using List.find?_eq_none.1 e1 y (h2 y a))
  | some x =>
    have a := List.mem_of_find?_eq_some e1
    have b : x.1.more = false := by have := List.find?_some e1; simpa using this
    cases e2 : L'.find? (fun x => !x.1.more) with
    | none =>
      have := List.find?_eq_none.1 e2 x (h1 x a)
      simp [b] at this
    | some y =>
      have a' := List.mem_of_find?_eq_some e2
      have b' : y.1.more = false := by have := List.find?_some e2; simpa using this
      simp only [Option.map_some]
      rw [ends_eq (agree_of hd a (h2 y a')) b b']
theorem bytesL_same {L L' : List PB} (h1 : ∀ y ∈ L, y ∈ L') (h2 : ∀ y ∈ L', y ∈ L) (hd : disagreeL L = false) : ∀ n, bytesL L n = bytesL L' n := by
  intro n
  induction n with
  | zero => rfl
  | succ n ih =>
    rw [bytesL, bytesL, ih]
    cases e1 : L.find? (fun x => hasB x n) with
    | none =>
      cases e2 : L'.find? (fun x => hasB x n) with
      | none => rfl
      | some y =>
        have a := List.mem_of_find?_eq_some e2
        have b := List.find?_some e2
        exact absurd b (by simpa using List.find?_eq_none.1 e1 y (h2 y a))
    | some x =>
      have a := List.mem_of_find?_eq_some e1
      have b : hasB x n = true := by have := List.find?_some e1; simpa using this
      cases e2 : L'.find? (fun x => hasB x n) with
      | none =>
        have := List.find?_eq_none.1 e2 x (h1 x a)
        simp [b] at this
      | some y =>
        have a' := List.mem_of_find?_eq_some e2
        have b' : hasB y n = true := by have := List.find?_some e2; simpa using this
        have e := bytes_eq (agree_of hd a (h2 y a')) b b'
        cases bytesL L' n <;> simp [e]
/-- the least of the hops -/
theorem fold_least (L : List PB) (h0 : Int) : L.foldl (fun h y => if y.1.hops < h then y.1.hops else h) h0 ≤ h0 ∧ (∀ y ∈ L, L.foldl (fun h y => if y.1.hops < h then y.1.hops else h) h0 ≤ y.1.hops) ∧ (L.foldl (fun h y => if y.1.hops < h then y.1.hops else h) h0 = h0 ∨ ∃ y ∈ L, L.foldl (fun h y => if y.1.hops < h then y.1.hops else h) h0 = y.1.hops) := by
  induction L generalizing h0 with
  | nil => exact ⟨Int.le_refl _, fun y hy => (List.not_mem_nil hy).elim, Or.inl rfl⟩
  | cons x r ih =>
    rw [List.foldl_cons]
    by_cases hc : x.1.hops < h0
    · rw [if_pos hc]
      obtain ⟨a, b, c⟩ := ih x.1.hops
      refine ⟨by omega, fun y hy => ?_, ?_⟩
      · rcases List.mem_cons.1 hy with rfl | hy
        · exact a
        · exact b y hy
      · rcases c with c | ⟨y, hy, c⟩
        · exact Or.inr ⟨x, List.mem_cons_self .., c⟩
        · exact Or.inr ⟨y, List.mem_cons_of_mem _ hy, c⟩
    · rw [if_neg hc]
      obtain ⟨a, b, c⟩ := ih h0
      refine ⟨a, fun y hy => ?_, ?_⟩
      · rcases List.mem_cons.1 hy with rfl | hy
        · omega
        · exact b y hy
      · rcases c with c | ⟨y, hy, c⟩
        · exact Or.inl c
        · exact Or.inr ⟨y, List.mem_cons_of_mem _ hy, c⟩
theorem fold_mem (x : PB) (r : List PB) : ∃ y ∈ x :: r, (x :: r).foldl (fun h y => if y.1.hops < h then y.1.hops else h) x.1.hops = y.1.hops := by
  rcases (fold_least (x :: r) x.1.hops).2.2 with h | h
  · exact ⟨x, List.mem_cons_self .., h⟩
  · exact h
theorem any_same {L L' : List PB} (h1 : ∀ y ∈ L, y ∈ L') (h2 : ∀ y ∈ L', y ∈ L) (f : PB → Bool) : L.any f = L'.any f := by
  rw [Bool.eq_iff_iff, List.any_eq_true, List.any_eq_true]
  constructor
  · rintro ⟨y, hy, h⟩; exact ⟨y, h1 y hy, h⟩
  · rintro ⟨y, hy, h⟩; exact ⟨y, h2 y hy, h⟩
theorem headL_same {L L' : List PB} (h1 : ∀ y ∈ L, y ∈ L') (h2 : ∀ y ∈ L', y ∈ L) (ha : alikeL L = true) : headL L = headL L' := by
  obtain ⟨hne, _, hal⟩ := (alikeL_iff L).1 ha
  match L, L', h1, h2, hne, hal with
  | [], _, _, _, hne, _ => exact absurd rfl hne
  | x :: r, [], h1, _, _, _ => exact (List.not_mem_nil (h1 x (List.mem_cons_self ..))).elim
  | x :: r, y :: s, h1, h2, _, hal =>
    have k := (alikeB_iff x y).1 (hal x (List.mem_cons_self ..) y (h2 y (List.mem_cons_self ..)))
    have hw := any_same h1 h2 (fun y => y.1.whole)
    have hh : (x :: r).foldl (fun h y => if y.1.hops < h then y.1.hops else h) x.1.hops = (y :: s).foldl (fun h y => if y.1.hops < h then y.1.hops else h) y.1.hops := by
      obtain ⟨u, hu, eu⟩ := fold_mem x r
      obtain ⟨v, hv, ev⟩ := fold_mem y s
      have a := (fold_least (x :: r) x.1.hops).2.1 v (h2 v hv)
      have b := (fold_least (y :: s) y.1.hops).2.1 u (h1 u hu)
      omega
    simp only [headL]
    rw [hh, hw, k.2.2.1, k.2.2.2.1, k.2.2.2.2.1, k.2.2.2.2.2]
/-- JOINING HANGS ON THE SET OF THE PIECES ALONE: not on their order, nor on one of them being there twice -/
theorem join_same {L L' : List PB} (h1 : ∀ y ∈ L, y ∈ L') (h2 : ∀ y ∈ L', y ∈ L) (l1 : L.length ≤ 40) (l2 : L'.length ≤ 40) : joinL L = joinL L' := by
  have ea : alikeL L = alikeL L' := by
    rw [Bool.eq_iff_iff, alikeL_iff, alikeL_iff]
    constructor
    · rintro ⟨a, _, c⟩
      refine ⟨fun e => ?_, l2, fun x hx y hy => c x (h2 x hx) y (h2 y hy)⟩
      match L, a with
      | z :: r, _ => have := h1 z (List.mem_cons_self ..); rw [e] at this; cases this
    · rintro ⟨a, _, c⟩
      refine ⟨fun e => ?_, l1, fun x hx y hy => c x (h1 x hx) y (h1 y hy)⟩
      match L', a with
      | z :: r, _ => have := h2 z (List.mem_cons_self ..); rw [e] at this; cases this
  have ed : disagreeL L = disagreeL L' := by
    rw [Bool.eq_iff_iff, disagreeL_iff, disagreeL_iff]
    constructor
    · rintro ⟨x, hx, y, hy, h⟩; exact ⟨x, h1 x hx, y, h1 y hy, h⟩
    · rintro ⟨x, hx, y, hy, h⟩; exact ⟨x, h2 x hx, y, h2 y hy, h⟩
  unfold joinL
  cases ha : alikeL L with
  | false => rw [← ea, ha]; rfl
  | true =>
    rw [← ea, ha, if_pos rfl, if_pos rfl]
    cases hd : disagreeL L with
    | true => rw [← ed, hd, if_pos rfl, if_pos rfl]
    | false =>
      rw [← ed, hd, if_neg (by simp), if_neg (by simp), ← endL_same h1 h2 hd]
      cases endL L with
      | none => rfl
      | some e =>
        simp only
        rw [← bytesL_same h1 h2 hd, ← headL_same h1 h2 ha]

/-- what the code says -/
theorem join_code (L : List PB) : (joinL L).1 = 0 ∨ (joinL L).1 = 1 ∨ (joinL L).1 = 2 ∨ (joinL L).1 = 3 := by
  unfold joinL
  repeat' split
  all_goals simp
theorem join_one (L : List PB) : (joinL L).1 = 1 ↔ alikeL L = false := by
  unfold joinL
  cases alikeL L with
  | false => simp
  | true =>
    simp only [if_true]
    repeat' split
    all_goals simp
theorem join_two (L : List PB) : (joinL L).1 = 2 ↔ alikeL L = true ∧ disagreeL L = true := by
  unfold joinL
  cases alikeL L with
  | false => simp
  | true =>
    cases disagreeL L with
    | true => simp
    | false =>
      simp only [if_true]
      repeat' split
      all_goals simp_all
/-- a piece that came in for joining, beside others -/
theorem alike_more {L : List PB} {z : PB} (ha : alikeL L = true) (hz : ∀ x ∈ L, alikeB x z = true) (hl : L.length < 40) : alikeL (L ++ [z]) = true := by
  obtain ⟨hne, _, hal⟩ := (alikeL_iff L).1 ha
  refine (alikeL_iff _).2 ⟨by simp, by simp; omega, fun x hx y hy => ?_⟩
  match L, hne with
  | w :: r, _ =>
    have hw := (alikeB_iff w z).1 (hz w (List.mem_cons_self ..))
    have hzz : alikeB z z = true := (alikeB_iff z z).2 ⟨hw.2.1, hw.2.1, rfl, rfl, rfl, rfl⟩
    have sym : ∀ a b, alikeB a b = true → alikeB b a = true := fun a b h => by
      have k := (alikeB_iff a b).1 h
      exact (alikeB_iff b a).2 ⟨k.2.1, k.1, k.2.2.1.symm, k.2.2.2.1.symm, k.2.2.2.2.1.symm, k.2.2.2.2.2.symm⟩
    rcases List.mem_append.1 hx with a | a <;> rcases List.mem_append.1 hy with b | b
    · exact hal x a y b
    · rw [List.mem_singleton.1 b]; exact hz x a
    · rw [List.mem_singleton.1 a]; exact sym _ _ (hz y b)
    · rw [List.mem_singleton.1 a, List.mem_singleton.1 b]; exact hzz
/-- WHAT LIES IS NOT JOINED: where two disagree, no more pieces make them agree -/
theorem join_lies {L : List PB} {z : PB} (h : (joinL L).1 = 2) (hz : ∀ x ∈ L, alikeB x z = true) (hl : L.length < 40) : (joinL (L ++ [z])).1 = 2 := by
  obtain ⟨ha, hd⟩ := (join_two L).1 h
  refine (join_two _).2 ⟨alike_more ha hz hl, ?_⟩
  obtain ⟨x, hx, y, hy, e⟩ := (disagreeL_iff L).1 hd
  exact (disagreeL_iff _).2 ⟨x, List.mem_append_left _ hx, y, List.mem_append_left _ hy, e⟩
theorem find_prefix {L : List PB} {z x : PB} {f : PB → Bool} (h : L.find? f = some x) : (L ++ [z]).find? f = some x := by
  rw [List.find?_append, h]; rfl
theorem bytes_prefix {L : List PB} {z : PB} : ∀ n bs, bytesL L n = some bs → bytesL (L ++ [z]) n = some bs := by
  intro n
  induction n with
  | zero => intro bs h; exact h
  | succ n ih =>
    intro bs h
    rw [bytesL] at h ⊢
    cases e1 : bytesL L n with
    | none => rw [e1] at h; simp at h
    | some cs =>
      cases e2 : L.find? (fun x => hasB x n) with
      | none => rw [e1, e2] at h; simp at h
      | some x =>
        rw [e1, e2] at h
        rw [ih cs e1, find_prefix e2]
        exact h
/-- what is joined, and one more piece that doesn't disagree: the bytes stay -/
theorem join_more {L : List PB} {z : PB} (h : (joinL L).1 = 0) (hz : ∀ x ∈ L, alikeB x z = true) (hl : L.length < 40) : (joinL (L ++ [z])).1 = 2 ∨ ((joinL (L ++ [z])).1 = 0 ∧ (joinL (L ++ [z])).2.2 = (joinL L).2.2 ∧ (joinL (L ++ [z])).2.1 = headL (L ++ [z]) ∧ (joinL L).2.1 = headL L) := by
  have ha : alikeL L = true := by
    cases e : alikeL L with
    | true => rfl
    | false => have := (join_one L).2 e; omega
  have ha' := alike_more ha hz hl
  cases hd' : disagreeL (L ++ [z]) with
  | true => exact Or.inl ((join_two _).2 ⟨ha', hd'⟩)
  | false =>
    right
    have hd : disagreeL L = false := by
      cases e : disagreeL L with
      | false => rfl
      | true => have := (join_two L).2 ⟨ha, e⟩; omega
    unfold joinL at h ⊢
    rw [ha, if_pos rfl, hd, if_neg (by simp)] at h
    rw [ha', if_pos rfl, hd', if_neg (by simp), ha, if_pos rfl, hd, if_neg (by simp)]
    cases e1 : endL L with
    | none => rw [e1] at h; simp at h
    | some e =>
      rw [e1] at h
      simp only at h
      have e1' : endL (L ++ [z]) = some e := by
        unfold endL at e1 ⊢
        cases e2 : L.find? (fun x => !x.1.more) with
        | none => rw [e2] at e1; simp at e1
        | some x => rw [find_prefix e2, ← e1, e2]
      rw [e1']
      simp only
      cases e3 : bytesL L e.toNat with
      | none => rw [e3] at h; simp at h
      | some bs =>
        rw [bytes_prefix e.toNat bs e3]
        simp
end Go.Proofs.YtjbkgmbakjnlhabGreatDoor

/- Benches, plain; the program's sincesHold. -/
namespace Go.Proofs.YtjbkgmbakjnlhabGreatDoor
set_option maxRecDepth 100000
open Go.RowKit

def sinceOk (now : Int) (s : SV) : Prop := s.since ≤ now ∧ 0 ≤ s.since ∧ now - 6 < s.since
def waits (s : SV) : Prop := (joinL (s.xs.map RV.key)).1 = 3 ∧ (s.bad = true → s.xs.length = 1)
def firstAlike (s t : SV) : Prop := ∃ x y, s.xs[0]? = some x ∧ t.xs[0]? = some y ∧ alikeB x.key y.key = true
theorem firstAlike_symm {s t : SV} (h : firstAlike s t) : firstAlike t s := by
  obtain ⟨x, y, h1, h2, h3⟩ := h
  refine ⟨y, x, h2, h1, ?_⟩
  rw [alikeB_iff] at h3 ⊢
  obtain ⟨a, b, c, d, e, f⟩ := h3
  exact ⟨b, a, c.symm, d.symm, e.symm, f.symm⟩
/-- what a test answers, told by a proposition -/
def SaysB (Q : Prop) (w : World) (e : Ending) (w' : World) : Prop := ∃ b : Bool, e = .returned (.bool b) ∧ (b = true ↔ Q) ∧ Below w.heap.size w w'
theorem SaysB.mk {Q : Prop} {w w' : World} (b : Bool) (h : b = true ↔ Q) (hb : Below w.heap.size w w') : SaysB Q w (.returned (.bool b)) w' := ⟨b, rfl, h, hb⟩
def rises (ss : List SV) (j : Nat) (s : SV) : Prop := ∀ r, 0 < j → ss[j - 1]? = some r → r.since ≤ s.since
def lone (ss : List SV) (j : Nat) (s : SV) : Prop := ∀ i r, i < j → ss[i]? = some r → ¬ firstAlike r s
def benchOk (now : Int) (ss : List SV) : Prop := (0 ≤ now ∧ now ≤ 1000000) ∧ ss.length ≤ 4 ∧ ∀ (j : Nat) s, ss[j]? = some s → sinceOk now s ∧ waits s ∧ rises ss j s ∧ lone ss j s
theorem waits_first {s : SV} (h : waits s) : ∃ x, s.xs[0]? = some x := by
  cases hx : s.xs with
  | nil =>
    have := h.1
    rw [hx] at this
    cases this
  | cons x r => exact ⟨x, rfl⟩

set_option maxRecDepth 100000 in
set_option maxHeartbeats 3200000 in
theorem sincesHold_any (now : Int) (g cl : Nat) (ss : List SV) (w : World) (hL : SL w g ss) (h0 : 0 ≤ now) (h1 : now ≤ 1000000) (hm : ss.length ≤ 4) :
    Calls Tryz.prog 73 #[.agg #[.int .i64 now, .slice (some ⟨g, 0, none⟩) ss.length cl]] w (SaysB (∀ (j : Nat) s, ss[j]? = some s → sinceOk now s ∧ rises ss j s) w) := by
  have HL : Hid (SL w g ss) := hL
  clear hL
  have KC : Hid (∀ (n lo : Int) (W : World), Calls Tryz.prog 72 #[.int .i64 n, .int .i64 lo, .int .i64 now] W fun e w' => e = .returned (.int .i64 (clampI n lo now)) ∧ w' = W) := fun n lo W => clamp_any n lo now W
  by_cases hmx : now - 6 + 1 ≤ 0
  all_goals
    go_enter Tryz.func73, Tryz.ntmps73
    go_wp2
    go_loopw [3, 14] (fun l i wr => ∃ (k : Nat) (L : Int), k ≤ ss.length ∧ i = .int .i64 k ∧ l = .int .i64 L ∧ (0 ≤ L ∧ now - 6 < L ∧ L ≤ now) ∧ Hid (∀ r, 0 < k → ss[k - 1]? = some r → L = r.since) ∧ Hid (k = 0 → L = 0 ∨ L = now - 5) ∧ Hid (∀ j s, j < k → ss[j]? = some s → sinceOk now s ∧ rises ss j s) ∧ Hid (Below w.heap.size w wr) ∧ Hid (wr.cell? ⟨w.heap.size, 0, none⟩ = some (.int .i64 now) ∧ w.heap.size < wr.heap.size)) (fun _ i _ => ss.length - (intOf i).toNat)
    case atStart => exact ⟨0, _, by omega, rfl, rfl, ⟨by omega, by omega, by omega⟩, fun r h => by omega, fun _ => by omega, fun j s h => by omega, Joins.below_alloc1 _ _, by go_simp, by simp⟩
    case round =>
      obtain ⟨k, L, hk, rfl, rfl, ⟨hL0, hL1, hL2⟩, HP, HZ, HC, HB, HN⟩ := hrel
      obtain ⟨n0, n1⟩ := HN.out
      by_cases hlt : k < ss.length
      · obtain ⟨x, hx⟩ := get_of_lt hlt
        have hi : (k : Int) < (ss.length : Int) := by omega
        have Lr := HL.out.below HB.out
        obtain ⟨c0, c1, c2⟩ := Lr.elem k x hx
        have hgr := Lr.lt
        have HX : Hid (ss[k]? = some x) := hx
        clear hx Lr
        have KX : Hid (∀ W : World, Calls Tryz.prog 72 #[.int .i64 x.since, .int .i64 L, .int .i64 now] W fun e w' => e = .returned (.int .i64 (clampI x.since L now)) ∧ w' = W) := fun W => KC.out _ _ W
        have HG : Hid (∀ s, ss[k]? = some s → (sinceOk now s ∧ rises ss k s ↔ L ≤ x.since ∧ x.since ≤ now)) := fun s hs => by
          have e : s = x := Option.some.inj (hs.symm.trans HX.out)
          subst e
          constructor
          · rintro ⟨⟨a, b, c⟩, d⟩
            refine ⟨?_, a⟩
            rcases Nat.eq_zero_or_pos k with h | h
            · rcases HZ.out h with h' | h' <;> omega
            · obtain ⟨r, hr⟩ := get_of_lt (show k - 1 < ss.length by omega)
              have := HP.out r h hr
              have := d r h hr
              omega
          · rintro ⟨a, b⟩
            refine ⟨⟨b, by omega, by omega⟩, fun r h hr => ?_⟩
            have := HP.out r h hr
            omega
        by_cases hin : L ≤ x.since ∧ x.since ≤ now
        · have hcl : clampI x.since L now = x.since := by unfold clampI; split <;> split <;> omega
          rw [hcl] at KX
          have hne : (x.since != x.since) = false := by simp
          clear hcl
          go_wp2
          go_region_held3 (fun w' => w'.cell? ⟨wr.heap.size, 1, none⟩ = some (.int .i64 x.since) ∧ w'.cell? ⟨w.heap.size, 0, none⟩ = some (.int .i64 now)) (go_keep)
            (first
              | (go_at_call 72; (with_reducible refine (KX.out _).mono ?_); rintro e w1 ⟨rfl, hw1⟩; subst hw1))
          go_wp2
          go_roundw
          case rel =>
            refine ⟨k + 1, x.since, by omega, by go_num, rfl, ⟨by omega, by omega, by omega⟩, fun r _ hr => ?_, fun h => by omega, fun j s hj hs => ?_, (HB.out.alloc (HB.out.size) _).drew, ?_, ?_⟩
            · rw [Nat.add_sub_cancel, HX.out] at hr
              exact congrArg SV.since (Option.some.inj hr)
            · rcases Nat.lt_or_ge j k with h | h
              · exact HC.out j s h hs
              · obtain rfl : j = k := by omega
                exact (HG.out s hs).2 hin
            · go_simp
            · simp; omega
          case measure => simp [intOf]; omega
        · have hcl : (x.since != clampI x.since L now) = true := by
            rw [bne_iff_ne]
            unfold clampI
            split <;> split <;> omega
          go_wp2
          go_region_held3 (fun w' => w'.cell? ⟨wr.heap.size, 1, none⟩ = some (.int .i64 x.since) ∧ w'.cell? ⟨w.heap.size, 0, none⟩ = some (.int .i64 now)) (go_keep)
            (first
              | (go_at_call 72; (with_reducible refine (KX.out _).mono ?_); rintro e w1 ⟨rfl, hw1⟩; subst hw1))
          go_wp2
          go_ret
          refine (SaysB.mk false ⟨fun h => by simp at h, fun h => (hin ((HG.out x HX.out).1 (h k x HX.out))).elim⟩ ((HB.out.alloc (HB.out.size) _).drew))
      · obtain rfl : k = ss.length := by omega
        go_wp2
        go_ret
        refine (SaysB.mk true ⟨fun _ j s hs => HC.out j s (by rw [List.getElem?_eq_some_iff] at hs; exact hs.1) hs, fun _ => rfl⟩ (HB.out))
end Go.Proofs.YtjbkgmbakjnlhabGreatDoor

/- The contracts of the two FragAlike. -/
namespace Go.Proofs.YtjbkgmbakjnlhabGreatDoor
set_option maxRecDepth 100000
open Go.RowKit

set_option maxHeartbeats 1600000 in
theorem specAlike_any (p q : Pk) (a b : Option Addr) (zs ys : List Int) (c d : Nat) (w : World) (hp : zs.length ≤ 1048576) (hq : ys.length ≤ 1048576) :
    Calls Tryz.prog 45 #[p.val (.slice a zs.length c), q.val (.slice b ys.length d)] w fun e w' => e = .returned (.bool (alikeB (p, zs) (q, ys))) ∧ Below w.heap.size w w' := by
  unfold Pk.val
  cases hv : okB p zs.length
  · have HA : Hid (alikeB (p, zs) (q, ys) = false) := by simp [Hid, alikeB, hv]
    go_enter Tryz.func45, Tryz.ntmps45
    go_wp2_with fail
    refine (specOk_any p a zs.length c _ hp).mono ?_
    rintro e w1 ⟨rfl, b1⟩
    have B1 : Hid (Below w.heap.size w w1) := (Joins.below_alloc2 _ _ _).trans (b1.mono (by simp; omega))
    clear b1
    go_wp2
    go_ret
    exact ⟨ret_bool HA.out.symm, B1.out⟩
  go_enter Tryz.func45, Tryz.ntmps45
  go_wp2_with fail
  refine (specOk_any p a zs.length c _ hp).mono ?_
  rintro e w1 ⟨rfl, b1⟩
  have B1 : Below w.heap.size w w1 := (Joins.below_alloc2 _ _ _).trans (b1.mono (by simp; omega))
  have X1 : Boxed w1 w.heap.size p (.slice a zs.length c) := ((Boxed.new w p (.slice a zs.length c) 33).below (Joins.below_alloc1 _ _)).below b1
  have Y1 : Boxed w1 (w.heap.size + 1) q (.slice b ys.length d) := (Boxed.newAt (w.alloc _) (w.heap.size + 1) q (.slice b ys.length d) 33 (by simp)).below b1
  clear b1
  obtain ⟨l1, k0, k1, k2, k3, k4, k5, k6, k7, k8⟩ := id Y1
  cases hu : okB q ys.length
  · have HA : Hid (alikeB (p, zs) (q, ys) = false) := by simp [Hid, alikeB, hu]
    go_wp2_with fail
    refine (specOk_any q b ys.length d _ hq).mono ?_
    rintro e w2 ⟨rfl, b2⟩
    have B2 : Hid (Below w.heap.size w w2) := B1.trans (b2.mono (by omega))
    clear b2 B1
    go_wp2
    go_ret
    exact ⟨ret_bool HA.out.symm, B2.out⟩
  · go_wp2_with fail
    refine (specOk_any q b ys.length d _ hq).mono ?_
    rintro e w2 ⟨rfl, b2⟩
    have B2 : Hid (Below w.heap.size w w2) := B1.trans (b2.mono (by omega))
    have X2 := X1.below b2
    have Y2 := Y1.below b2
    clear b2 B1 X1 Y1 k0 k1 k2 k3 k4 k5 k6 k7 k8 l1
    obtain ⟨l0, c0, c1, c2, c3, c4, c5, c6, c7, c8⟩ := id X2
    obtain ⟨l1, k0, k1, k2, k3, k4, k5, k6, k7, k8⟩ := id Y2
    have HV : Hid (okB p zs.length = true ∧ okB q ys.length = true) := ⟨hv, hu⟩
    clear hv hu
    go_wp2
    all_goals
      go_ret
      refine ⟨ret_bool ?_, B2.out⟩
      have h1 := HV.out.1
      have h2 := HV.out.2
      simp_all [alikeB]
end Go.Proofs.YtjbkgmbakjnlhabGreatDoor
