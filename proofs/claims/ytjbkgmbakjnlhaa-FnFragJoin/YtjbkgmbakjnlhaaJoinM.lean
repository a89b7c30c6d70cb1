/- What a whole packet was cut into joins to it, in whatever order. -/
import Derived.Test.YtjbkgmbakjnlhaaWays
import Derived.Test.YtjbkgmbakjnlhaaJoinD
namespace Go.Proofs.Ytjbkgmbakjnlhaa

theorem PieceAt.byte {p : Pk} {zs : List Int} {m l : Nat} {x : PB} (h : PieceAt p zs m l x) {j : Nat} (j0 : m ≤ j) (j1 : j < m + l) : byteAt x j = zs.getD j 0 := by
  unfold byteAt
  rw [h.off, h.2.1]
  have e : ((j : Int) - (m : Int)).toNat = j - m := by omega
  rw [e]
  simp only [List.getD, List.getElem?_take, List.getElem?_drop]
  rw [if_pos (by omega), show m + (j - m) = j by omega]
theorem PieceAt.endIs {p : Pk} {zs : List Int} {m l : Nat} {x : PB} (h : PieceAt p zs m l x) : endOf x = ((m + l : Nat) : Int) := by
  unfold endOf; rw [h.off, h.len]; omega
theorem PieceAt.moreIs {p : Pk} {zs : List Int} {m l : Nat} {x : PB} (h : PieceAt p zs m l x) : x.1.more = decide (m + l < zs.length) := by rw [h.1]
theorem PieceAt.has {p : Pk} {zs : List Int} {m l : Nat} {x : PB} (h : PieceAt p zs m l x) (j : Nat) : hasB x j = true ↔ m ≤ j ∧ j < m + l := by
  unfold hasB
  rw [h.off, h.endIs]
  simp
  omega
/-- two pieces of one packet don't disagree -/
theorem against_no {p : Pk} {zs : List Int} {x y : PB} (hx : PieceOf p zs x) (hy : PieceOf p zs y) : againstB x y = false := by
  obtain ⟨m, l, hx⟩ := hx
  obtain ⟨m', l', hy⟩ := hy
  unfold againstB
  rw [Bool.or_eq_false_iff]
  constructor
  · rw [List.any_eq_false]
    intro t ht
    rw [List.mem_range, hx.len] at ht
    have e : x.1.off + (t : Int) = ((m + t : Nat) : Int) := by rw [hx.off]; omega
    rw [e]
    simp only [Bool.and_eq_true, bne_iff_ne, ne_eq, not_and, Decidable.not_not]
    intro hh
    have hh' := (hy.has (m + t)).1 hh
    rw [hx.byte (by omega) (by omega), hy.byte hh'.1 hh'.2]
  · rw [hx.moreIs, hy.moreIs, hx.endIs, hy.endIs]
    have h1 := hx.2.2.2.1
    have h2 := hy.2.2.2.1
    by_cases hc : m + l < zs.length
    · simp [hc]
    · simp [hc]
      omega
theorem bytes_ways {p : Pk} {zs : List Int} {L : List PB} (h : Ways p zs L) : ∀ n, n ≤ zs.length → bytesL L n = some (zs.take n) := by
  intro n
  induction n with
  | zero => intro _; simp [bytesL]
  | succ n ih =>
    intro hn
    rw [bytesL, ih (by omega)]
    obtain ⟨y, hy, y0, y1⟩ := h.cov n (by omega)
    cases hf : L.find? (fun x => hasB x n) with
    | none =>
      have := List.find?_eq_none.1 hf y hy
      have hh : hasB y n = true := by unfold hasB endOf; rw [Bool.and_eq_true]; exact ⟨decide_eq_true y0, decide_eq_true y1⟩
      exact absurd hh this
    | some x =>
      have hx := List.mem_of_find?_eq_some hf
      have hh : hasB x n = true := by have := List.find?_some hf; simpa using this
      obtain ⟨m, l, hp⟩ := h.each x hx
      have hb := (hp.has n).1 hh
      simp only
      rw [hp.byte hb.1 hb.2, List.take_add_one]
      simp [List.getD, List.getElem?_eq_getElem (show n < zs.length by omega)]
theorem end_ways {p : Pk} {zs : List Int} {L : List PB} (h : Ways p zs L) : endL L = some (zs.length : Int) := by
  unfold endL
  obtain ⟨y, hy, y0⟩ := h.ends
  cases hf : L.find? (fun x => !x.1.more) with
  | none =>
    have := List.find?_eq_none.1 hf y hy
    simp [y0] at this
  | some x =>
    have hx := List.mem_of_find?_eq_some hf
    have hm : x.1.more = false := by have := List.find?_some hf; simpa using this
    obtain ⟨m, l, hp⟩ := h.each x hx
    rw [hp.moreIs] at hm
    have := hp.2.2.2.1
    simp at hm
    simp only [Option.map_some, hp.endIs]
    rw [show m + l = zs.length by omega]
theorem disagree_ways {p : Pk} {zs : List Int} {L : List PB} (h : Ways p zs L) : disagreeL L = false := by
  unfold disagreeL
  rw [List.any_eq_false]
  intro x hx
  simp only [Bool.not_eq_true]
  rw [List.any_eq_false]
  intro y hy
  rw [against_no (h.each x hx) (h.each y hy)]
  simp
theorem piece_key {p : Pk} {zs : List Int} {x : PB} (h : PieceOf p zs x) : x.1.src = p.src ∧ x.1.dst = p.dst ∧ x.1.kind = p.kind ∧ x.1.id = p.id ∧ x.1.hops = p.hops ∧ x.1.whole = p.whole := by
  obtain ⟨m, l, h⟩ := h
  rw [h.1]
  exact ⟨rfl, rfl, rfl, rfl, rfl, rfl⟩
theorem alike_ways {p : Pk} {zs : List Int} {L : List PB} (hw : WholeOk p zs.length) (h : Ways p zs L) (hl : L.length ≤ 40) : alikeL L = true := by
  match L, h, hl with
  | [], h, _ => obtain ⟨y, hy, _⟩ := h.ends; cases hy
  | x :: r, h, hl =>
    unfold alikeL
    rw [Bool.and_eq_true]
    refine ⟨by simpa using hl, List.all_eq_true.2 fun y hy => ?_⟩
    have hx := h.each x (List.mem_cons_self ..)
    have hy := h.each y hy
    have k1 := piece_key hx
    have k2 := piece_key hy
    obtain ⟨_, _, ax⟩ := hx
    obtain ⟨_, _, ay⟩ := hy
    unfold alikeB
    rw [ax.ok hw, ay.ok hw, k1.1, k1.2.1, k1.2.2.1, k1.2.2.2.1, k2.1, k2.2.1, k2.2.2.1, k2.2.2.2.1]
    simp
theorem fold_hops {p : Pk} {zs : List Int} {L : List PB} (h : ∀ y ∈ L, PieceOf p zs y) : L.foldl (fun h y => if y.1.hops < h then y.1.hops else h) p.hops = p.hops := by
  induction L with
  | nil => rfl
  | cons x r ih =>
    rw [List.foldl_cons, (piece_key (h x (List.mem_cons_self ..))).2.2.2.2.1, if_neg (by omega)]
    exact ih fun y hy => h y (List.mem_cons_of_mem _ hy)
theorem head_ways {p : Pk} {zs : List Int} {L : List PB} (hw : WholeOk p zs.length) (h : Ways p zs L) : headL L = p := by
  match L, h with
  | [], h => obtain ⟨y, hy, _⟩ := h.ends; cases hy
  | x :: r, h =>
    have k := piece_key (h.each x (List.mem_cons_self ..))
    simp only [headL]
    rw [k.1, k.2.1, k.2.2.1, k.2.2.2.1, k.2.2.2.2.1, fold_hops h.each]
    have hany : (x :: r).any (fun y => y.1.whole) = false := by
      rw [List.any_eq_false]
      intro y hy
      rw [(piece_key (h.each y hy)).2.2.2.2.2, hw.2.1]
      simp
    rw [hany]
    obtain ⟨_, h1, h2, h3⟩ := hw
    obtain ⟨a, b, c, d, e, f, g, i⟩ := p
    simp at h1 h2 h3 ⊢
    exact ⟨h1, h2.symm, h3⟩
/-- THE SAME AGAIN -/
theorem join_ways {p : Pk} {zs : List Int} {L : List PB} (hw : WholeOk p zs.length) (h : Ways p zs L) (hl : L.length ≤ 40) : joinL L = (0, (p, zs)) := by
  unfold joinL
  rw [alike_ways hw h hl, if_pos rfl, disagree_ways h, if_neg (by simp), end_ways h]
  simp only [Int.toNat_natCast]
  rw [bytes_ways h zs.length (Nat.le_refl _), head_ways hw h]
  simp
end Go.Proofs.Ytjbkgmbakjnlhaa
