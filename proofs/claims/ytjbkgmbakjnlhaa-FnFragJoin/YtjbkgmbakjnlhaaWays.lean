/- Plain facts on pieces: what a whole packet is cut into, once or twice, are pieces of it, and they have every byte of it and its end. -/
import Derived.Test.YtjbkgmbakjnlhaaCutTwo
namespace Go.Proofs.Ytjbkgmbakjnlhaa

/-- a piece of a whole packet: so many bytes from a place on -/
def PieceAt (p : Pk) (zs : List Int) (m l : Nat) (x : Pk × List Int) : Prop :=
  x.1 = ⟨p.src, p.dst, p.kind, p.id, p.hops, p.whole, (m : Int), decide (m + l < zs.length)⟩ ∧ x.2 = (zs.drop m).take l ∧ m % 4 = 0 ∧ m + l ≤ zs.length ∧ (m + l < zs.length → 0 < l ∧ l % 4 = 0)
def PieceOf (p : Pk) (zs : List Int) (x : Pk × List Int) : Prop := ∃ m l, PieceAt p zs m l x
/-- some piece of a list has the byte at a place; some piece tells of the end -/
def Cov (L : List (Pk × List Int)) (j : Nat) : Prop := ∃ y ∈ L, y.1.off ≤ j ∧ (j : Int) < y.1.off + y.2.length
def Ends (L : List (Pk × List Int)) : Prop := ∃ y ∈ L, y.1.more = false

theorem PieceAt.len {p : Pk} {zs : List Int} {m l : Nat} {x : Pk × List Int} (h : PieceAt p zs m l x) : x.2.length = l := by
  rw [h.2.1]; have := h.2.2.2.1; simp; omega
theorem piece_whole {p : Pk} {zs : List Int} (h : WholeOk p zs.length) : PieceAt p zs 0 zs.length (p, zs) := by
  obtain ⟨_, h1, h2, h3⟩ := h
  refine ⟨?_, by simp, rfl, by omega, fun h => by omega⟩
  obtain ⟨a, b, c, d, e, f, g, i⟩ := p
  simp at h1 h2 h3 ⊢
  exact ⟨h2, h3⟩
theorem PieceAt.ok {p : Pk} {zs : List Int} {m l : Nat} {x : Pk × List Int} (hw : WholeOk p zs.length) (h : PieceAt p zs m l x) : okB x.1 x.2.length = true := by
  obtain ⟨h0, h1, h2, h3⟩ := hw
  have hl := h.len
  obtain ⟨e1, e2, h4, h5, h6⟩ := h
  rw [hl, e1]
  simp only [okB, headB, offB, moreB, wholeB, inB, Bool.and_eq_true, Bool.or_eq_true, decide_eq_true_eq, beq_iff_eq, Bool.not_eq_true', beq_eq_false_iff_ne, decide_eq_false_iff_not] at h0 ⊢
  obtain ⟨⟨⟨⟨⟨⟨⟨a1, a2⟩, a3⟩, a4⟩, a5⟩, ⟨⟨a6, a7⟩, a8⟩⟩, a9⟩, a10⟩ := h0
  rw [h2] at a8
  refine ⟨⟨⟨⟨⟨⟨⟨a1, a2⟩, a3⟩, a4⟩, a5⟩, ⟨⟨⟨by omega, by omega⟩, by omega⟩, by omega⟩⟩, ?_⟩, Or.inl h1⟩
  by_cases hc : m + l < zs.length
  · right
    have := h6 hc
    omega
  · exact Or.inl hc

/-- the numbers of a cut -/
theorem cutN_facts {most : Int} (h0 : 12 ≤ most) : 4 ≤ cutN most ∧ cutN most % 4 = 0 := by
  unfold cutN; omega

theorem piece_mem {p : Pk} {zs : List Int} {m l n i : Nat} {x : Pk × List Int} (h : PieceAt p zs m l x) (hn : 4 ≤ n) (hn4 : n % 4 = 0) (hi : i * n < l) :
    PieceAt p zs (m + i * n) (min n (l - i * n)) (pieceP x.1 x.2.length (i * n) n, pieceD x.2 (i * n) n) := by
  have hl := h.len
  obtain ⟨e1, e2, h4, h5, h6⟩ := h
  have hin : (i * n) % 4 = 0 := by rw [Nat.mul_mod, hn4]; simp
  refine ⟨?_, ?_, by omega, by omega, fun hc => ?_⟩
  · rw [hl]
    unfold pieceP
    rw [e1]
    simp
    rw [Bool.eq_iff_iff]
    simp
    omega
  · simp only [pieceD, e2, List.drop_take, List.take_take, List.drop_drop]
  · by_cases hc2 : i * n + n < l
    · rw [Nat.min_eq_left (by omega)]; omega
    · rw [Nat.min_eq_right (by omega)] at hc ⊢
      have := h6 (by omega)
      omega

theorem count_lt {l n i : Nat} (_hn : 0 < n) (hi : i < (l + n - 1) / n) : i * n < l := by
  have h1 : (i + 1) * n ≤ l + n - 1 := Nat.le_trans (Nat.mul_le_mul_right n hi) (Nat.div_mul_le_self _ _)
  rw [Nat.add_mul] at h1
  omega
theorem lt_count {l n i : Nat} (hn : 0 < n) (hi : i * n < l) : i < (l + n - 1) / n := by
  have h1 : i + 1 ≤ (l + n - 1) / n := (Nat.le_div_iff_mul_le hn).2 (by rw [Nat.add_mul]; omega)
  exact h1

/-- the pieces of a piece, in the one form or the other -/
theorem cutL_forms {p : Pk} {zs : List Int} {m l : Nat} {x : Pk × List Int} {most : Int} (hw : WholeOk p zs.length) (h : PieceAt p zs m l x) (h0 : 12 ≤ most) :
    cutL x.1 x.2 most = [x] ∨ (0 < l ∧ cutL x.1 x.2 most = cutTo x.1 x.2 (cutN most) ((l + cutN most - 1) / cutN most)) := by
  have hok := h.ok hw
  have hl := h.len
  have hwh : x.1.whole = false := by rw [h.1]; exact hw.2.1
  unfold cutL
  rw [hok, if_pos rfl, if_neg (by omega)]
  by_cases hf : 8 + (x.2.length : Int) ≤ most
  · rw [if_pos hf]; exact Or.inl rfl
  · rw [if_neg hf, hwh, if_neg (by simp), hl]
    exact Or.inr ⟨by omega, rfl⟩

theorem cut_piece {p : Pk} {zs : List Int} {m l : Nat} {x : Pk × List Int} {most : Int} (hw : WholeOk p zs.length) (h : PieceAt p zs m l x) (h0 : 12 ≤ most) : ∀ y ∈ cutL x.1 x.2 most, PieceOf p zs y := by
  have hn := cutN_facts h0
  intro y hy
  rcases cutL_forms hw h h0 with e | ⟨_, e⟩
  · rw [e] at hy
    obtain rfl := List.mem_singleton.1 hy
    exact ⟨m, l, h⟩
  · rw [e] at hy
    obtain ⟨i, hi, rfl⟩ := List.mem_map.1 hy
    exact ⟨_, _, piece_mem h hn.1 hn.2 (count_lt (by omega) (List.mem_range.1 hi))⟩
theorem cut_mem {p : Pk} {zs : List Int} {m l i : Nat} {x : Pk × List Int} {n : Nat} (_h : PieceAt p zs m l x) (hn : 0 < n) (hi : i * n < l) : (pieceP x.1 x.2.length (i * n) n, pieceD x.2 (i * n) n) ∈ cutTo x.1 x.2 n ((l + n - 1) / n) :=
  List.mem_map.2 ⟨i, List.mem_range.2 (lt_count hn hi), rfl⟩
theorem PieceAt.off {p : Pk} {zs : List Int} {m l : Nat} {x : Pk × List Int} (h : PieceAt p zs m l x) : x.1.off = m := by rw [h.1]
theorem cut_cov {p : Pk} {zs : List Int} {m l : Nat} {x : Pk × List Int} {most : Int} (hw : WholeOk p zs.length) (h : PieceAt p zs m l x) (h0 : 12 ≤ most) {j : Nat} (j0 : m ≤ j) (j1 : j < m + l) : Cov (cutL x.1 x.2 most) j := by
  have hn := cutN_facts h0
  rcases cutL_forms hw h h0 with e | ⟨_, e⟩
  · rw [e]
    exact ⟨x, List.mem_singleton.2 rfl, by rw [h.off]; omega, by rw [h.off, h.len]; omega⟩
  · rw [e]
    generalize cutN most = n at *
    have hd := Nat.div_add_mod (j - m) n
    have hm := Nat.mod_lt (j - m) (show 0 < n by omega)
    rw [Nat.mul_comm] at hd
    have hi : (j - m) / n * n < l := by omega
    have hp := piece_mem h hn.1 hn.2 hi
    exact ⟨_, cut_mem h (by omega) hi, by rw [hp.off]; omega, by rw [hp.off, hp.len]; omega⟩
theorem cut_ends {p : Pk} {zs : List Int} {m l : Nat} {x : Pk × List Int} {most : Int} (hw : WholeOk p zs.length) (h : PieceAt p zs m l x) (h0 : 12 ≤ most) (he : m + l = zs.length) : Ends (cutL x.1 x.2 most) := by
  have hn := cutN_facts h0
  rcases cutL_forms hw h h0 with e | ⟨hl, e⟩
  · rw [e]
    exact ⟨x, List.mem_singleton.2 rfl, by rw [h.1]; simp; omega⟩
  · rw [e]
    generalize cutN most = n at *
    have hd := Nat.div_add_mod (l - 1) n
    have hm := Nat.mod_lt (l - 1) (show 0 < n by omega)
    rw [Nat.mul_comm] at hd
    have hi : (l - 1) / n * n < l := by omega
    have hp := piece_mem h hn.1 hn.2 hi
    exact ⟨_, cut_mem h (by omega) hi, by rw [hp.1]; simp; omega⟩

/-- WHAT A WHOLE PACKET IS CUT INTO: pieces of it, every byte, the end. -/
structure Ways (p : Pk) (zs : List Int) (L : List (Pk × List Int)) : Prop where
  each : ∀ y ∈ L, PieceOf p zs y
  cov : ∀ j, j < zs.length → Cov L j
  ends : Ends L
theorem ways_once {p : Pk} {zs : List Int} {most : Int} (hw : WholeOk p zs.length) (h0 : 12 ≤ most) : Ways p zs (cutL p zs most) := by
  have h := piece_whole hw
  have a := cut_piece hw h h0
  have c := cut_ends hw h h0 (Nat.zero_add _)
  refine ⟨a, fun j hj => ?_, c⟩
  have b := cut_cov hw h h0 (j := j) (Nat.zero_le j) (Nat.lt_of_lt_of_eq hj (Nat.zero_add _).symm)
  exact b
theorem Cov.mono {L L' : List (Pk × List Int)} {j : Nat} (h : Cov L j) (hs : ∀ y ∈ L, y ∈ L') : Cov L' j := by
  obtain ⟨y, hy, h1, h2⟩ := h
  exact ⟨y, hs y hy, h1, h2⟩
theorem Ends.mono {L L' : List (Pk × List Int)} (h : Ends L) (hs : ∀ y ∈ L, y ∈ L') : Ends L' := by
  obtain ⟨y, hy, h1⟩ := h
  exact ⟨y, hs y hy, h1⟩
/-- a list with the same pieces, in whatever order, some of them twice -/
theorem Ways.mix {p : Pk} {zs : List Int} {L L' : List (Pk × List Int)} (h : Ways p zs L) (h1 : ∀ y ∈ L, y ∈ L') (h2 : ∀ y ∈ L', y ∈ L) : Ways p zs L' :=
  ⟨fun y hy => h.each y (h2 y hy), fun j hj => (h.cov j hj).mono h1, h.ends.mono h1⟩
theorem Ways.both {p : Pk} {zs : List Int} {L L' : List (Pk × List Int)} (h : Ways p zs L) (h' : ∀ y ∈ L', PieceOf p zs y) : Ways p zs (L ++ L') :=
  ⟨fun y hy => (List.mem_append.1 hy).elim (h.each y) (h' y), fun j hj => (h.cov j hj).mono fun _ hy => List.mem_append_left _ hy, h.ends.mono fun _ hy => List.mem_append_left _ hy⟩
theorem mem_split {L : List (Pk × List Int)} {k : Nat} {x y : Pk × List Int} (hx : L[k]? = some x) (hy : y ∈ L) : y = x ∨ y ∈ L.take k ∨ y ∈ L.drop (k + 1) := by
  obtain ⟨i, hi⟩ := List.getElem?_of_mem hy
  rcases Nat.lt_trichotomy i k with h | h | h
  · right; left
    exact List.mem_of_getElem? (i := i) (by rw [List.getElem?_take, if_pos h]; exact hi)
  · subst h
    rw [hx] at hi
    exact Or.inl (Option.some.inj hi).symm
  · right; right
    exact List.mem_of_getElem? (i := i - (k + 1)) (by rw [List.getElem?_drop, show k + 1 + (i - (k + 1)) = i by omega]; exact hi)
theorem CutsOf.ways {p : Pk} {zs : List Int} {L : List (Pk × List Int)} (hw : WholeOk p zs.length) (h : CutsOf p zs L) : Ways p zs L := by
  obtain ⟨most, h0, _, rfl | ⟨k, more, x, hx, m0, _, rfl⟩⟩ := h
  · exact ways_once hw h0
  · have W := ways_once hw h0
    obtain ⟨m, l, hp⟩ := W.each x (List.mem_of_getElem? hx)
    refine ⟨fun y hy => ?_, fun j hj => ?_, ?_⟩
    · rcases List.mem_append.1 hy with hy | hy
      · rcases List.mem_append.1 hy with hy | hy
        · exact W.each y (List.mem_of_mem_take hy)
        · exact cut_piece hw hp m0 y hy
      · exact W.each y (List.mem_of_mem_drop hy)
    · obtain ⟨y, hy, y0, y1⟩ := W.cov j hj
      rcases mem_split hx hy with rfl | hy | hy
      · rw [hp.off] at y0 y1
        rw [hp.len] at y1
        exact (cut_cov hw hp m0 (by omega) (by omega)).mono fun z hz => List.mem_append_left _ (List.mem_append_right _ hz)
      · exact ⟨y, List.mem_append_left _ (List.mem_append_left _ hy), y0, y1⟩
      · exact ⟨y, List.mem_append_right _ hy, y0, y1⟩
    · obtain ⟨y, hy, y0⟩ := W.ends
      rcases mem_split hx hy with rfl | hy | hy
      · have he : m + l = zs.length := by
          rw [hp.1] at y0
          have := hp.2.2.2.1
          simp at y0
          omega
        exact (cut_ends hw hp m0 he).mono fun z hz => List.mem_append_left _ (List.mem_append_right _ hz)
      · exact ⟨y, List.mem_append_left _ (List.mem_append_left _ hy), y0⟩
      · exact ⟨y, List.mem_append_right _ hy, y0⟩
end Go.Proofs.Ytjbkgmbakjnlhaa
