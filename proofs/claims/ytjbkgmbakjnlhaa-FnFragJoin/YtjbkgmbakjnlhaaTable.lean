/- The table of places: what pieces say of the bytes of a packet. -/
import Derived.Test.YtjbkgmbakjnlhaaJoinS
import Derived.Deep.WholeRow
namespace Go.Proofs.Ytjbkgmbakjnlhaa
open Go.RowKit

/-- a place: its byte, and whether it is known -/
abbrev Tab := List (Int × Bool)
def tcells (T : Tab) : Array Value := (T.flatMap fun e => [Value.int .u8 e.1, Value.bool e.2]).toArray
def noTab : Tab := List.replicate 128 (0, false)
theorem tcells_size (T : Tab) : (tcells T).size = T.length * 2 := by
  unfold tcells
  rw [List.size_toArray]
  induction T with
  | nil => rfl
  | cons x r ih => simp only [List.flatMap_cons, List.length_append, ih, List.length_cons, List.length_nil]; omega
theorem flat2_at (T : Tab) (m j : Nat) (h : m < T.length) (hj : j < 2) : (T.flatMap fun e => [Value.int .u8 e.1, Value.bool e.2])[m * 2 + j]? = ([Value.int .u8 T[m].1, Value.bool T[m].2])[j]? := by
  induction T generalizing m with
  | nil => simp at h
  | cons x r ih =>
    rw [List.flatMap_cons]
    match m with
    | 0 => rw [List.getElem?_append_left (by simp; omega)]; simp
    | m + 1 =>
      rw [List.getElem?_append_right (by simp; omega), show (m + 1) * 2 + j - [Value.int .u8 x.1, Value.bool x.2].length = m * 2 + j by simp; omega]
      exact ih m (by simpa using h)
theorem tcells_at {T : Tab} {m : Nat} {e : Int × Bool} (h : T[m]? = some e) : (tcells T)[m * 2]? = some (.int .u8 e.1) ∧ (tcells T)[m * 2 + 1]? = some (.bool e.2) := by
  have hm : m < T.length := by
    rcases Nat.lt_or_ge m T.length with h' | h'
    · exact h'
    · rw [List.getElem?_eq_none h'] at h; cases h
  have he : T[m] = e := by rw [List.getElem?_eq_getElem hm] at h; exact Option.some.inj h
  have a := flat2_at T m 0 hm (by omega)
  have b := flat2_at T m 1 hm (by omega)
  rw [he] at a b
  unfold tcells
  rw [List.getElem?_toArray, List.getElem?_toArray]
  exact ⟨a, b⟩
theorem tcells_one (T : Tab) : (tcells T).all (·.oneCell') = true := by
  unfold tcells
  rw [Array.all_eq_true_iff_forall_mem]
  intro v hv
  rw [List.mem_toArray, List.mem_flatMap] at hv
  obtain ⟨e, _, hv⟩ := hv
  simp at hv
  rcases hv with rfl | rfl <;> rfl
theorem tcells_set (T : Tab) (m : Nat) (z : Int) (b : Bool) (h : m < T.length) : ((tcells T).setIfInBounds (m * 2) (.int .u8 z)).setIfInBounds (m * 2 + 1) (.bool b) = tcells (T.set m (z, b)) := by
  apply Array.ext_getElem?
  intro i
  have hs := tcells_size T
  have hs' := tcells_size (T.set m (z, b))
  rw [List.length_set] at hs'
  rw [Array.getElem?_setIfInBounds, Array.getElem?_setIfInBounds]
  by_cases hi : i < T.length * 2
  · obtain ⟨q, j, rfl, hj⟩ : ∃ q j, i = q * 2 + j ∧ j < 2 := ⟨i / 2, i % 2, by omega, by omega⟩
    have hq : q < T.length := by omega
    have e1 := tcells_at (List.getElem?_eq_getElem hq)
    have e2 := tcells_at (T := T.set m (z, b)) (List.getElem?_eq_getElem (show q < (T.set m (z, b)).length by simpa using hq))
    rw [List.getElem_set] at e2
    by_cases hqm : m = q
    · subst hqm
      simp only [if_true] at e2
      rcases (show j = 0 ∨ j = 1 by omega) with rfl | rfl
      · rw [if_neg (by omega), if_pos (by omega), if_pos (by rw [hs]; omega)]
        exact e2.1.symm
      · rw [if_pos rfl, if_pos (by rw [Array.size_setIfInBounds, hs]; omega)]
        exact e2.2.symm
    · rw [if_neg hqm] at e2
      rw [if_neg (by omega), if_neg (by omega)]
      rcases (show j = 0 ∨ j = 1 by omega) with rfl | rfl
      · exact e1.1.trans e2.1.symm
      · exact e1.2.trans e2.2.symm
  · rw [if_neg (by omega), if_neg (by omega), Array.getElem?_eq_none (by omega), Array.getElem?_eq_none (by omega)]

/-- a table says what pieces say -/
structure Says (L : List PB) (T : Tab) : Prop where
  len : T.length = 128
  true_ : ∀ (m : Nat) e, T[m]? = some e → e.2 = true → ∃ x ∈ L, hasB x m = true ∧ e.1 = byteAt x m
  all : ∀ (m : Nat) e, T[m]? = some e → (∃ x ∈ L, hasB x m = true) → e.2 = true
theorem says_no : Says [] noTab := by
  refine ⟨by simp [noTab], fun m e h he => ?_, fun m e h ⟨x, hx, _⟩ => by cases hx⟩
  unfold noTab at h
  rw [List.getElem?_replicate] at h
  split at h
  · obtain rfl := Option.some.inj h
    cases he
  · cases h
theorem has_take {x : PB} {i : Nat} (hi : i ≤ x.2.length) (m : Int) : hasB (x.1, x.2.take i) m = true ↔ x.1.off ≤ m ∧ m < x.1.off + i := by
  unfold hasB endOf
  simp only [List.length_take, Nat.min_eq_left hi]
  simp
theorem byte_take {x : PB} {i : Nat} {m : Int} (h0 : x.1.off ≤ m) (h : m < x.1.off + i) : byteAt (x.1, x.2.take i) m = byteAt x m := by
  unfold byteAt
  simp only [List.getD, List.getElem?_take]
  rw [if_pos (by omega)]
/-- the pieces ahead of one, and the beginning of that one -/
def upTo (L : List PB) (k i : Nat) (x : PB) : List PB := L.take k ++ [(x.1, x.2.take i)]
theorem says_begin {L : List PB} {k : Nat} {x : PB} {T : Tab} (h : Says (L.take k) T) : Says (upTo L k 0 x) T := by
  refine ⟨h.len, fun m e he hb => ?_, fun m e he ⟨y, hy, hm⟩ => ?_⟩
  · obtain ⟨y, hy, r⟩ := h.true_ m e he hb
    exact ⟨y, List.mem_append_left _ hy, r⟩
  · rcases List.mem_append.1 hy with hy | hy
    · exact h.all m e he ⟨y, hy, hm⟩
    · obtain rfl := List.mem_singleton.1 hy
      have := (has_take (x := x) (i := 0) (by omega) m).1 hm
      omega
theorem says_end {L : List PB} {k : Nat} {x : PB} {T : Tab} (hx : L[k]? = some x) (h : Says (upTo L k x.2.length x) T) : Says (L.take (k + 1)) T := by
  have e : upTo L k x.2.length x = L.take (k + 1) := by
    unfold upTo
    rw [List.take_length, List.take_add_one, hx]
    rfl
  rw [e] at h
  exact h
theorem says_step {L : List PB} {k i n : Nat} {x : PB} {T : Tab} {z : Int} (h : Says (upTo L k i x) T) (hi : i < x.2.length) (hz : x.2[i]? = some z) (hn : x.1.off + (i : Int) = (n : Int)) (h128 : n < 128) : Says (upTo L k (i + 1) x) (T.set n (z, true)) := by
  have hb : byteAt x n = z := by
    unfold byteAt
    rw [show ((n : Int) - x.1.off).toNat = i by omega]
    simp [List.getD, hz]
  refine ⟨by rw [List.length_set]; exact h.len, fun m e he hb' => ?_, fun m e he ⟨y, hy, hm⟩ => ?_⟩
  · rw [List.getElem?_set] at he
    by_cases hnm : n = m
    · subst hnm
      rw [if_pos rfl, if_pos (by rw [h.len]; exact h128)] at he
      obtain rfl := Option.some.inj he
      refine ⟨(x.1, x.2.take (i + 1)), List.mem_append_right _ (List.mem_singleton.2 rfl), (has_take (by omega) _).2 ⟨by omega, by omega⟩, ?_⟩
      rw [byte_take (by omega) (by omega), hb]
    · rw [if_neg hnm] at he
      obtain ⟨y, hy, r1, r2⟩ := h.true_ m e he hb'
      rcases List.mem_append.1 hy with hy | hy
      · exact ⟨y, List.mem_append_left _ hy, r1, r2⟩
      · obtain rfl := List.mem_singleton.1 hy
        have := (has_take (x := x) (i := i) (by omega) m).1 r1
        refine ⟨(x.1, x.2.take (i + 1)), List.mem_append_right _ (List.mem_singleton.2 rfl), (has_take (by omega) _).2 ⟨by omega, by omega⟩, ?_⟩
        rw [byte_take (by omega) (by omega)] at r2
        rw [byte_take (by omega) (by omega)]
        exact r2
  · rw [List.getElem?_set] at he
    by_cases hnm : n = m
    · subst hnm
      rw [if_pos rfl, if_pos (by rw [h.len]; exact h128)] at he
      obtain rfl := Option.some.inj he
      rfl
    · rw [if_neg hnm] at he
      rcases List.mem_append.1 hy with hy | hy
      · exact h.all m e he ⟨y, List.mem_append_left _ hy, hm⟩
      · obtain rfl := List.mem_singleton.1 hy
        have := (has_take (x := x) (i := i + 1) (by omega) m).1 hm
        exact h.all m e he ⟨(x.1, x.2.take i), List.mem_append_right _ (List.mem_singleton.2 rfl), (has_take (by omega) _).2 ⟨by omega, by omega⟩⟩
/-- all places ahead of the end are known -/
def knownB (T : Tab) (n : Nat) : Bool := (T.take n).all (·.2)
def valsT (T : Tab) (n : Nat) : List Int := (T.take n).map (·.1)
theorem known_bytes {L : List PB} {T : Tab} (h : Says L T) (hd : disagreeL L = false) : ∀ n, n ≤ 128 → bytesL L n = if knownB T n = true then some (valsT T n) else none := by
  intro n
  induction n with
  | zero => intro _; simp [bytesL, knownB, valsT]
  | succ n ih =>
    intro hn
    have hl : n < T.length := by rw [h.len]; omega
    obtain ⟨e, he⟩ : ∃ e, T[n]? = some e := ⟨_, List.getElem?_eq_getElem hl⟩
    have hk : knownB T (n + 1) = (knownB T n && e.2) := by
      unfold knownB
      rw [List.take_add_one, he, List.all_append]
      simp
    have hv : valsT T (n + 1) = valsT T n ++ [e.1] := by
      unfold valsT
      rw [List.take_add_one, he, List.map_append]
      rfl
    rw [bytesL, ih (by omega), hk, hv]
    cases hkn : knownB T n with
    | false => simp
    | true =>
      cases hf : L.find? (fun x => hasB x n) with
      | none =>
        have hne : e.2 = false := by
          cases h2 : e.2 with
          | false => rfl
          | true =>
            obtain ⟨x, hx, hh, _⟩ := h.true_ n e he h2
            exact absurd hh (by simpa using List.find?_eq_none.1 hf x hx)
        simp [hne]
      | some x =>
        have hx := List.mem_of_find?_eq_some hf
        have hh : hasB x n = true := by have := List.find?_some hf; simpa using this
        have h2 := h.all n e he ⟨x, hx, hh⟩
        obtain ⟨y, hy, hhy, hb⟩ := h.true_ n e he h2
        have := bytes_eq (agree_of hd hx hy) hh hhy
        simp [h2, hb, this]
end Go.Proofs.Ytjbkgmbakjnlhaa
