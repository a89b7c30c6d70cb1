/- The program's toldEnd. -/
import Derived.Test.YtjbkgmbakjnlhaaJoinA
namespace Go.Proofs.Ytjbkgmbakjnlhaa
open Go.RowKit

/-- the end as a number and a mark -/
def toldI (L : List PB) : Int := match endL L with | some e => e | none => 0
def toldB (L : List PB) : Bool := (endL L).isSome
theorem endL_at {L : List PB} {k : Nat} {x : PB} (hx : L[k]? = some x) (hm : x.1.more = false) (h : ∀ j y, j < k → L[j]? = some y → y.1.more = true) : endL L = some (endOf x) := by
  induction L generalizing k with
  | nil => simp at hx
  | cons z r ih =>
    unfold endL
    match k with
    | 0 =>
      simp at hx
      subst hx
      simp [List.find?, hm]
    | k + 1 =>
      have hz := h 0 z (by omega) rfl
      simp at hx
      have := ih hx (fun j y hj hy => h (j + 1) y (by omega) (by simpa using hy))
      unfold endL at this
      simp [List.find?, hz]
      simpa using this
theorem endL_none {L : List PB} (h : ∀ (j : Nat) y, L[j]? = some y → y.1.more = true) : endL L = none := by
  unfold endL
  rw [List.find?_eq_none.2]
  · rfl
  · intro y hy
    obtain ⟨j, hj⟩ := List.getElem?_of_mem hy
    simp [h j y hj]

set_option maxRecDepth 100000 in
set_option maxHeartbeats 3200000 in
theorem toldEnd_any (g cl : Nat) (xs : List RV) (w : World) (hL : RL w g xs) (hm : xs.length ≤ 40) (ho : ∀ x ∈ xs, 0 ≤ x.p.off ∧ x.p.off ≤ 128) :
    Calls Try.prog 40 #[.slice (some ⟨g, 0, none⟩) xs.length cl] w fun e w' => e = .returned (.tuple #[.int .i64 (toldI (xs.map RV.key)), .bool (toldB (xs.map RV.key))]) ∧ Below w.heap.size w w' := by
  have HL : Hid (RL w g xs) := hL
  have HO : Hid (∀ x ∈ xs, 0 ≤ x.p.off ∧ x.p.off ≤ 128) := ho
  clear hL ho
  go_enter Try.func40, Try.ntmps40
  go_wp2
  go_loopw [8] (fun i wr => ∃ k : Nat, k ≤ xs.length ∧ i = .int .i64 k ∧ Hid (∀ j x, j < k → xs[j]? = some x → x.p.more = true) ∧ Hid (Below w.heap.size w wr)) (fun i _ => xs.length - (intOf i).toNat)
  case atStart => exact ⟨0, by omega, rfl, fun j x hj => by omega, Below.refl _ _⟩
  case round =>
    obtain ⟨k, hk, rfl, HC, HB⟩ := hrel
    have hsz := HB.out.size
    by_cases hlt : k < xs.length
    · obtain ⟨x, hx⟩ := get_of_lt hlt
      have HX : Hid (xs[k]? = some x) := hx
      have Lr := HL.out.below HB.out
      have hxm := List.mem_of_getElem? hx
      have hp := (Lr.each x hxm).len
      have hgr := Lr.lt
      have Hk := Lr.elem k x hx
      have hi : (k : Int) < (xs.length : Int) := by omega
      obtain ⟨o0, o1⟩ := HO.out x hxm
      obtain ⟨p, a, c, zs⟩ := x
      obtain ⟨s2, d2, k2, i2, h2, w2, o2, m2⟩ := p
      clear hx Lr hxm
      obtain ⟨c0, c1, c2, c3, c4, c5, c6, c7, c8⟩ := Hk
      cases m2
      · go_wp2_with (go_at_call 71; refine (endOf_any ⟨s2, d2, k2, i2, h2, w2, o2, false⟩ a zs.length c _ o0 o1 hp).mono ?_; rintro e w1 ⟨rfl, b1⟩)
        have HE : Hid (endL (xs.map RV.key) = some (o2 + (zs.length : Int))) := by
          refine endL_at (k := k) (map_get HX.out) rfl fun j y hj hy => ?_
          rw [List.getElem?_map] at hy
          cases hxj : xs[j]? with
          | none => rw [hxj] at hy; cases hy
          | some z =>
            rw [hxj] at hy
            obtain rfl := Option.some.inj hy
            exact HC.out j z hj hxj
        go_ret2
        refine ⟨?_, ?_⟩
        · unfold toldI toldB
          rw [HE.out]
          rfl
        · exact (HB.out.alloc hsz _).trans (b1.mono (by simp; omega))
      · go_wp2
        go_roundw
        case rel =>
          refine ⟨k + 1, by omega, by go_num, fun j y hj hy => ?_, HB.out.alloc hsz _⟩
          rcases Nat.lt_or_ge j k with h | h
          · exact HC.out j y h hy
          · obtain rfl : j = k := by omega
            rw [HX.out] at hy
            obtain rfl := Option.some.inj hy
            rfl
        case measure => simp [intOf]; omega
    · go_wp2
      go_ret2
      have ek : k = xs.length := by omega
      subst ek
      have HE : endL (xs.map RV.key) = none := by
        refine endL_none fun j y hy => ?_
        rw [List.getElem?_map] at hy
        cases hxj : xs[j]? with
        | none => rw [hxj] at hy; cases hy
        | some z =>
          rw [hxj] at hy
          obtain rfl := Option.some.inj hy
          refine HC.out j z ?_ hxj
          rcases Nat.lt_or_ge j xs.length with h | h
          · exact h
          · rw [List.getElem?_eq_none h] at hxj; cases hxj
      refine ⟨?_, HB.out⟩
      unfold toldI toldB
      rw [HE]
      rfl
end Go.Proofs.Ytjbkgmbakjnlhaa
