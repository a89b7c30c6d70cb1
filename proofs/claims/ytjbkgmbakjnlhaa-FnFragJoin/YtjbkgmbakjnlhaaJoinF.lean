/- The program's anyDisagree. -/
import Derived.Test.YtjbkgmbakjnlhaaJoinC
import Derived.Deep.LoopGhost
namespace Go.Proofs.Ytjbkgmbakjnlhaa
open Go.RowKit

/-- no two of the first so many disagree -/
def Calm (xs : List RV) (i : Nat) : Prop := ∀ a b x y, a < i → b < a → xs[a]? = some x → xs[b]? = some y → disB x.key y.key = false
/-- the one at a place disagrees with none of the first so many -/
def CalmAt (xs : List RV) (i j : Nat) : Prop := ∀ b x y, b < j → xs[i]? = some x → xs[b]? = some y → disB x.key y.key = false
theorem Calm.succ {xs : List RV} {i : Nat} (h : Calm xs i) (h2 : CalmAt xs i i) : Calm xs (i + 1) := by
  intro a b x y ha hb hx hy
  rcases Nat.lt_or_ge a i with h' | h'
  · exact h a b x y h' hb hx hy
  · obtain rfl : a = i := by omega
    exact h2 b x y hb hx hy
theorem CalmAt.succ {xs : List RV} {i j : Nat} {x y : RV} (h : CalmAt xs i j) (hx : xs[i]? = some x) (hy : xs[j]? = some y) (hd : disB x.key y.key = false) : CalmAt xs i (j + 1) := by
  intro b x' y' hb hx' hy'
  rcases Nat.lt_or_ge b j with h' | h'
  · exact h b x' y' h' hx' hy'
  · obtain rfl : b = j := by omega
    rw [hx] at hx'
    rw [hy] at hy'
    obtain rfl := Option.some.inj hx'
    obtain rfl := Option.some.inj hy'
    exact hd
theorem get_key {xs : List RV} {k : Nat} {y : PB} (h : (xs.map RV.key)[k]? = some y) : ∃ x, xs[k]? = some x ∧ x.key = y := by
  rw [List.getElem?_map] at h
  cases hx : xs[k]? with
  | none => rw [hx] at h; cases h
  | some z => rw [hx] at h; exact ⟨z, rfl, Option.some.inj h⟩
theorem keys_ok {w : World} {xs : List RV} (h : ∀ x ∈ xs, ROk w x) : ∀ x ∈ xs.map RV.key, BytesOk x := by
  intro y hy
  obtain ⟨x, hx, rfl⟩ := List.mem_map.1 hy
  exact (h x hx).byte
theorem calm_all {w : World} {xs : List RV} (h : Calm xs xs.length) (hb : ∀ x ∈ xs, ROk w x) : disagreeL (xs.map RV.key) = false := by
  rw [← Bool.not_eq_true, disagree_pairs (keys_ok hb)]
  rintro ⟨i, j, x, y, hij, hx, hy, hd⟩
  obtain ⟨x', hx', rfl⟩ := get_key hx
  obtain ⟨y', hy', rfl⟩ := get_key hy
  have hi : i < xs.length := by
    rcases Nat.lt_or_ge i xs.length with h' | h'
    · exact h'
    · rw [List.getElem?_eq_none h'] at hx'; cases hx'
  rw [h i j x' y' hi hij hx' hy'] at hd
  cases hd
theorem not_calm {w : World} {xs : List RV} {i j : Nat} {x y : RV} (hij : j < i) (hx : xs[i]? = some x) (hy : xs[j]? = some y) (hd : disB x.key y.key = true) (hb : ∀ x ∈ xs, ROk w x) : disagreeL (xs.map RV.key) = true :=
  (disagree_pairs (keys_ok hb)).2 ⟨i, j, x.key, y.key, hij, map_get hx, map_get hy, hd⟩

set_option maxRecDepth 100000 in
set_option maxHeartbeats 3200000 in
theorem anyDisagree_any (g cl : Nat) (xs : List RV) (w : World) (hL : RL w g xs) (hm : xs.length ≤ 40) (ho : ∀ x ∈ xs, okB x.p x.zs.length = true) :
    Calls Try.prog 39 #[.slice (some ⟨g, 0, none⟩) xs.length cl] w fun e w' => e = .returned (.bool (disagreeL (xs.map RV.key))) ∧ Below w.heap.size w w' := by
  have hmf : ∀ (fn : Fn) (first cap : Array Value) (w : World), (Instr.makeFunc fn first cap).run Try.prog w = .ok (.func fn first cap) w := fun _ _ _ _ => rfl
  have HL : Hid (RL w g xs) := hL
  have HO : Hid (∀ x ∈ xs, okB x.p x.zs.length = true) := ho
  have HE : Hid (∀ x ∈ xs, ROk w x) := hL.each
  clear hL ho
  go_enter Try.func39, Try.ntmps39
  go_wp2
  go_step3
  go_wp2
  go_step3
  go_wp2
  go_loopg [3, 10] xs.length (fun gk f i wr => ∃ k : Nat, k + gk = xs.length ∧ f = .bool false ∧ i = .int .i64 k ∧ Hid (Calm xs k) ∧ Hid (Below (w.heap.size + 1) (w.alloc (.cells #[.slice (some ⟨g, 0, none⟩) xs.length cl] 25)) wr))
  case atStart => exact ⟨0, by omega, rfl, rfl, fun a b x y h => by omega, Below.refl _ _⟩
  case round =>
    obtain ⟨k, hk, rfl, rfl, HC, HB⟩ := hrel
    have hsz : w.heap.size + 1 ≤ wr.heap.size := Nat.le_trans (by simp) HB.out.size
    have B0 : Hid (Below w.heap.size w wr) := (Joins.below_alloc1 _ _).trans (HB.out.mono (by omega))
    cases gk with
    | zero =>
      have hz : ¬ ((k : Int) < (xs.length : Int)) := by omega
      go_wp2
      try rw [Exit.noGoto_ret]
      go_ret
      have ek : k = xs.length := by omega
      subst ek
      exact ⟨ret_bool (calm_all HC.out HE.out).symm, B0.out⟩
    | succ gk =>
      have hlt : k < xs.length := by omega
      have hi : (k : Int) < (xs.length : Int) := by omega
      obtain ⟨x, hx⟩ := get_of_lt hlt
      have HX : Hid (xs[k]? = some x) := hx
      clear hx B0
      go_wp2
      go_loopg [3, 14] k (fun gj f j wq => ∃ m : Nat, m + gj = k ∧ f = .bool false ∧ j = .int .i64 m ∧ Hid (CalmAt xs k m) ∧ Hid (Below (w.heap.size + 1) (w.alloc (.cells #[.slice (some ⟨g, 0, none⟩) xs.length cl] 25)) wq))
      case atStart => exact ⟨0, by omega, rfl, rfl, fun b x y h => by omega, HB.out⟩
      case round =>
        obtain ⟨m, hmk, rfl, rfl, HM, HQ⟩ := hrel
        cases gk with
        | zero =>
          have hz : ¬ ((m : Int) < (k : Int)) := by omega
          go_wp2
          have em : m = k := by omega
          subst em
          go_roundg gk
          case measure => omega
          case rel => exact ⟨m + 1, by omega, rfl, by go_num, HC.out.succ HM.out, HQ.out⟩
        | succ gj =>
          have hmk' : (m : Int) < (k : Int) := by omega
          obtain ⟨y, hy⟩ := get_of_lt (show m < xs.length by omega)
          have HY : Hid (xs[m]? = some y) := hy
          clear hy
          have hsq : w.heap.size + 1 ≤ wr.heap.size := Nat.le_trans (by simp) HQ.out.size
          have BQ : Hid (Below w.heap.size w wr) := (Joins.below_alloc1 _ _).trans (HQ.out.mono (by omega))
          have cb : wr.cell? ⟨w.heap.size, 0, none⟩ = some (.slice (some ⟨g, 0, none⟩) xs.length cl) := by
            rw [HQ.out.cell (p := ⟨w.heap.size, 0, none⟩) (by simp), World.cell?_alloc_at _ _ _ _ rfl]
            rfl
          have CL : Hid (Calls Try.prog 68 #[.int .i64 k, .int .i64 m, .pointer (some ⟨w.heap.size, 0, none⟩)] wr fun e w' => e = .returned (.bool (disB x.key y.key)) ∧ Below wr.heap.size wr w') :=
            closure_any w.heap.size g xs.length cl k m xs x y wr rfl (HL.out.below BQ.out) HX.out HY.out cb (by omega) (HO.out x (List.mem_of_getElem? HX.out)) (HO.out y (List.mem_of_getElem? HY.out)) hlt (by omega) hm
          clear cb
          cases hd : disB x.key y.key
          · go_wp2_with (go_at_call 68; refine CL.out.mono ?_; rw [hd]; rintro e w1 ⟨rfl, b1⟩)
            go_roundg gj
            case measure => omega
            case rel => exact ⟨m + 1, by omega, rfl, by go_num, HM.out.succ HX.out HY.out hd, HQ.out.trans (b1.mono hsq)⟩
          · have HD : Hid (disagreeL (xs.map RV.key) = true) := not_calm (show m < k by omega) HX.out HY.out hd HE.out
            go_wp2_with (go_at_call 68; refine CL.out.mono ?_; rw [hd]; rintro e w1 ⟨rfl, b1⟩)
            try rw [Exit.noGoto_ret]
            go_ret
            exact ⟨ret_bool HD.out.symm, BQ.out.trans (b1.mono (by omega))⟩
end Go.Proofs.Ytjbkgmbakjnlhaa
