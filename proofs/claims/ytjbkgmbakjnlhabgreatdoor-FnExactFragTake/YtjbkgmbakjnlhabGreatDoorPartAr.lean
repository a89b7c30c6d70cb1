/- slices.Clone, IndexFunc and DeleteFunc over packet keys; the closure of drop. -/
import Derived.Test.YtjbkgmbakjnlhabGreatDoorPartAp
import Derived.Laws.Rows
namespace Go.Proofs.YtjbkgmbakjnlhabGreatDoor
set_option maxRecDepth 100000
open Go.RowKit

theorem key_eq (k k' : K4) : ((k.1 == k'.1) && (k.2.1 == k'.2.1) && (k.2.2.1 == k'.2.2.1) && (k.2.2.2 == k'.2.2.2)) = decide (k = k') := by
  obtain ⟨a, b, c, d⟩ := k
  obtain ⟨a', b', c', d'⟩ := k'
  by_cases h1 : a = a' <;> by_cases h2 : b = b' <;> by_cases h3 : c = c' <;> by_cases h4 : d = d' <;> simp [h1, h2, h3, h4]
set_option maxHeartbeats 1600000 in
theorem drop1_any (k k' : K4) (kb : Nat) (w : World) (h : KeyAt w kb k) : Calls Tryz.prog 89 #[kval k', .pointer (some ⟨kb, 0, none⟩)] w fun e w' => e = .returned (.bool (decide (k' = k))) ∧ Below w.heap.size w w' := by
  obtain ⟨h0, h1, h2, h3⟩ := h
  have lk : kb < w.heap.size := World.block_lt_of_cell? w _ h0
  have hg := eqg51
  have he := eql51
  rw [← key_eq]
  unfold kval
  go_enter Tryz.func89, Tryz.ntmps89
  go_wp2
  go_ret
  exact ⟨rfl, Joins.below_alloc1 _ _⟩
def kflat (ks : List K4) : List Value := ks.flatMap k4cells
theorem kflat_len (ks : List K4) : (kflat ks).length = ks.length * 4 := by
  induction ks with
  | nil => rfl
  | cons x r ih => unfold kflat at *; simp only [List.flatMap_cons, List.length_append, ih, k4cells_len, List.length_cons]; omega
theorem kflat_at : ∀ (ks : List K4) (i j : Nat) (k : K4), ks[i]? = some k → j < 4 → (kflat ks)[i * 4 + j]? = (k4cells k)[j]?
  | [], i, j, y, hi, _ => by simp at hi
  | x :: r, 0, j, y, hi, hj => by
    simp at hi
    subst hi
    unfold kflat
    rw [List.flatMap_cons, Nat.zero_mul, Nat.zero_add, List.getElem?_append_left (by rw [k4cells_len]; exact hj)]
  | x :: r, i + 1, j, y, hi, hj => by
    unfold kflat
    rw [List.flatMap_cons, List.getElem?_append_right (by rw [k4cells_len]; omega), k4cells_len, show (i + 1) * 4 + j - 4 = i * 4 + j by omega]
    exact kflat_at r i j y (by simpa using hi) hj
theorem kflat_set (u : K4) : ∀ (ks : List K4) (i : Nat), i < ks.length → ((((kflat ks).set (i * 4) (.int .i64 u.1)).set (i * 4 + 1) (.int .i64 u.2.1)).set (i * 4 + 2) (.int .i64 u.2.2.1)).set (i * 4 + 3) (.int .i64 u.2.2.2) = kflat (ks.set i u)
  | [], k, h => by simp at h
  | y :: r, 0, _ => by
    unfold kflat
    simp only [Nat.zero_mul, Nat.zero_add, List.set_cons_zero, List.flatMap_cons]
    rfl
  | y :: r, k + 1, h => by
    have ih := kflat_set u r k (by simp at h; omega)
    unfold kflat at *
    rw [List.set_cons_succ, List.flatMap_cons, List.flatMap_cons, ← ih]
    have hl : (k4cells y).length = 4 := rfl
    have e : ∀ (l : List Value) (j : Nat) (x : Value), (k4cells y ++ l).set ((k + 1) * 4 + j) x = k4cells y ++ l.set (k * 4 + j) x := fun l j x => by
      rw [List.set_append_right _ _ (by omega), hl, show (k + 1) * 4 + j - 4 = k * 4 + j by omega]
    have e0 : ∀ (l : List Value) (x : Value), (k4cells y ++ l).set ((k + 1) * 4) x = k4cells y ++ l.set (k * 4) x := fun l x => e l 0 x
    rw [e0, e, e, e]
theorem kflat_one (ks : List K4) : ∀ u ∈ kflat ks, u.oneCell' = true := by
  intro u hu
  obtain ⟨x, _, hx⟩ := List.mem_flatMap.1 hu
  exact k_one x u hx
/-- keys that can be read -/
def KRow (w : World) (g : Nat) (ks : List K4) : Prop := g < w.heap.size ∧ ∀ i k, ks[i]? = some k → w.cell? ⟨g, i * 4, none⟩ = some (.int .i64 k.1) ∧ w.cell? ⟨g, i * 4 + 1, none⟩ = some (.int .i64 k.2.1) ∧ w.cell? ⟨g, i * 4 + 2, none⟩ = some (.int .i64 k.2.2.1) ∧ w.cell? ⟨g, i * 4 + 3, none⟩ = some (.int .i64 k.2.2.2)
theorem KRow.below {w w' : World} {g : Nat} {ks : List K4} (h : KRow w g ks) (hb : Below w.heap.size w w') : KRow w' g ks := by
  refine ⟨Nat.lt_of_lt_of_le h.1 hb.size, fun i k hk => ?_⟩
  have e : ∀ o, w'.cell? ⟨g, o, none⟩ = w.cell? ⟨g, o, none⟩ := fun o => hb.cell (p := ⟨g, o, none⟩) h.1
  obtain ⟨a, b, c, d⟩ := h.2 i k hk
  exact ⟨(e _).trans a, (e _).trans b, (e _).trans c, (e _).trans d⟩
theorem KRow.of_own {w : World} {lo n c g : Nat} {ks : List K4} (h : w.ownsRow lo 93 4 (.slice (some ⟨g, 0, none⟩) n c) n (kflat ks)) : KRow w g ks := by
  have hr := RowB.of_own h
  refine ⟨hr.lt, fun i k hk => ?_⟩
  have e : ∀ j v, j < 4 → (k4cells k)[j]? = some v → w.cell? ⟨g, i * 4 + j, none⟩ = some v := fun j v hj hv => hr.cell (by rw [kflat_at ks i j k hk hj]; exact hv)
  exact ⟨e 0 _ (by omega) rfl, e 1 _ (by omega) rfl, e 2 _ (by omega) rfl, e 3 _ (by omega) rfl⟩
/-- the place of a key -/
def placeOf (k : K4) (ks : List K4) : Option Nat := ks.findIdx? (fun x => decide (x = k))

set_option maxRecDepth 100000 in
set_option maxHeartbeats 3200000 in
theorem indexFunc_any (g c kb : Nat) (k : K4) (ks : List K4) (m : Nat) (w : World) (hR : KRow w g ks) (hk : KeyAt w kb k) (hl : ks.length ≤ 1000) (hm : ks[m]? = some k) (hf : ∀ i, i < m → ks[i]? ≠ some k) :
    Calls Tryz.prog 107 #[.slice (some ⟨g, 0, none⟩) ks.length c, .func (.func 89) #[] #[.pointer (some ⟨kb, 0, none⟩)]] w fun e w' => e = .returned (.int .i64 m) ∧ Below w.heap.size w w' := by
  have HR : Hid (KRow w g ks) := hR
  have HK : Hid (KeyAt w kb k) := hk
  have HM : Hid (ks[m]? = some k) := hm
  have HF : Hid (∀ i, i < m → ks[i]? ≠ some k) := hf
  have lm := (List.getElem?_eq_some_iff.1 hm).1
  have lkb : kb < w.heap.size := World.block_lt_of_cell? w _ hk.1
  clear hR hk hm hf
  go_enter Tryz.func107, Tryz.ntmps107
  go_wp2
  go_loopw [8] (fun i wr => ∃ j : Nat, j ≤ m ∧ i = .int .i64 j ∧ Hid (Below w.heap.size w wr)) (fun i _ => m + 1 - (intOf i).toNat)
  case atStart => exact ⟨0, by omega, rfl, Below.refl _ _⟩
  case round =>
    obtain ⟨j, hj, rfl, HB⟩ := hrel
    have hi : (j : Int) < (ks.length : Int) := by omega
    obtain ⟨q, hq⟩ := get_of_lt (show j < ks.length by omega)
    have Rr := HR.out.below HB.out
    obtain ⟨c0, c1, c2, c3⟩ := Rr.2 j q hq
    have lg := Rr.1
    have hsz := HB.out.size
    have KC : Hid (∀ W : World, Below w.heap.size w W → Calls Tryz.prog 89 #[.agg #[.int .i64 q.1, .int .i64 q.2.1, .int .i64 q.2.2.1, .int .i64 q.2.2.2], .pointer (some ⟨kb, 0, none⟩)] W fun e w' => e = .returned (.bool (decide (q = k))) ∧ Below W.heap.size W w') := fun W h => drop1_any k q kb W (HK.out.kept (h.block _ lkb))
    have HQ : Hid (ks[j]? = some q) := hq
    clear hq Rr
    by_cases hjm : j = m
    · have hqk : decide (q = k) = true := by
        have h1 := HQ.out
        rw [hjm, HM.out] at h1
        simp [(Option.some.inj h1).symm]
      rw [hqk] at KC
      have HJM : Hid (j = m) := hjm
      clear hqk hjm
      go_wp2_with fail
      refine (KC.out _ HB.out).mono ?_
      rintro e w1 ⟨rfl, b1⟩
      have B1 : Hid (Below w.heap.size w w1) := HB.out.trans (b1.mono hsz)
      clear b1
      go_wp2
      go_ret
      exact ⟨ret_int (by rw [HJM.out]), B1.out⟩
    · have hqk : decide (q = k) = false := by
        have : q ≠ k := fun e => HF.out j (by omega) (by rw [HQ.out, e])
        simp [this]
      rw [hqk] at KC
      clear hqk
      go_wp2_with fail
      refine (KC.out _ HB.out).mono ?_
      rintro e w1 ⟨rfl, b1⟩
      have B1 : Hid (Below w.heap.size w w1) := HB.out.trans (b1.mono hsz)
      clear b1
      go_wp2
      go_roundw
      case rel => exact ⟨j + 1, by omega, by go_num, B1.out⟩
      case measure => simp [intOf]; omega
end Go.Proofs.YtjbkgmbakjnlhabGreatDoor

/- slices.DeleteFunc and slices.Clone over packet keys. -/
namespace Go.Proofs.YtjbkgmbakjnlhabGreatDoor
set_option maxRecDepth 100000
open Go.RowKit

theorem own_less {w : World} {lo e size n m c g : Nat} {xs : List Value} (h : w.ownsRow lo e size (.slice (some ⟨g, 0, none⟩) n c) n xs) (hm : m ≤ n) : w.ownsRow lo e size (.slice (some ⟨g, 0, none⟩) m c) m (xs.take (m * size)) := by
  have h1 := h.1
  have hmn : m * size ≤ n * size := Nat.mul_le_mul_right _ hm
  rcases h.2 with ⟨hv, _⟩ | ⟨g', cap, cur, hv, hb, hh, hc, hM, hs, ht⟩
  · cases hv
  · cases hv
    refine ⟨by rw [List.length_take, h1]; omega, Or.inr ⟨g, c, cur, rfl, hb, hh, by omega, hM, hs, ?_⟩⟩
    rw [← ht, List.take_take, Nat.min_eq_left hmn]
theorem kflat_take (ks : List K4) (i : Nat) : (kflat ks).take (i * 4) = kflat (ks.take i) := by
  induction ks generalizing i with
  | nil => simp [kflat]
  | cons x r ih =>
    cases i with
    | zero => simp [kflat]
    | succ i =>
      have := ih i
      unfold kflat at *
      rw [List.take_succ_cons, List.flatMap_cons, List.flatMap_cons, List.take_append, k4cells_len, show (i + 1) * 4 - 4 = i * 4 by omega, this, List.take_of_length_le (by rw [k4cells_len]; omega)]
theorem erase_step {ks : List K4} {m j : Nat} {v : K4} (hm : m < j) (hj : ks[j]? = some v) : ((ks.eraseIdx m).take (j - 1) ++ ks.drop (j - 1)).set (j - 1) v = (ks.eraseIdx m).take j ++ ks.drop j := by
  have hl := (List.getElem?_eq_some_iff.1 hj).1
  have he : (ks.eraseIdx m).length = ks.length - 1 := by rw [List.length_eraseIdx, if_pos (by omega)]
  have h1 : ((ks.eraseIdx m).take (j - 1)).length = j - 1 := by rw [List.length_take]; omega
  rw [List.set_append_right _ _ (by omega), h1, Nat.sub_self]
  have h2 : ks.drop (j - 1) = ks[j - 1] :: ks.drop j := by
    rw [List.drop_eq_getElem_cons (by omega)]
    congr 2
    omega
  rw [h2, List.set_cons_zero]
  have h3 : (ks.eraseIdx m).take j = (ks.eraseIdx m).take (j - 1) ++ [v] := by
    have : (ks.eraseIdx m)[j - 1]? = some v := by
      rw [List.getElem?_eraseIdx, if_neg (by omega), show j - 1 + 1 = j by omega]
      exact hj
    rw [show j = j - 1 + 1 by omega, List.take_add_one, this]
    simp
  rw [h3, List.append_assoc]
  rfl
theorem ownS {w : World} {base : Nat} {e : TypeId} {size n c g o : Nat} {xs : List Value} (h : w.ownsRow base e size (.slice (some ⟨g, 0, none⟩) n c) n xs) (u : Value) : (w.setCell ⟨g, o, none⟩ u).ownsRow base e size (.slice (some ⟨g, 0, none⟩) n c) n (xs.set o u) := by
  have h1 := h.1
  rcases h.2 with ⟨hv, _⟩ | ⟨g', cap, cur, hv, hb, hh, hc, hm, hs, ht⟩
  · cases hv
  · cases hv
    refine ⟨by simpa using h1, Or.inr ⟨g, c, cur.setIfInBounds o u, rfl, hb, heap_setCell_same _ _ _ _ _ _ hh, hc, hm, by simpa using hs, ?_⟩⟩
    rw [Array.toList_setIfInBounds, List.take_set, ht]
theorem own_set4 {w : World} {lo n c g i : Nat} {ks : List K4} (h : w.ownsRow lo 93 4 (.slice (some ⟨g, 0, none⟩) n c) n (kflat ks)) (u : K4) (hi : i < ks.length) :
    ((((w.setCell ⟨g, i * 4, none⟩ (.int .i64 u.1)).setCell ⟨g, i * 4 + 1, none⟩ (.int .i64 u.2.1)).setCell ⟨g, i * 4 + 2, none⟩ (.int .i64 u.2.2.1)).setCell ⟨g, i * 4 + 3, none⟩ (.int .i64 u.2.2.2)).ownsRow lo 93 4 (.slice (some ⟨g, 0, none⟩) n c) n (kflat (ks.set i u)) := by
  rw [← kflat_set u ks i hi]
  exact ownS (ownS (ownS (ownS h _) _) _) _
end Go.Proofs.YtjbkgmbakjnlhabGreatDoor

/- slices.DeleteFunc over packet keys. -/
namespace Go.Proofs.YtjbkgmbakjnlhabGreatDoor
set_option maxRecDepth 100000
open Go.RowKit

theorem clear_run {W : World} {g o c' : Nat} {u0 u1 u2 u3 : Value} (ty : TypeId) (h0 : W.cell? ⟨g, o, none⟩ = some u0) (h1 : W.cell? ⟨g, o + 1, none⟩ = some u1) (h2 : W.cell? ⟨g, o + 2, none⟩ = some u2) (h3 : W.cell? ⟨g, o + 3, none⟩ = some u3) (fz : ∀ j, W.frozen? ⟨g, j, none⟩ = false) :
    (Builtin.clear_ #[88] ty #[.slice (some ⟨g, o, none⟩) 1 c']).run Tryz.prog W = .ok (.tuple #[]) ((((W.setCell ⟨g, o, none⟩ (.int .i64 0)).setCell ⟨g, o + 1, none⟩ (.int .i64 0)).setCell ⟨g, o + 2, none⟩ (.int .i64 0)).setCell ⟨g, o + 3, none⟩ (.int .i64 0)) := by
  have hz : (zeroValue 93).run Tryz.prog W = .ok (.agg #[.int .i64 0, .int .i64 0, .int .i64 0, .int .i64 0]) W := by kernel_rfl
  have hc : (Builtin.zeroCells (Value.agg #[.int .i64 0, .int .i64 0, .int .i64 0, .int .i64 0]).cells 1).toList = [.int .i64 0, .int .i64 0, .int .i64 0, .int .i64 0] := by kernel_rfl
  have hs : (storeVar 93 ⟨g, o, none⟩ (.agg #[.int .i64 0, .int .i64 0, .int .i64 0, .int .i64 0])).run Tryz.prog W = .ok () ((((W.setCell ⟨g, o, none⟩ (.int .i64 0)).setCell ⟨g, o + 1, none⟩ (.int .i64 0)).setCell ⟨g, o + 2, none⟩ (.int .i64 0)).setCell ⟨g, o + 3, none⟩ (.int .i64 0)) := by go_simp
  have hv : (storeVar 93 ⟨g, o, none⟩ (.agg #[.int .i64 0, .int .i64 0, .int .i64 0, .int .i64 0])).run Tryz.prog W = (storeCells ⟨g, o, none⟩ [.int .i64 0, .int .i64 0, .int .i64 0, .int .i64 0]).run Tryz.prog W := by kernel_rfl
  rw [hv] at hs
  simp [Builtin.clear_, run_underlying Tryz.underlying88, hz, Result.andThen, hc, hs]
theorem erase_read {ks : List K4} {m j : Nat} (hm : m < j) (hj : j < ks.length) : ((ks.eraseIdx m).take (j - 1) ++ ks.drop (j - 1))[j]? = ks[j]? := by
  have he : (ks.eraseIdx m).length = ks.length - 1 := by rw [List.length_eraseIdx, if_pos (by omega)]
  have h1 : ((ks.eraseIdx m).take (j - 1)).length = j - 1 := by rw [List.length_take]; omega
  rw [List.getElem?_append_right (by omega), h1, List.getElem?_drop]
  congr 1
  omega
theorem erase_len {ks : List K4} {m j : Nat} (hm : m < j) (hj : j ≤ ks.length) : ((ks.eraseIdx m).take (j - 1) ++ ks.drop (j - 1)).length = ks.length := by
  have he : (ks.eraseIdx m).length = ks.length - 1 := by rw [List.length_eraseIdx, if_pos (by omega)]
  rw [List.length_append, List.length_take, List.length_drop]
  omega
theorem heap_far4 (w : World) (g o k : Nat) (h : k ≠ g) (x0 x1 x2 x3 : Value) : ((((w.setCell ⟨g, o, none⟩ x0).setCell ⟨g, o + 1, none⟩ x1).setCell ⟨g, o + 2, none⟩ x2).setCell ⟨g, o + 3, none⟩ x3).heap[k]? = w.heap[k]? :=
  ((Below.heap_setCell _ _ _ _ h).trans ((Below.heap_setCell _ _ _ _ h).trans ((Below.heap_setCell _ _ _ _ h).trans (Below.heap_setCell _ _ _ _ h))))
theorem Only.set4 {P : Nat → Prop} {w w' : World} {g o : Nat} (h : Only P w w') (hg : P g) (x0 x1 x2 x3 : Value) : Only P w ((((w'.setCell ⟨g, o, none⟩ x0).setCell ⟨g, o + 1, none⟩ x1).setCell ⟨g, o + 2, none⟩ x2).setCell ⟨g, o + 3, none⟩ x3) :=
  (((h.set (a := ⟨g, o, none⟩) hg _).set (a := ⟨g, o + 1, none⟩) hg _).set (a := ⟨g, o + 2, none⟩) hg _).set (a := ⟨g, o + 3, none⟩) hg _

set_option maxRecDepth 100000 in
set_option maxHeartbeats 6400000 in
theorem deleteFunc_any (lo g c kb : Nat) (k : K4) (ks : List K4) (m n : Nat) (w : World) (hn : ks.length = n) (hO : w.ownsRow lo 93 4 (.slice (some ⟨g, 0, none⟩) n c) n (kflat ks)) (hk : KeyAt w kb k) (hkg : kb ≠ g) (hl : n ≤ 1000) (hm : ks[m]? = some k) (hf : ∀ i, i ≠ m → ks[i]? ≠ some k) :
    Calls Tryz.prog 88 #[.slice (some ⟨g, 0, none⟩) n c, .func (.func 89) #[] #[.pointer (some ⟨kb, 0, none⟩)]] w fun e w' => e = .returned (.slice (some ⟨g, 0, none⟩) (n - 1) c) ∧ w'.ownsRow lo 93 4 (.slice (some ⟨g, 0, none⟩) (n - 1) c) (n - 1) (kflat (ks.eraseIdx m)) ∧ Only (fun b => b = g) w w' := by
  have hcc := own_caps hO
  have lm := (List.getElem?_eq_some_iff.1 hm).1
  rw [hn] at lm
  have lkb : kb < w.heap.size := World.block_lt_of_cell? w _ hk.1
  have lg : g < w.heap.size := (own_lt hO g rfl).2
  have HN : Hid (ks.length = n) := hn
  have H0 : Hid (w.ownsRow lo 93 4 (.slice (some ⟨g, 0, none⟩) n c) n (kflat ks)) := hO
  have HK : Hid (KeyAt w kb k) := hk
  have HM : Hid (ks[m]? = some k) := hm
  have HF : Hid (∀ i, i ≠ m → ks[i]? ≠ some k) := hf
  have KI : Hid (Calls Tryz.prog 107 #[.slice (some ⟨g, 0, none⟩) n c, .func (.func 89) #[] #[.pointer (some ⟨kb, 0, none⟩)]] w fun e w' => e = .returned (.int .i64 m) ∧ Below w.heap.size w w') := by
    have h := indexFunc_any g c kb k ks m w (KRow.of_own hO) hk (by omega) hm (fun i hi => hf i (by omega))
    rw [hn] at h
    exact h
  clear hO hk hm hf hn
  go_enter Tryz.func88, Tryz.ntmps88
  go_wp2_with fail
  refine KI.out.mono ?_
  rintro e w1 ⟨rfl, b1⟩
  clear KI
  have O1 : Hid (w1.ownsRow lo 93 4 (.slice (some ⟨g, 0, none⟩) n c) n (kflat ((ks.eraseIdx m).take m ++ ks.drop m))) := (by
    rw [show (ks.eraseIdx m).take m ++ ks.drop m = ks by
      rw [List.eraseIdx_eq_take_drop_succ, List.take_append_of_le_length (by rw [List.length_take]; have := HN.out; omega), List.take_take, Nat.min_self, List.take_append_drop]]
    exact own_below H0.out b1)
  have W1 : Hid (Only (fun b => b = g) w w1) := Only.of_below b1
  have hm1 : ((m : Int) == -1) = false := by rw [beq_eq_false_iff_ne]; omega
  clear b1 H0
  go_wp2
  go_loopw [5, 6] (fun vi vj wr => ∃ j : Nat, m < j ∧ j ≤ n ∧ vj = .int .i64 j ∧ vi = .int .i64 ((j - 1 : Nat) : Int) ∧ Hid (wr.ownsRow lo 93 4 (.slice (some ⟨g, 0, none⟩) n c) n (kflat ((ks.eraseIdx m).take (j - 1) ++ ks.drop (j - 1)))) ∧ Hid (Only (fun b => b = g) w wr)) (fun _ vj _ => n - (intOf vj).toNat)
  case atStart => exact ⟨m + 1, by omega, by omega, by go_num, by simp, O1.out, W1.out⟩
  case round =>
    obtain ⟨j, hmj, hjn, rfl, rfl, HO, HW⟩ := hrel
    have hsz := HW.out.size
    have lgr : g < wr.heap.size := (own_lt HO.out g rfl).2
    obtain ⟨i, hij⟩ : ∃ i, j = i + 1 := ⟨j - 1, by omega⟩
    subst hij
    rw [Nat.add_sub_cancel] at HO ⊢
    by_cases hlt : i + 1 < n
    · have hi : ((i + 1 : Nat) : Int) < (n : Int) := by omega
      have hi' : (i : Int) < (n : Int) := by omega
      obtain ⟨q, hq⟩ := get_of_lt (show i + 1 < ks.length by rw [HN.out]; exact hlt)
      have Rr := KRow.of_own HO.out
      have hrd := erase_read (ks := ks) hmj (show i + 1 < ks.length by rw [HN.out]; exact hlt)
      rw [Nat.add_sub_cancel, hq] at hrd
      obtain ⟨c0, c1, c2, c3⟩ := Rr.2 (i + 1) q hrd
      have HQ : Hid (ks[i + 1]? = some q) := hq
      have hqk : decide (q = k) = false := by
        have : q ≠ k := fun e => HF.out (i + 1) (by omega) (by rw [hq, e])
        simp [this]
      have KC : Hid (∀ W : World, (∀ b, b < wr.heap.size → W.heap[b]? = wr.heap[b]?) → Calls Tryz.prog 89 #[.agg #[.int .i64 q.1, .int .i64 q.2.1, .int .i64 q.2.2.1, .int .i64 q.2.2.2], .pointer (some ⟨kb, 0, none⟩)] W fun e w' => e = .returned (.bool false) ∧ Below W.heap.size W w') := fun W h => by
        have h1 := drop1_any k q kb W (HK.out.kept ((h _ (by omega)).trans (HW.out.block _ lkb hkg)))
        rw [hqk] at h1
        exact h1
      clear hq Rr hrd hqk
      go_wp2_with fail
      refine (KC.out _ (fun b hb => Below.heap_alloc _ _ _ hb)).mono ?_
      rintro e w2 ⟨rfl, b2⟩
      have b2' : Below wr.heap.size wr w2 := (Joins.below_alloc1 _ _).trans (b2.mono (by simp))
      have O2 : Hid (w2.ownsRow lo 93 4 (.slice (some ⟨g, 0, none⟩) n c) n (kflat ((ks.eraseIdx m).take i ++ ks.drop i))) := own_below HO.out b2'
      have W2 : Hid (Only (fun b => b = g) w w2) := HW.out.trans (Only.of_below b2')
      have v0 : w2.cell? ⟨wr.heap.size, 0, none⟩ = some (.int .i64 q.1) := (b2.cell (p := ⟨wr.heap.size, 0, none⟩) (by simp)).trans (by go_simp)
      have v1 : w2.cell? ⟨wr.heap.size, 1, none⟩ = some (.int .i64 q.2.1) := (b2.cell (p := ⟨wr.heap.size, 1, none⟩) (by simp)).trans (by go_simp)
      have v2 : w2.cell? ⟨wr.heap.size, 2, none⟩ = some (.int .i64 q.2.2.1) := (b2.cell (p := ⟨wr.heap.size, 2, none⟩) (by simp)).trans (by go_simp)
      have v3 : w2.cell? ⟨wr.heap.size, 3, none⟩ = some (.int .i64 q.2.2.2) := (b2.cell (p := ⟨wr.heap.size, 3, none⟩) (by simp)).trans (by go_simp)
      have fz : ∀ o, w2.frozen? ⟨g, o, none⟩ = false := (RowB.of_own O2.out).unfrozen
      obtain ⟨z, hz⟩ := get_of_lt (show i < ((ks.eraseIdx m).take i ++ ks.drop i).length by
        have := erase_len (ks := ks) hmj (show i + 1 ≤ ks.length by rw [HN.out]; omega)
        rw [Nat.add_sub_cancel] at this
        rw [this, HN.out]; omega)
      obtain ⟨d0, d1, d2, d3⟩ := (KRow.of_own O2.out).2 i z hz
      clear b2 b2' hz KC c0 c1 c2 c3 HO HW
      go_wp2
      go_roundw
      case rel =>
        refine ⟨i + 1 + 1, by omega, by omega, by go_num, by go_num, ?_, Only.set4 W2.out rfl _ _ _ _⟩
        have hll := erase_len (ks := ks) hmj (show i + 1 ≤ ks.length by rw [HN.out]; omega)
        rw [Nat.add_sub_cancel] at hll
        have h1 := own_set4 (i := i) O2.out q (by rw [hll, HN.out]; omega)
        have h2 := erase_step hmj HQ.out
        rw [Nat.add_sub_cancel] at h2
        rw [h2] at h1
        exact h1
      case measure => simp [intOf]; omega
    · obtain rfl : i + 1 = n := by omega
      obtain ⟨z, hz⟩ := get_of_lt (show i < ((ks.eraseIdx m).take i ++ ks.drop i).length by
        have := erase_len (ks := ks) hmj (show i + 1 ≤ ks.length by rw [HN.out]; omega)
        rw [Nat.add_sub_cancel] at this
        rw [this, HN.out]; omega)
      obtain ⟨d0, d1, d2, d3⟩ := (KRow.of_own HO.out).2 i z hz
      have fz : ∀ o, wr.frozen? ⟨g, o, none⟩ = false := (RowB.of_own HO.out).unfrozen
      have hcl := fun ty => clear_run (c' := c - i) ty d0 d1 d2 d3 fz
      have i1 : (i : Int) ≤ ((i + 1 : Nat) : Int) := by omega
      have i2 : ((i + 1 : Nat) : Int) ≤ (c : Int) := by omega
      have i3 : (i : Int) < (c : Int) := by omega
      have i4 : i < c := by omega
      have i5 : ¬ (c = i) := by omega
      have i6 : i + 1 - i = 1 := by omega
      clear hz
      go_wp2
      go_ret
      rw [Nat.add_sub_cancel]
      refine ⟨rfl, ?_, Only.set4 HW.out rfl _ _ _ _⟩
      have hll := erase_len (ks := ks) hmj (show i + 1 ≤ ks.length by rw [HN.out]; omega)
      rw [Nat.add_sub_cancel] at hll
      have h1 := own_less (own_set4 (i := i) HO.out ((0, 0, 0, 0) : K4) (by rw [hll, HN.out]; omega)) (Nat.le_succ i)
      have he : (ks.eraseIdx m).length = i := by rw [List.length_eraseIdx, if_pos (by rw [HN.out]; omega), HN.out]; rfl
      rw [kflat_take, List.take_set_of_le (Nat.le_refl _), List.take_append_of_le_length (by rw [List.length_take, he, Nat.min_self]; exact Nat.le_refl _), List.take_take, Nat.min_self, List.take_of_length_le (by omega)] at h1
      exact h1
end Go.Proofs.YtjbkgmbakjnlhabGreatDoor
