import Derived.Test.YtjbkgmbakjnlhaaGreatDoorPartAk
import Derived.Laws.Rows
namespace Go.Proofs.YtjbkgmbakjnlhaaGreatDoor
set_option maxRecDepth 100000
open Go.RowKit
abbrev SK := List PB × Int × Bool
def AnsV (w : World) (lo : Nat) (oa : Option Addr) (ts : List SV) : Prop := (oa = none ∧ ts = []) ∨ ∃ gS, oa = some ⟨gS, 0, none⟩ ∧ AnsB w lo gS ts
theorem map_len {α β γ : Type} {f : α → γ} {g : β → γ} {l : List α} {l' : List β} (h : l.map f = l'.map g) : l.length = l'.length := by
 have := congrArg List.length h
 simpa using this
theorem key_eq (k k' : K4) : ((k.1 == k'.1) && (k.2.1 == k'.2.1) && (k.2.2.1 == k'.2.2.1) && (k.2.2.2 == k'.2.2.2)) = decide (k = k') := by
 obtain ⟨a, b, c, d⟩ := k
 obtain ⟨a', b', c', d'⟩ := k'
 by_cases h1 : a = a' <;> by_cases h2 : b = b' <;> by_cases h3 : c = c' <;> by_cases h4 : d = d' <;> simp [h1, h2, h3, h4]
set_option maxHeartbeats 1600000 in
theorem drop1_any (k k' : K4) (kb : Nat) (w : World) (h : KeyAt w kb k) : Calls Tryz.prog 92 #[kval k', .pointer (some ⟨kb, 0, none⟩)] w fun e w' => e = .returned (.bool (decide (k' = k))) ∧ Below w.heap.size w w' := by
 obtain ⟨h0, h1, h2, h3⟩ := h
 have lk : kb < w.heap.size := World.block_lt_of_cell? w _ h0
 have hg := eqg51
 have he := eql51
 rw [← key_eq]
 unfold kval
 go_enter Tryz.func92, Tryz.ntmps92
 go_wp2
 go_ret
 exact ⟨rfl, zBa _ _⟩
def kflat (ks : List K4) : List Value := ks.flatMap k4cells
theorem kflat_at : ∀ (ks : List K4) (i j : Nat) (k : K4), ks[i]? = some k → j < 4 → (kflat ks)[i * 4 + j]? = (k4cells k)[j]?
 | [], i, j, y, hi, _ => by simp at hi
 | x :: r, 0, j, y, hi, hj => by
  simp at hi
  subst hi
  unfold kflat
  rw [List.flatMap_cons, Nat.zero_mul, Nat.zero_add, List.getElem?_append_left (by rw [k4cells_len]; exact hj)]
 | x :: r, i + 1, j, y, hi, hj => by
  unfold kflat
  rw [List.flatMap_cons, List.getElem?_append_right (by rw [k4cells_len]; omega), k4cells_len, show (i + 1) * 4 + j - 4 = i * 4 + j by omega]
  exact kflat_at r i j y (by simpa using hi) hj
theorem kflat_set (u : K4) : ∀ (ks : List K4) (i : Nat), i < ks.length → ((((kflat ks).set (i * 4) (.int .i64 u.1)).set (i * 4 + 1) (.int .i64 u.2.1)).set (i * 4 + 2) (.int .i64 u.2.2.1)).set (i * 4 + 3) (.int .i64 u.2.2.2) = kflat (ks.set i u)
 | [], k, h => by simp at h
 | y :: r, 0, _ => by
  unfold kflat
  simp only [Nat.zero_mul, Nat.zero_add, List.set_cons_zero, List.flatMap_cons]
  rfl
 | y :: r, k + 1, h => by
  have ih := kflat_set u r k (by simp at h; omega)
  unfold kflat at *
  rw [List.set_cons_succ, List.flatMap_cons, List.flatMap_cons, ← ih]
  have hl : (k4cells y).length = 4 := rfl
  have e : ∀ (l : List Value) (j : Nat) (x : Value), (k4cells y ++ l).set ((k + 1) * 4 + j) x = k4cells y ++ l.set (k * 4 + j) x := fun l j x => by
   rw [List.set_append_right _ _ (by omega), hl, show (k + 1) * 4 + j - 4 = k * 4 + j by omega]
  have e0 : ∀ (l : List Value) (x : Value), (k4cells y ++ l).set ((k + 1) * 4) x = k4cells y ++ l.set (k * 4) x := fun l x => e l 0 x
  rw [e0, e, e, e]
def KRow (w : World) (g : Nat) (ks : List K4) : Prop := g < w.heap.size ∧ ∀ i k, ks[i]? = some k → w.cell? ⟨g, i * 4, none⟩ = some (.int .i64 k.1) ∧ w.cell? ⟨g, i * 4 + 1, none⟩ = some (.int .i64 k.2.1) ∧ w.cell? ⟨g, i * 4 + 2, none⟩ = some (.int .i64 k.2.2.1) ∧ w.cell? ⟨g, i * 4 + 3, none⟩ = some (.int .i64 k.2.2.2)
theorem KRow.below {w w' : World} {g : Nat} {ks : List K4} (h : KRow w g ks) (hb : Below w.heap.size w w') : KRow w' g ks := by
 refine ⟨Nat.lt_of_lt_of_le h.1 hb.size, fun i k hk => ?_⟩
 have e : ∀ o, w'.cell? ⟨g, o, none⟩ = w.cell? ⟨g, o, none⟩ := fun o => hb.cell (p := ⟨g, o, none⟩) h.1
 obtain ⟨a, b, c, d⟩ := h.2 i k hk
 exact ⟨(e _).trans a, (e _).trans b, (e _).trans c, (e _).trans d⟩
theorem KRow.of_own {w : World} {lo n c g : Nat} {ks : List K4} (h : w.ownsRow lo 103 4 (.slice (some ⟨g, 0, none⟩) n c) n (kflat ks)) : KRow w g ks := by
 have hr := RowB.of_own h
 refine ⟨hr.lt, fun i k hk => ?_⟩
 have e : ∀ j v, j < 4 → (k4cells k)[j]? = some v → w.cell? ⟨g, i * 4 + j, none⟩ = some v := fun j v hj hv => hr.cell (by rw [kflat_at ks i j k hk hj]; exact hv)
 exact ⟨e 0 _ (by omega) rfl, e 1 _ (by omega) rfl, e 2 _ (by omega) rfl, e 3 _ (by omega) rfl⟩
set_option maxHeartbeats 3200000 in
theorem indexFunc_any (g c kb : Nat) (k : K4) (ks : List K4) (m : Nat) (w : World) (hR : KRow w g ks) (hk : KeyAt w kb k) (hl : ks.length ≤ 1000) (hm : ks[m]? = some k) (hf : ∀ i, i < m → ks[i]? ≠ some k) :
  Calls Tryz.prog 107 #[.slice (some ⟨g, 0, none⟩) ks.length c, .func (.func 92) #[] #[.pointer (some ⟨kb, 0, none⟩)]] w fun e w' => e = .returned (.int .i64 m) ∧ Below w.heap.size w w' := by
 have HR : Hid (KRow w g ks) := hR
 have HK : Hid (KeyAt w kb k) := hk
 have HM : Hid (ks[m]? = some k) := hm
 have HF : Hid (∀ i, i < m → ks[i]? ≠ some k) := hf
 have lm := (List.getElem?_eq_some_iff.1 hm).1
 have lkb : kb < w.heap.size := World.block_lt_of_cell? w _ hk.1
 clear hR hk hm hf
 go_enter Tryz.func107, Tryz.ntmps107
 go_wp2
 go_loopw [8] (fun i wr => ∃ j : Nat, j ≤ m ∧ i = .int .i64 j ∧ Hid (Below w.heap.size w wr)) (fun i _ => m + 1 - (intOf i).toNat)
 case atStart => exact ⟨0, by omega, rfl, Below.refl _ _⟩
 case round =>
  obtain ⟨j, hj, rfl, HB⟩ := hrel
  have hi : (j : Int) < (ks.length : Int) := by omega
  obtain ⟨q, hq⟩ := get_of_lt (show j < ks.length by omega)
  have Rr := HR.out.below HB.out
  obtain ⟨c0, c1, c2, c3⟩ := Rr.2 j q hq
  have lg := Rr.1
  have hsz := HB.out.size
  have KC : Hid (∀ W : World, Below w.heap.size w W → Calls Tryz.prog 92 #[.agg #[.int .i64 q.1, .int .i64 q.2.1, .int .i64 q.2.2.1, .int .i64 q.2.2.2], .pointer (some ⟨kb, 0, none⟩)] W fun e w' => e = .returned (.bool (decide (q = k))) ∧ Below W.heap.size W w') := fun W h => drop1_any k q kb W (HK.out.kept (h.block _ lkb))
  have HQ : Hid (ks[j]? = some q) := hq
  clear hq Rr
  by_cases hjm : j = m
  ·have hqk : decide (q = k) = true := by
    have h1 := HQ.out
    rw [hjm, HM.out] at h1
    simp [(Option.some.inj h1).symm]
   rw [hqk] at KC
   have HJM : Hid (j = m) := hjm
   clear hqk hjm
   go_wp2_with fail
   refine (KC.out _ HB.out).mono ?_
   rintro e w1 ⟨rfl, b1⟩
   have B1 : Hid (Below w.heap.size w w1) := HB.out.trans (b1.mono hsz)
   clear b1
   go_wp2
   go_ret
   exact ⟨ret_int (by rw [HJM.out]), B1.out⟩
  ·have hqk : decide (q = k) = false := by
    have : q ≠ k := fun e => HF.out j (by omega) (by rw [HQ.out, e])
    simp [this]
   rw [hqk] at KC
   clear hqk
   go_wp2_with fail
   refine (KC.out _ HB.out).mono ?_
   rintro e w1 ⟨rfl, b1⟩
   have B1 : Hid (Below w.heap.size w w1) := HB.out.trans (b1.mono hsz)
   clear b1
   go_wp2
   go_roundw
   case rel => exact ⟨j + 1, by omega, by go_num, B1.out⟩
   case measure => simp [intOf]; omega
theorem own_less {w : World} {lo e size n m c g : Nat} {xs : List Value} (h : w.ownsRow lo e size (.slice (some ⟨g, 0, none⟩) n c) n xs) (hm : m ≤ n) : w.ownsRow lo e size (.slice (some ⟨g, 0, none⟩) m c) m (xs.take (m * size)) := by
 have h1 := h.1
 have hmn : m * size ≤ n * size := Nat.mul_le_mul_right _ hm
 rcases h.2 with ⟨hv, _⟩ | ⟨g', cap, cur, hv, hb, hh, hc, hM, hs, ht⟩
 ·cases hv
 ·cases hv
  refine ⟨by rw [List.length_take, h1]; omega, Or.inr ⟨g, c, cur, rfl, hb, hh, by omega, hM, hs, ?_⟩⟩
  rw [← ht, List.take_take, Nat.min_eq_left hmn]
theorem kflat_take (ks : List K4) (i : Nat) : (kflat ks).take (i * 4) = kflat (ks.take i) := by
 induction ks generalizing i with
 | nil => simp [kflat]
 | cons x r ih =>
  cases i with
  | zero => simp [kflat]
  | succ i =>
   have := ih i
   unfold kflat at *
   rw [List.take_succ_cons, List.flatMap_cons, List.flatMap_cons, List.take_append, k4cells_len, show (i + 1) * 4 - 4 = i * 4 by omega, this, List.take_of_length_le (by rw [k4cells_len]; omega)]
theorem erase_step {ks : List K4} {m j : Nat} {v : K4} (hm : m < j) (hj : ks[j]? = some v) : ((ks.eraseIdx m).take (j - 1) ++ ks.drop (j - 1)).set (j - 1) v = (ks.eraseIdx m).take j ++ ks.drop j := by
 have hl := (List.getElem?_eq_some_iff.1 hj).1
 have he : (ks.eraseIdx m).length = ks.length - 1 := by rw [List.length_eraseIdx, if_pos (by omega)]
 have h1 : ((ks.eraseIdx m).take (j - 1)).length = j - 1 := by rw [List.length_take]; omega
 rw [List.set_append_right _ _ (by omega), h1, Nat.sub_self]
 have h2 : ks.drop (j - 1) = ks[j - 1] :: ks.drop j := by
  rw [List.drop_eq_getElem_cons (by omega)]
  congr 2
  omega
 rw [h2, List.set_cons_zero]
 have h3 : (ks.eraseIdx m).take j = (ks.eraseIdx m).take (j - 1) ++ [v] := by
  have : (ks.eraseIdx m)[j - 1]? = some v := by
   rw [List.getElem?_eraseIdx, if_neg (by omega), show j - 1 + 1 = j by omega]
   exact hj
  rw [show j = j - 1 + 1 by omega, List.take_add_one, this]
  simp
 rw [h3, List.append_assoc]
 rfl
theorem ownS {w : World} {base : Nat} {e : TypeId} {size n c g o : Nat} {xs : List Value} (h : w.ownsRow base e size (.slice (some ⟨g, 0, none⟩) n c) n xs) (u : Value) : (w.setCell ⟨g, o, none⟩ u).ownsRow base e size (.slice (some ⟨g, 0, none⟩) n c) n (xs.set o u) := by
 have h1 := h.1
 rcases h.2 with ⟨hv, _⟩ | ⟨g', cap, cur, hv, hb, hh, hc, hm, hs, ht⟩
 ·cases hv
 ·cases hv
  refine ⟨by simpa using h1, Or.inr ⟨g, c, cur.setIfInBounds o u, rfl, hb, heap_setCell_same _ _ _ _ _ _ hh, hc, hm, by simpa using hs, ?_⟩⟩
  rw [Array.toList_setIfInBounds, List.take_set, ht]
theorem own_set4 {w : World} {lo n c g i : Nat} {ks : List K4} (h : w.ownsRow lo 103 4 (.slice (some ⟨g, 0, none⟩) n c) n (kflat ks)) (u : K4) (hi : i < ks.length) :
  ((((w.setCell ⟨g, i * 4, none⟩ (.int .i64 u.1)).setCell ⟨g, i * 4 + 1, none⟩ (.int .i64 u.2.1)).setCell ⟨g, i * 4 + 2, none⟩ (.int .i64 u.2.2.1)).setCell ⟨g, i * 4 + 3, none⟩ (.int .i64 u.2.2.2)).ownsRow lo 103 4 (.slice (some ⟨g, 0, none⟩) n c) n (kflat (ks.set i u)) := by
 rw [← kflat_set u ks i hi]
 exact ownS (ownS (ownS (ownS h _) _) _) _
theorem clear_run {W : World} {g o c' : Nat} {u0 u1 u2 u3 : Value} (ty : TypeId) (h0 : W.cell? ⟨g, o, none⟩ = some u0) (h1 : W.cell? ⟨g, o + 1, none⟩ = some u1) (h2 : W.cell? ⟨g, o + 2, none⟩ = some u2) (h3 : W.cell? ⟨g, o + 3, none⟩ = some u3) (fz : ∀ j, W.frozen? ⟨g, j, none⟩ = false) :
  (Builtin.clear_ #[98] ty #[.slice (some ⟨g, o, none⟩) 1 c']).run Tryz.prog W = .ok (.tuple #[]) ((((W.setCell ⟨g, o, none⟩ (.int .i64 0)).setCell ⟨g, o + 1, none⟩ (.int .i64 0)).setCell ⟨g, o + 2, none⟩ (.int .i64 0)).setCell ⟨g, o + 3, none⟩ (.int .i64 0)) := by
 have hz : (zeroValue 103).run Tryz.prog W = .ok (.agg #[.int .i64 0, .int .i64 0, .int .i64 0, .int .i64 0]) W := by kernel_rfl
 have hc : (Builtin.zeroCells (Value.agg #[.int .i64 0, .int .i64 0, .int .i64 0, .int .i64 0]).cells 1).toList = [.int .i64 0, .int .i64 0, .int .i64 0, .int .i64 0] := by kernel_rfl
 have hs : (storeVar 103 ⟨g, o, none⟩ (.agg #[.int .i64 0, .int .i64 0, .int .i64 0, .int .i64 0])).run Tryz.prog W = .ok () ((((W.setCell ⟨g, o, none⟩ (.int .i64 0)).setCell ⟨g, o + 1, none⟩ (.int .i64 0)).setCell ⟨g, o + 2, none⟩ (.int .i64 0)).setCell ⟨g, o + 3, none⟩ (.int .i64 0)) := by go_simp
 have hv : (storeVar 103 ⟨g, o, none⟩ (.agg #[.int .i64 0, .int .i64 0, .int .i64 0, .int .i64 0])).run Tryz.prog W = (storeCells ⟨g, o, none⟩ [.int .i64 0, .int .i64 0, .int .i64 0, .int .i64 0]).run Tryz.prog W := by kernel_rfl
 rw [hv] at hs
 simp [Builtin.clear_, run_underlying Tryz.underlying98, hz, Result.andThen, hc, hs]
theorem erase_read {ks : List K4} {m j : Nat} (hm : m < j) (hj : j < ks.length) : ((ks.eraseIdx m).take (j - 1) ++ ks.drop (j - 1))[j]? = ks[j]? := by
 have he : (ks.eraseIdx m).length = ks.length - 1 := by rw [List.length_eraseIdx, if_pos (by omega)]
 have h1 : ((ks.eraseIdx m).take (j - 1)).length = j - 1 := by rw [List.length_take]; omega
 rw [List.getElem?_append_right (by omega), h1, List.getElem?_drop]
 congr 1
 omega
theorem erase_len {ks : List K4} {m j : Nat} (hm : m < j) (hj : j ≤ ks.length) : ((ks.eraseIdx m).take (j - 1) ++ ks.drop (j - 1)).length = ks.length := by
 have he : (ks.eraseIdx m).length = ks.length - 1 := by rw [List.length_eraseIdx, if_pos (by omega)]
 rw [List.length_append, List.length_take, List.length_drop]
 omega
theorem Only.set4 {P : Nat → Prop} {w w' : World} {g o : Nat} (h : Only P w w') (hg : P g) (x0 x1 x2 x3 : Value) : Only P w ((((w'.setCell ⟨g, o, none⟩ x0).setCell ⟨g, o + 1, none⟩ x1).setCell ⟨g, o + 2, none⟩ x2).setCell ⟨g, o + 3, none⟩ x3) :=
 (((h.set (a := ⟨g, o, none⟩) hg _).set (a := ⟨g, o + 1, none⟩) hg _).set (a := ⟨g, o + 2, none⟩) hg _).set (a := ⟨g, o + 3, none⟩) hg _
set_option maxHeartbeats 6400000 in
theorem deleteFunc_any (lo g c kb : Nat) (k : K4) (ks : List K4) (m n : Nat) (w : World) (hn : ks.length = n) (hO : w.ownsRow lo 103 4 (.slice (some ⟨g, 0, none⟩) n c) n (kflat ks)) (hk : KeyAt w kb k) (hkg : kb ≠ g) (hl : n ≤ 1000) (hm : ks[m]? = some k) (hf : ∀ i, i ≠ m → ks[i]? ≠ some k) :
  Calls Tryz.prog 91 #[.slice (some ⟨g, 0, none⟩) n c, .func (.func 92) #[] #[.pointer (some ⟨kb, 0, none⟩)]] w fun e w' => e = .returned (.slice (some ⟨g, 0, none⟩) (n - 1) c) ∧ w'.ownsRow lo 103 4 (.slice (some ⟨g, 0, none⟩) (n - 1) c) (n - 1) (kflat (ks.eraseIdx m)) ∧ Only (fun b => b = g) w w' := by
 have hcc := own_caps hO
 have lm := (List.getElem?_eq_some_iff.1 hm).1
 rw [hn] at lm
 have lkb : kb < w.heap.size := World.block_lt_of_cell? w _ hk.1
 have lg : g < w.heap.size := (own_lt hO g rfl).2
 have HN : Hid (ks.length = n) := hn
 have H0 : Hid (w.ownsRow lo 103 4 (.slice (some ⟨g, 0, none⟩) n c) n (kflat ks)) := hO
 have HK : Hid (KeyAt w kb k) := hk
 have HM : Hid (ks[m]? = some k) := hm
 have HF : Hid (∀ i, i ≠ m → ks[i]? ≠ some k) := hf
 have KI : Hid (Calls Tryz.prog 107 #[.slice (some ⟨g, 0, none⟩) n c, .func (.func 92) #[] #[.pointer (some ⟨kb, 0, none⟩)]] w fun e w' => e = .returned (.int .i64 m) ∧ Below w.heap.size w w') := by
  have h := indexFunc_any g c kb k ks m w (KRow.of_own hO) hk (by omega) hm (fun i hi => hf i (by omega))
  rw [hn] at h
  exact h
 clear hO hk hm hf hn
 go_enter Tryz.func91, Tryz.ntmps91
 go_wp2_with fail
 refine KI.out.mono ?_
 rintro e w1 ⟨rfl, b1⟩
 clear KI
 have O1 : Hid (w1.ownsRow lo 103 4 (.slice (some ⟨g, 0, none⟩) n c) n (kflat ((ks.eraseIdx m).take m ++ ks.drop m))) := (by
  rw [show (ks.eraseIdx m).take m ++ ks.drop m = ks by
   rw [List.eraseIdx_eq_take_drop_succ, List.take_append_of_le_length (by rw [List.length_take]; have := HN.out; omega), List.take_take, Nat.min_self, List.take_append_drop]]
  exact own_below H0.out b1)
 have W1 : Hid (Only (fun b => b = g) w w1) := Only.of_below b1
 have hm1 : ((m : Int) == -1) = false := by rw [beq_eq_false_iff_ne]; omega
 clear b1 H0
 go_wp2
 go_loopw [5, 6] (fun vi vj wr => ∃ j : Nat, m < j ∧ j ≤ n ∧ vj = .int .i64 j ∧ vi = .int .i64 ((j - 1 : Nat) : Int) ∧ Hid (wr.ownsRow lo 103 4 (.slice (some ⟨g, 0, none⟩) n c) n (kflat ((ks.eraseIdx m).take (j - 1) ++ ks.drop (j - 1)))) ∧ Hid (Only (fun b => b = g) w wr)) (fun _ vj _ => n - (intOf vj).toNat)
 case atStart => exact ⟨m + 1, by omega, by omega, by go_num, by simp, O1.out, W1.out⟩
 case round =>
  obtain ⟨j, hmj, hjn, rfl, rfl, HO, HW⟩ := hrel
  have hsz := HW.out.size
  have lgr : g < wr.heap.size := (own_lt HO.out g rfl).2
  obtain ⟨i, hij⟩ : ∃ i, j = i + 1 := ⟨j - 1, by omega⟩
  subst hij
  rw [Nat.add_sub_cancel] at HO ⊢
  by_cases hlt : i + 1 < n
  ·have hi : ((i + 1 : Nat) : Int) < (n : Int) := by omega
   have hi' : (i : Int) < (n : Int) := by omega
   obtain ⟨q, hq⟩ := get_of_lt (show i + 1 < ks.length by rw [HN.out]; exact hlt)
   have Rr := KRow.of_own HO.out
   have hrd := erase_read (ks := ks) hmj (show i + 1 < ks.length by rw [HN.out]; exact hlt)
   rw [Nat.add_sub_cancel, hq] at hrd
   obtain ⟨c0, c1, c2, c3⟩ := Rr.2 (i + 1) q hrd
   have HQ : Hid (ks[i + 1]? = some q) := hq
   have hqk : decide (q = k) = false := by
    have : q ≠ k := fun e => HF.out (i + 1) (by omega) (by rw [hq, e])
    simp [this]
   have KC : Hid (∀ W : World, (∀ b, b < wr.heap.size → W.heap[b]? = wr.heap[b]?) → Calls Tryz.prog 92 #[.agg #[.int .i64 q.1, .int .i64 q.2.1, .int .i64 q.2.2.1, .int .i64 q.2.2.2], .pointer (some ⟨kb, 0, none⟩)] W fun e w' => e = .returned (.bool false) ∧ Below W.heap.size W w') := fun W h => by
    have h1 := drop1_any k q kb W (HK.out.kept ((h _ (by omega)).trans (HW.out.block _ lkb hkg)))
    rw [hqk] at h1
    exact h1
   clear hq Rr hrd hqk
   go_wp2_with fail
   refine (KC.out _ (fun b hb => zHa hb)).mono ?_
   rintro e w2 ⟨rfl, b2⟩
   have b2' : Below wr.heap.size wr w2 := (zBa _ _).trans (b2.mono (by simp))
   have O2 : Hid (w2.ownsRow lo 103 4 (.slice (some ⟨g, 0, none⟩) n c) n (kflat ((ks.eraseIdx m).take i ++ ks.drop i))) := own_below HO.out b2'
   have W2 : Hid (Only (fun b => b = g) w w2) := HW.out.trans (Only.of_below b2')
   have v0 : w2.cell? ⟨wr.heap.size, 0, none⟩ = some (.int .i64 q.1) := (b2.cell (p := ⟨wr.heap.size, 0, none⟩) (by simp)).trans (by go_simp)
   have v1 : w2.cell? ⟨wr.heap.size, 1, none⟩ = some (.int .i64 q.2.1) := (b2.cell (p := ⟨wr.heap.size, 1, none⟩) (by simp)).trans (by go_simp)
   have v2 : w2.cell? ⟨wr.heap.size, 2, none⟩ = some (.int .i64 q.2.2.1) := (b2.cell (p := ⟨wr.heap.size, 2, none⟩) (by simp)).trans (by go_simp)
   have v3 : w2.cell? ⟨wr.heap.size, 3, none⟩ = some (.int .i64 q.2.2.2) := (b2.cell (p := ⟨wr.heap.size, 3, none⟩) (by simp)).trans (by go_simp)
   have fz : ∀ o, w2.frozen? ⟨g, o, none⟩ = false := (RowB.of_own O2.out).unfrozen
   obtain ⟨z, hz⟩ := get_of_lt (show i < ((ks.eraseIdx m).take i ++ ks.drop i).length by
    have := erase_len (ks := ks) hmj (show i + 1 ≤ ks.length by rw [HN.out]; omega)
    rw [Nat.add_sub_cancel] at this
    rw [this, HN.out]; omega)
   obtain ⟨d0, d1, d2, d3⟩ := (KRow.of_own O2.out).2 i z hz
   clear b2 b2' hz KC c0 c1 c2 c3 HO HW
   go_wp2
   go_roundw
   case rel =>
    refine ⟨i + 1 + 1, by omega, by omega, by go_num, by go_num, ?_, Only.set4 W2.out rfl _ _ _ _⟩
    have hll := erase_len (ks := ks) hmj (show i + 1 ≤ ks.length by rw [HN.out]; omega)
    rw [Nat.add_sub_cancel] at hll
    have h1 := own_set4 (i := i) O2.out q (by rw [hll, HN.out]; omega)
    have h2 := erase_step hmj HQ.out
    rw [Nat.add_sub_cancel] at h2
    rw [h2] at h1
    exact h1
   case measure => simp [intOf]; omega
  ·obtain rfl : i + 1 = n := by omega
   obtain ⟨z, hz⟩ := get_of_lt (show i < ((ks.eraseIdx m).take i ++ ks.drop i).length by
    have := erase_len (ks := ks) hmj (show i + 1 ≤ ks.length by rw [HN.out]; omega)
    rw [Nat.add_sub_cancel] at this
    rw [this, HN.out]; omega)
   obtain ⟨d0, d1, d2, d3⟩ := (KRow.of_own HO.out).2 i z hz
   have fz : ∀ o, wr.frozen? ⟨g, o, none⟩ = false := (RowB.of_own HO.out).unfrozen
   have hcl := fun ty => clear_run (c' := c - i) ty d0 d1 d2 d3 fz
   have i1 : (i : Int) ≤ ((i + 1 : Nat) : Int) := by omega
   have i2 : ((i + 1 : Nat) : Int) ≤ (c : Int) := by omega
   have i3 : (i : Int) < (c : Int) := by omega
   have i4 : i < c := by omega
   have i5 : ¬ (c = i) := by omega
   have i6 : i + 1 - i = 1 := by omega
   clear hz
   go_wp2
   go_ret
   rw [Nat.add_sub_cancel]
   refine ⟨rfl, ?_, Only.set4 HW.out rfl _ _ _ _⟩
   have hll := erase_len (ks := ks) hmj (show i + 1 ≤ ks.length by rw [HN.out]; omega)
   rw [Nat.add_sub_cancel] at hll
   have h1 := own_less (own_set4 (i := i) HO.out ((0, 0, 0, 0) : K4) (by rw [hll, HN.out]; omega)) (Nat.le_succ i)
   have he : (ks.eraseIdx m).length = i := by rw [List.length_eraseIdx, if_pos (by rw [HN.out]; omega), HN.out]; rfl
   rw [kflat_take, List.take_set_of_le (Nat.le_refl _), List.take_append_of_le_length (by rw [List.length_take, he, Nat.min_self]; exact Nat.le_refl _), List.take_take, Nat.min_self, List.take_of_length_le (by omega)] at h1
   exact h1
theorem kflat_map (es : List Ent) : (es.flatMap fun e => k4cells e.k) = kflat (es.map Ent.k) := by
 unfold kflat
 rw [List.flatMap_map]
theorem keyed_place {es : List Ent} {k : K4} {e0 : Ent} (he : e0 ∈ es) (hk : e0.k = k) (hn : (es.map Ent.k).Nodup) : ∃ m, (es.map Ent.k)[m]? = some k ∧ (∀ i, i ≠ m → (es.map Ent.k)[i]? ≠ some k) ∧ (es.map Ent.k).eraseIdx m = (es.filter fun e => decide (e.k ≠ k)).map Ent.k ∧ (es.filter fun e => decide (e.k ≠ k)).length = es.length - 1 := by
 obtain ⟨m, hm⟩ := List.getElem?_of_mem he
 have h1 : (es.map Ent.k)[m]? = some k := by rw [List.getElem?_map, hm]; simp [hk]
 have h2 : ∀ i, i ≠ m → (es.map Ent.k)[i]? ≠ some k := fun i hi h => by
  obtain ⟨l1, e1⟩ := List.getElem?_eq_some_iff.1 h
  obtain ⟨l2, e2⟩ := List.getElem?_eq_some_iff.1 h1
  rcases Nat.lt_or_gt_of_ne hi with hlt | hlt
  ·exact List.pairwise_iff_getElem.1 hn i m l1 l2 hlt (e1.trans e2.symm)
  ·exact List.pairwise_iff_getElem.1 hn m i l2 l1 hlt (e2.trans e1.symm)
 have h3 : es.eraseIdx m = es.filter (fun e => decide (e.k ≠ k)) := by
  have h4 := erase_at (k := k) (L := es.map fun e => (e.k, e.b)) (j := m) (b := e0.b) (by rw [List.getElem?_map, hm]; simp [hk]) (by rw [List.map_map]; exact hn)
  have h5 : ∀ (l : List Ent) (j : Nat), (∀ i e, l[i]? = some e → (e.k = k ↔ i = j)) → l.eraseIdx j = l.filter (fun e => decide (e.k ≠ k)) := by
   intro l
   induction l with
   | nil => intro j _; simp
   | cons x r ih =>
    intro j hj
    cases j with
    | zero =>
     have hx : x.k = k := (hj 0 x rfl).2 rfl
     rw [List.eraseIdx_cons_zero, List.filter_cons, if_neg (by simp [hx])]
     symm
     rw [List.filter_eq_self]
     intro e he
     obtain ⟨i, hi⟩ := List.getElem?_of_mem he
     have := hj (i + 1) e (by simpa using hi)
     simp
     exact fun h => by have := this.1 h; omega
    | succ j =>
     have hx : x.k ≠ k := fun h => by have := (hj 0 x rfl).1 h; omega
     rw [List.eraseIdx_cons_succ, List.filter_cons, if_pos (by simp [hx]), ih j (fun i e he => ?_)]
     have := hj (i + 1) e (by simpa using he)
     exact ⟨fun h => by have := this.1 h; omega, fun h => this.2 (by omega)⟩
  refine h5 es m (fun i e hi => ⟨fun h => ?_, fun h => ?_⟩)
  ·by_cases hi' : i = m
   ·exact hi'
   ·exact absurd (by rw [List.getElem?_map, hi]; simp [h]) (h2 i hi')
  ·subst h
   rw [hm] at hi
   rw [← Option.some.inj hi]
   exact hk
 refine ⟨m, h1, h2, ?_, ?_⟩
 ·rw [← h3, Go.ChangeMaps.map_eraseIdx]
 ·rw [← h3, List.length_eraseIdx, if_pos (List.getElem?_eq_some_iff.1 hm).1]
set_option maxHeartbeats 6400000 in
theorem drop_any (lo ob mb : Nat) (ov : Value) (now : Int) (es : List Ent) (k : K4) (e0 : Ent) (w : World) (h : OpenB w lo ob mb ov now es) (he : e0 ∈ es) (hk : e0.k = k) (hl : es.length ≤ 1000) :
  Calls Tryz.prog 65 #[.pointer (some ⟨ob, 0, none⟩), kval k] w fun e w' => ∃ ov', e = .returned (.tuple #[]) ∧ OpenB w' lo ob mb ov' now (es.filter fun e => decide (e.k ≠ k)) ∧ Only (OPart ob mb ov) w w' ∧ (∀ b, ov'.ownBlock = some b → ov.ownBlock = some b) := by
 obtain ⟨m, hm1, hm2, hm3, hm4⟩ := keyed_place he hk h.keys
 have hpos : 0 < es.length := List.length_pos_of_mem he
 obtain ⟨i0, hi0⟩ := get_of_lt hpos
 obtain ⟨g, c, hov, lg, -⟩ := h.keyCells hi0
 subst hov
 have lb := lt_of_block h.box
 have H0 : Hid (OpenB w lo ob mb (.slice (some ⟨g, 0, none⟩) es.length c) now es) := h
 have x0 : w.cell? ⟨ob, 0, none⟩ = some (.int .i64 now) := zCr h.box
 have x1 : w.cell? ⟨ob, 1, none⟩ = some (.slice (some ⟨g, 0, none⟩) es.length c) := zCr h.box
 have x2 : w.cell? ⟨ob, 2, none⟩ = some (.map (some mb)) := zCr h.box
 have HL4 : Hid ((es.filter fun e => decide (e.k ≠ k)).length = es.length - 1) := hm4
 have gob : ob ≠ g := fun e => by
  obtain ⟨cu, hc⟩ := h.order_at g rfl
  rw [← e, h.box] at hc
  cases hc
 have KD : Hid (∀ W : World, Below w.heap.size w W → KeyAt W w.heap.size k → Calls Tryz.prog 91 #[.slice (some ⟨g, 0, none⟩) es.length c, .func (.func 92) #[] #[.pointer (some ⟨w.heap.size, 0, none⟩)]] W fun e w' => e = .returned (.slice (some ⟨g, 0, none⟩) (es.length - 1) c) ∧ w'.ownsRow lo 103 4 (.slice (some ⟨g, 0, none⟩) (es.length - 1) c) (es.length - 1) (kflat ((es.filter fun e => decide (e.k ≠ k)).map Ent.k)) ∧ Only (fun b => b = g) W w') := fun W hW hkW => by
  have ho := own_below h.order hW
  rw [kflat_map] at ho
  have h1 := deleteFunc_any lo g c w.heap.size k (es.map Ent.k) m es.length W (by simp) ho hkW (by omega) hl hm1 hm2
  rw [hm3] at h1
  exact h1
 clear h hi0 hm1 hm2 hm3 hm4
 unfold kval
 go_enter Tryz.func65, Tryz.ntmps65
 go_wp2_with fail
 refine (KD.out _ (zBa _ _) (KeyAt.of_block (heap_new w _ _ rfl))).mono ?_
 rintro e w1 ⟨rfl, o1, on1⟩
 clear KD
 have hs1 := on1.size
 have kb1 : KeyAt w1 w.heap.size k := (KeyAt.of_block (heap_new w (.cells #[.int .i64 k.1, .int .i64 k.2.1, .int .i64 k.2.2.1, .int .i64 k.2.2.2] 103) _ rfl)).kept (on1.block _ (by simp) (by omega))
 have bk1 : ∀ b, b < w.heap.size → b ≠ g → w1.heap[b]? = w.heap[b]? := fun b hb hn => (on1.block b (by simp; omega) hn).trans (zHa hb)
 have box1 : w1.heap[ob]? = some (.cells #[.int .i64 now, .slice (some ⟨g, 0, none⟩) es.length c, .map (some mb)] 100 (0, 0)) := (bk1 _ lb gob).trans H0.out.box
 have y0 : w1.cell? ⟨ob, 0, none⟩ = some (.int .i64 now) := zCr box1
 have y1 : w1.cell? ⟨ob, 1, none⟩ = some (.slice (some ⟨g, 0, none⟩) es.length c) := zCr box1
 have y2 : w1.cell? ⟨ob, 2, none⟩ = some (.map (some mb)) := zCr box1
 have fz1 : ∀ o, w1.frozen? ⟨ob, o, none⟩ = false := fun o => zUf box1 o
 have o2 := own_kept o1 (w' := w1.setCell ⟨ob, 1, none⟩ (.slice (some ⟨g, 0, none⟩) (es.length - 1) c)) (fun b hb => by cases hb; exact zHs (fun e => gob e.symm))
 have on2 : Only (OPart ob mb (.slice (some ⟨g, 0, none⟩) es.length c)) w (w1.setCell ⟨ob, 1, none⟩ (.slice (some ⟨g, 0, none⟩) (es.length - 1) c)) := Only.set (P := OPart ob mb (.slice (some ⟨g, 0, none⟩) es.length c)) (a := ⟨ob, 1, none⟩) ((Only.of_below (zBa _ _)).trans (on1.mono fun b hb => Or.inr (Or.inr (by rw [hb]; rfl)))) (Or.inl rfl) _
 have bk2 : ∀ b, b < w.heap.size → b ≠ g → b ≠ ob → (w1.setCell ⟨ob, 1, none⟩ (.slice (some ⟨g, 0, none⟩) (es.length - 1) c)).heap[b]? = w.heap[b]? := fun b hb hn hn' => (zHs hn').trans (bk1 b hb hn)
 have kb2 : KeyAt (w1.setCell ⟨ob, 1, none⟩ (.slice (some ⟨g, 0, none⟩) (es.length - 1) c)) w.heap.size k := kb1.kept (zHs (by simp only; omega))
 have box2 : (w1.setCell ⟨ob, 1, none⟩ (.slice (some ⟨g, 0, none⟩) (es.length - 1) c)).heap[ob]? = some (.cells #[.int .i64 now, .slice (some ⟨g, 0, none⟩) (es.length - 1) c, .map (some mb)] 100 (0, 0)) := by rw [set_at box1]; rfl
 go_wp2
 generalize w1.setCell ⟨ob, 1, none⟩ (.slice (some ⟨g, 0, none⟩) (es.length - 1) c) = w2 at o2 on2 bk2 kb2 box2 ⊢
 clear o1 on1 hs1 kb1 bk1 box1 y0 y1 y2 fz1
 have nc : ∀ {b : Nat} {cu : Array Value} {t' : TypeId}, w.heap[b]? = some (.cells cu t' (0, 0)) → t' ≠ 103 → t' ≠ 100 → w2.heap[b]? = w.heap[b]? := fun {b cu t'} hb hn hn' => bk2 b (lt_of_block hb) (fun e => by
  obtain ⟨cu', hc⟩ := H0.out.order_at g rfl
  rw [e, hc] at hb
  cases hb
  exact hn rfl) (fun e => by
  rw [e, H0.out.box] at hb
  cases hb
  exact hn' rfl)
 have mp2 : MapIs w2 mb (es.map fun e => (e.k, e.b)) := H0.out.map_.kept (bk2 mb H0.out.map_.lt (fun e => by
  obtain ⟨cu', hc⟩ := H0.out.order_at g rfl
  exact H0.out.map_.ne_cells hc e) (H0.out.map_.ne_cells H0.out.box))
 obtain ⟨w3, hdel, hm3, hg3⟩ := delete_k4 (w := w2.drew) mp2 (by rw [List.map_map]; exact H0.out.keys) k 0
 have x2' : w2.cell? ⟨ob, 2, none⟩ = some (.map (some mb)) := zCr box2
 have nc3 : ∀ {b : Nat} {cu : Array Value} {t' : TypeId}, w2.heap[b]? = some (.cells cu t' (0, 0)) → w3.heap[b]? = w2.heap[b]? := fun {b cu t'} hb => hg3.block b (lt_of_block hb) (fun e => mp2.ne_cells hb (Option.some.inj e).symm)
 have on3 : Only (OPart ob mb (.slice (some ⟨g, 0, none⟩) es.length c)) w w3 := on2.trans ⟨hg3.os, hg3.tape, hg3.output, hg3.size, fun b hb hn => hg3.block b hb (fun e => hn (Or.inr (Or.inl (Option.some.inj e))))⟩
 have O3 : OpenB w3 lo ob mb (.slice (some ⟨g, 0, none⟩) (es.length - 1) c) now (es.filter fun e => decide (e.k ≠ k)) := by
  have sub : ∀ e ∈ es.filter (fun e => decide (e.k ≠ k)), e ∈ es := fun e he => (List.mem_filter.1 he).1
  refine ⟨(nc3 box2).trans box2, ?_, ?_, ?_, fun e he => ?_, ?_, ?_, H0.out.lob, H0.out.lmb, fun e he => H0.out.lsb e (sub e he)⟩
  ·rw [HL4.out, kflat_map]
   refine own_kept o2 fun b hb => ?_
   cases hb
   rcases o2.2 with ⟨e, _⟩ | ⟨g', cap, cur, e, _, hh, _⟩
   ·cases e
   ·cases e
    exact nc3 hh
  ·rw [List.filter_map] at hm3
   exact hm3
  ·exact H0.out.keys.sublist (List.Sublist.map _ List.filter_sublist)
  ·have hs := (nc (H0.out.slot e (sub e he)) (by decide) (by decide)).trans (H0.out.slot e (sub e he))
   exact (nc3 hs).trans hs
  ·exact H0.out.sbs.sublist (List.Sublist.map _ List.filter_sublist)
  ·refine (H0.out.forest.kept fun b hb => ?_).sub (List.Sublist.map _ List.filter_sublist)
   obtain ⟨_, _, cu, t', hc, ht'⟩ := H0.out.forest.blk b hb
   have h2 : w2.heap[b]? = w.heap[b]? := by
    rcases ht' with rfl | rfl
    ·exact nc hc (by decide) (by decide)
    ·exact nc hc (by decide) (by decide)
   exact (nc3 (h2.trans hc)).trans h2
 have kb3 : KeyAt w3 w.heap.size k ∧ w3.cell? ⟨ob, 2, none⟩ = some (.map (some mb)) := by
  have hlk : w.heap.size < w2.heap.size := World.block_lt_of_cell? w2 _ kb2.1
  refine ⟨kb2.kept (hg3.block _ hlk (fun e => ?_)), ?_⟩
  ·have := H0.out.map_.lt
   have := Option.some.inj e
   omega
  ·exact zCr ((nc3 box2).trans box2)
 have OH : Hid (OpenB w3 lo ob mb (.slice (some ⟨g, 0, none⟩) (es.length - 1) c) now (es.filter fun e => decide (e.k ≠ k))) := O3
 have NH : Hid (Only (OPart ob mb (.slice (some ⟨g, 0, none⟩) es.length c)) w w3) := on3
 have SH : Hid (KeyAt w3 w.heap.size k ∧ w3.cell? ⟨ob, 2, none⟩ = some (.map (some mb))) := kb3
 have S2 : Hid (KeyAt w2 w.heap.size k) := kb2
 unfold kval at hdel
 clear o2 on2 bk2 kb2 box2 nc mp2 nc3 on3 O3 kb3 hm3 hg3 x0 x1 x2
 refine wp_region_held_drew (S := fun u => KeyAt u w.heap.size k ∧ u.cell? ⟨ob, 2, none⟩ = some (.map (some mb))) (by kernel_rfl) ⟨S2.out, x2'⟩ (fun hH => ?_)
 refine zTk 0 13 (.pointer (some ⟨ob, 0, none⟩)) rfl (fun w hS => by go_simp) hH ?_; simp only [Act.put, zX, zY, zZ]
 refine zTk 1 14 (.pointer (some ⟨ob, 0, none⟩)) rfl (fun w hS => by go_simp) hH ?_; simp only [Act.put, zX, zY, zZ]
 refine zTk 2 15 (.pointer (some ⟨ob, 2, none⟩)) rfl (fun w hS => by go_simp) hH ?_; simp only [Act.put, zX, zY, zZ]
 refine zTk 3 16 (.map (some mb)) rfl (fun w hS => by obtain ⟨⟨s0, s1, s2, s3⟩, s4⟩ := hS; go_simp) hH ?_; simp only [Act.put, zX, zY, zZ]
 refine zTk 4 17 (.agg #[.int .i64 k.1, .int .i64 k.2.1, .int .i64 k.2.2.1, .int .i64 k.2.2.2]) rfl (fun w hS => by obtain ⟨⟨s0, s1, s2, s3⟩, s4⟩ := hS; go_simp) hH ?_; simp only [Act.put, zX, zY, zZ]
 refine zRd 5 (by kernel_rfl) rfl (fun K hK => ?_)
 go_simp
 refine hK.out _ _ SH.out (fun hH => ?_)
 clear hK K
 refine wpAnyH_done (by kernel_rfl) ?_ _
 clear hdel hH x2'
 go_wp2
 refine bodyPost_end (results_none rfl _ _ _) rfl ?_
 exact ⟨_, rfl, OH.out, NH.out, fun b hb => hb⟩
end Go.Proofs.YtjbkgmbakjnlhaaGreatDoor
