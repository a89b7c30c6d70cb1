/- The law FnExactFragBenchOk. -/
import Derived.Test.YtjbkgmbakjnlhabBenchI
import Derived.Test.YtjbkgmbakjnlhabBenchS
namespace Go.Proofs.Ytjbkgmbakjnlhab
open Go.RowKit

theorem benchOk_keys {now : Int} {ss ts : List SV} (h : ts.map SV.key = ss.map SV.key) (hb : benchOk now ss) : benchOk now ts := by
  have hl : ts.length = ss.length := by have := congrArg List.length h; simpa using this
  have ht : ∀ (j : Nat) t, ts[j]? = some t → ∃ s, ss[j]? = some s ∧ t.xs.map RV.key = s.xs.map RV.key ∧ t.since = s.since ∧ t.bad = s.bad := fun j t hj => by
    have e := congrArg (fun l => l[j]?) h
    simp only [List.getElem?_map, hj, Option.map_some] at e
    cases hs : ss[j]? with
    | none => rw [hs] at e; cases e
    | some s =>
      rw [hs] at e
      have e' : t.key = s.key := Option.some.inj e
      exact ⟨s, rfl, congrArg Prod.fst e', congrArg (fun t => t.2.1) e', congrArg (fun t => t.2.2) e'⟩
  have fa : ∀ {t s t' s' : SV}, t.xs.map RV.key = s.xs.map RV.key → t'.xs.map RV.key = s'.xs.map RV.key → firstAlike t t' → firstAlike s s' := fun {t s t' s'} h1 h2 ⟨x, y, hx, hy, ha⟩ => by
    have e1 := congrArg (fun l => l[0]?) h1
    have e2 := congrArg (fun l => l[0]?) h2
    simp only [List.getElem?_map, hx, hy, Option.map_some] at e1 e2
    cases hs : s.xs[0]? with
    | none => rw [hs] at e1; cases e1
    | some u =>
      cases hs' : s'.xs[0]? with
      | none => rw [hs'] at e2; cases e2
      | some v =>
        rw [hs] at e1
        rw [hs'] at e2
        have e1' : x.key = u.key := Option.some.inj e1
        have e2' : y.key = v.key := Option.some.inj e2
        exact ⟨u, v, hs, hs', by rw [← e1', ← e2']; exact ha⟩
  refine ⟨hb.1, by rw [hl]; exact hb.2.1, fun j t hj => ?_⟩
  obtain ⟨s, hs, hk, hsi, hbd⟩ := ht j t hj
  obtain ⟨g1, g2, g3, g4⟩ := hb.2.2 j s hs
  have hlen : t.xs.length = s.xs.length := by have := congrArg List.length hk; simpa using this
  refine ⟨by unfold sinceOk at g1 ⊢; rw [hsi]; exact g1, ⟨by rw [hk]; exact g2.1, fun h => by rw [hlen]; exact g2.2 (hbd ▸ h)⟩, fun r h0 hr => ?_, fun i r hi hr hf => ?_⟩
  · obtain ⟨r', hr', _, hsi', _⟩ := ht (j - 1) r hr
    rw [hsi', hsi]
    exact g3 r' h0 hr'
  · obtain ⟨r', hr', hk', _, _⟩ := ht i r hr
    exact g4 i r' hi hr' (fa hk' hk hf)
theorem benchOk_iff {now : Int} {ss ts : List SV} (h : ts.map SV.key = ss.map SV.key) : benchOk now ts ↔ benchOk now ss := ⟨benchOk_keys h.symm, benchOk_keys h⟩

set_option maxRecDepth 100000 in
set_option maxHeartbeats 6400000 in
theorem benchLaw_any (now : Int) (a : Option Addr) (cl : Nat) (xs : List SV) (w : World) (hL : SLo w a xs) (hm : xs.length ≤ 9223372036854775807) :
    Calls Try.prog 5 #[.agg #[.int .i64 now, .slice a xs.length cl]] w fun e w' => e = .returned (.bool true) ∧ Below w.heap.size w w' := by
  have HL : Hid (SLo w a xs) := hL
  clear hL
  have KZ : Hid (∀ W : World, Below w.heap.size w W → Calls Try.prog 19 #[.agg #[.int .i64 now, .slice a xs.length cl], .int .i64 1048576] W fun e w' => ∃ r : Int, e = .returned (.int .i64 r) ∧ (r = -1 ∨ (0 ≤ r ∧ xs.length + sumSz xs ≤ 1048576 ∧ r = 1048576 - (xs.length : Int) - (sumSz xs : Int))) ∧ Below W.heap.size W w') := fun W h => szFragBench_any now a cl xs W (HL.out.below h) hm
  go_enter Try.func5, Try.ntmps5
  have KT : Hid (∀ W : World, Below w.heap.size w W → xs.length + sumSz xs ≤ 1048576 → Calls Try.prog 21 #[.agg #[.int .i64 now, .slice a xs.length cl]] W fun e w' => ∃ gS ts, e = .returned (.agg #[.int .i64 now, .slice (some ⟨gS, 0, none⟩) xs.length xs.length]) ∧ SB w' W.heap.size gS xs.length ts ∧ ts.map SV.key = xs.map SV.key ∧ Below W.heap.size W w') := fun W h hs => toFragBench_any now a cl xs W (HL.out.below h) hs
  go_wp2_with fail
  refine (KZ.out _ (Joins.below_alloc1 _ _)).mono ?_
  rintro e w1 ⟨r, rfl, hr, b1⟩
  have B1 : Hid (Below (w.heap.size + 1) (w.alloc (.cells #[.int .i64 now, .slice a xs.length cl] 42)) w1) := (show Below _ _ _ by simpa using b1)
  clear b1 KZ
  have BW : ∀ W, Below (w.heap.size + 1) (w.alloc (.cells #[.int .i64 now, .slice a xs.length cl] 42)) W → Hid (Below w.heap.size w W) := fun W h => (Joins.below_alloc1 _ _).trans (h.mono (by omega))
  have Z0 : ∀ W, Below (w.heap.size + 1) (w.alloc (.cells #[.int .i64 now, .slice a xs.length cl] 42)) W → W.cell? ⟨w.heap.size, 0, none⟩ = some (.int .i64 now) := fun W h => (h.cell (p := ⟨w.heap.size, 0, none⟩) (by simp only; omega)).trans (by go_simp)
  have Z1 : ∀ W, Below (w.heap.size + 1) (w.alloc (.cells #[.int .i64 now, .slice a xs.length cl] 42)) W → W.cell? ⟨w.heap.size, 1, none⟩ = some (.slice a xs.length cl) := fun W h => (h.cell (p := ⟨w.heap.size, 1, none⟩) (by simp only; omega)).trans (by go_simp)
  have HBW : Hid (∀ W, Below (w.heap.size + 1) (w.alloc (.cells #[.int .i64 now, .slice a xs.length cl] 42)) W → Below w.heap.size w W) := fun W h => (BW W h).out
  have HZ0 : Hid (∀ W, Below (w.heap.size + 1) (w.alloc (.cells #[.int .i64 now, .slice a xs.length cl] 42)) W → W.cell? ⟨w.heap.size, 0, none⟩ = some (.int .i64 now)) := Z0
  have HZ1 : Hid (∀ W, Below (w.heap.size + 1) (w.alloc (.cells #[.int .i64 now, .slice a xs.length cl] 42)) W → W.cell? ⟨w.heap.size, 1, none⟩ = some (.slice a xs.length cl)) := Z1
  have sB : Hid (∀ W, Below (w.heap.size + 1) (w.alloc (.cells #[.int .i64 now, .slice a xs.length cl] 42)) W → w.heap.size + 1 ≤ W.heap.size) := fun W h => by have := h.size; simpa using this
  clear BW Z0 Z1
  by_cases hn : r < 0
  · go_wp2
    go_ret
    exact ⟨rfl, HBW.out _ B1.out⟩
  have hsum : xs.length + sumSz xs ≤ 1048576 := by omega
  clear hr
  have z0 := HZ0.out _ B1.out
  have z1 := HZ1.out _ B1.out
  go_wp2_with fail
  refine (KT.out _ (HBW.out _ B1.out) hsum).mono ?_
  rintro e w2 ⟨g1, t1, rfl, S1, k1, b2⟩
  have B2 : Hid (Below (w.heap.size + 1) (w.alloc (.cells #[.int .i64 now, .slice a xs.length cl] 42)) w2) := B1.out.trans (b2.mono (sB.out _ B1.out))
  have l1 : t1.length = xs.length := by have := congrArg List.length k1; simpa using this
  have HK1 : Hid (benchOk now t1 ↔ benchOk now xs) := benchOk_iff k1
  have KS : Hid (Calls Try.prog 20 #[.agg #[.int .i64 now, .slice (some ⟨g1, 0, none⟩) xs.length xs.length]] w2 (SaysB (benchOk now t1) w2)) := (show Calls _ _ _ _ _ by rw [← l1]; exact specBenchOk_any now g1 _ t1 w2 S1.sl (by omega) (Nat.le_refl _) (by omega))
  clear b2 S1 k1 l1 z0 z1
  go_wp2_with fail
  refine KS.out.mono ?_
  rintro e w3 ⟨r1, rfl, hr1, b3⟩
  have B3 : Hid (Below (w.heap.size + 1) (w.alloc (.cells #[.int .i64 now, .slice a xs.length cl] 42)) w3) := B2.out.trans (b3.mono (sB.out _ B2.out))
  have HR1 : Hid (r1 = true ↔ benchOk now xs) := hr1.trans HK1.out
  clear b3 hr1 HK1 KS
  have z0 := HZ0.out _ B3.out
  have z1 := HZ1.out _ B3.out
  go_wp2_with fail
  refine (KT.out _ (HBW.out _ B3.out) hsum).mono ?_
  rintro e w4 ⟨g2, t2, rfl, S2, k2, b4⟩
  have B4 : Hid (Below (w.heap.size + 1) (w.alloc (.cells #[.int .i64 now, .slice a xs.length cl] 42)) w4) := B3.out.trans (b4.mono (sB.out _ B3.out))
  have l2 : t2.length = xs.length := by have := congrArg List.length k2; simpa using this
  have HK2 : Hid (benchOk now t2 ↔ benchOk now xs) := benchOk_iff k2
  have HS2 : Hid (SL w4 g2 t2) := S2.sl
  have HT2 : Hid (t2.map SV.key = xs.map SV.key) := k2
  have KI : Hid (∀ W, Below w4.heap.size w4 W → Calls Try.prog 22 #[.agg #[.int .i64 now, .slice (some ⟨g2, 0, none⟩) xs.length xs.length]] W (SaysB (benchOk now t2) W)) := fun W h => (by rw [← l2]; exact implBenchOk_any now g2 _ t2 W (HS2.out.below h) (by omega) (Nat.le_refl _) (by omega))
  clear b4 S2 k2 z0 z1
  go_wp2_with fail
  refine (KI.out _ (Joins.below_alloc1 _ _)).mono ?_
  rintro e w5 ⟨r2, rfl, hr2, b5⟩
  have bb : Below w4.heap.size w4 w5 := (Joins.below_alloc1 _ _).trans (b5.mono (by simp))
  have B5 : Hid (Below (w.heap.size + 1) (w.alloc (.cells #[.int .i64 now, .slice a xs.length cl] 42)) w5) := B4.out.trans (bb.mono (sB.out _ B4.out))
  have HS5 : Hid (SL w5 g2 t2) := HS2.out.below bb
  have x0 : w5.cell? ⟨w4.heap.size, 0, none⟩ = some (.int .i64 now) := (b5.cell (p := ⟨w4.heap.size, 0, none⟩) (by simp)).trans (by go_simp)
  have x1 : w5.cell? ⟨w4.heap.size, 1, none⟩ = some (.slice (some ⟨g2, 0, none⟩) xs.length xs.length) := (b5.cell (p := ⟨w4.heap.size, 1, none⟩) (by simp)).trans (by go_simp)
  have lx : w4.heap.size < w5.heap.size := by have := b5.size; simp at this; omega
  have lw : w.heap.size < w5.heap.size := by have := sB.out _ B5.out; omega
  obtain rfl : r2 = r1 := by
    have h := hr2.trans (HK2.out.trans HR1.out.symm)
    cases r1 <;> cases r2 <;> simp at h ⊢
  have hne : (r2 != r2) = false := by cases r2 <;> rfl
  clear b5 bb hr2 HK2 HR1 KI HS2
  have z0 := HZ0.out _ B5.out
  have z1 := HZ1.out _ B5.out
  go_wp2_with fail
  refine wp_region_held_drew (S := fun w' => w'.cell? ⟨w.heap.size, 0, none⟩ = some (.int .i64 now) ∧ w'.cell? ⟨w.heap.size, 1, none⟩ = some (.slice a xs.length cl) ∧ w'.cell? ⟨w4.heap.size, 0, none⟩ = some (.int .i64 now) ∧ w'.cell? ⟨w4.heap.size, 1, none⟩ = some (.slice (some ⟨g2, 0, none⟩) xs.length xs.length)) (by kernel_rfl) ⟨z0, z1, x0, x1⟩ (fun hH => ?_)
  refine take_held 0 (some 22) (.agg #[.int .i64 now, .slice (some ⟨g2, 0, none⟩) xs.length xs.length]) rfl rfl (by kernel_rfl) (by kernel_rfl) (by kernel_rfl) (fun _ _ _ h => h) (by rfl) (fun w hS => by obtain ⟨s0, s1, s2, s3⟩ := hS; go_simp) hH ?_
  simp only [Act.put, List.setIfInBounds_toArray, List.set_cons_zero, List.set_cons_succ]
  refine take_held 1 (some 23) (.agg #[.int .i64 now, .slice a xs.length cl]) rfl rfl (by kernel_rfl) (by kernel_rfl) (by kernel_rfl) (fun _ _ _ h => h) (by rfl) (fun w hS => by obtain ⟨s0, s1, s2, s3⟩ := hS; go_simp) hH ?_
  simp only [Act.put, List.setIfInBounds_toArray, List.set_cons_zero, List.set_cons_succ]
  refine wpAnyH_ready (rs := [2]) (by kernel_rfl) (by simp) ?_
  refine AllReadyH.cons rfl (fun K hK => ?_) AllReadyH.nil
  go_simp
  refine (KT.out _ ((HBW.out _ B5.out).drew) hsum).mono ?_
  rintro e w6 ⟨g3, t3, rfl, S3, k3, b6⟩
  have hc6 : ∀ b o, b < w5.heap.size → w6.cell? ⟨b, o, none⟩ = w5.cell? ⟨b, o, none⟩ := fun b o h => b6.cell (p := ⟨b, o, none⟩) (by simpa using h)
  have B6 : Hid (Below (w.heap.size + 1) (w.alloc (.cells #[.int .i64 now, .slice a xs.length cl] 42)) w6) := B5.out.drew.trans (b6.mono (by have := sB.out _ B5.out; simpa using this))
  have l3 : t3.length = xs.length := by have := congrArg List.length k3; simpa using this
  have SX : SL w6 g2 t2 := HS5.out.below (((Below.refl _ w5).drew).trans b6)
  have KE : Hid (Calls Try.prog 23 #[.agg #[.int .i64 now, .slice (some ⟨g2, 0, none⟩) xs.length xs.length], .agg #[.int .i64 now, .slice (some ⟨g3, 0, none⟩) xs.length xs.length]] w6 fun e w' => e = .returned (.bool true) ∧ Below w6.heap.size w6 w') := (show Calls _ _ _ _ _ by
    have h := eqFragBench_same now g2 g3 xs.length xs.length t2 t3 w6 SX S3.sl (k3.trans HT2.out.symm) (by omega)
    rw [l2] at h
    exact h)
  go_simp
  refine hK.out _ _ ⟨(hc6 _ _ lw).trans z0, (hc6 _ _ lw).trans z1, (hc6 _ _ lx).trans x0, (hc6 _ _ lx).trans x1⟩ (fun hH => ?_)
  have hs56 : w5.heap.size ≤ w6.heap.size := by have := b6.size; simpa using this
  clear hK K S3 SX b6
  refine wpAnyH_ready (rs := [3]) (by kernel_rfl) (by simp) ?_
  refine AllReadyH.cons rfl (fun K hK => ?_) AllReadyH.nil
  go_simp
  refine KE.out.mono ?_
  rintro e w7 ⟨rfl, b7⟩
  have B7 : Hid (Below (w.heap.size + 1) (w.alloc (.cells #[.int .i64 now, .slice a xs.length cl] 42)) w7) := B6.out.trans (b7.mono (sB.out _ B6.out))
  have hc7 : ∀ b o, b < w5.heap.size → w7.cell? ⟨b, o, none⟩ = w5.cell? ⟨b, o, none⟩ := fun b o h => (b7.cell (p := ⟨b, o, none⟩) (Nat.lt_of_lt_of_le h (Nat.le_trans (Nat.le_refl _) hs56))).trans (hc6 b o h)
  go_simp
  refine hK.out _ _ ⟨(hc7 _ _ lw).trans z0, (hc7 _ _ lw).trans z1, (hc7 _ _ lx).trans x0, (hc7 _ _ lx).trans x1⟩ (fun hH => ?_)
  clear hK K b7
  refine take_held 4 (some 26) (.bool false) rfl rfl (by kernel_rfl) (by kernel_rfl) (by kernel_rfl) (fun _ _ _ h => h) (by rfl) (fun w hS => by obtain ⟨s0, s1, s2, s3⟩ := hS; go_simp) hH ?_
  simp only [Act.put, List.setIfInBounds_toArray, List.set_cons_zero, List.set_cons_succ]
  refine wpAnyH_done (by kernel_rfl) ?_ _
  clear hc6 hc7 hH
  go_wp2
  go_ret
  exact ⟨rfl, HBW.out _ B7.out⟩
end Go.Proofs.Ytjbkgmbakjnlhab
