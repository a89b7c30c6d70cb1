/- Benches with whatever row of slots, none too. -/
import Derived.Test.YtjbkgmbakjnlhabGreatDoorPartAn
import Derived.Test.YtjbkgmbakjnlhabGreatDoorBenchS
namespace Go.Proofs.YtjbkgmbakjnlhabGreatDoor
set_option maxRecDepth 100000
open Go.RowKit

theorem benchOk_keys {now : Int} {ss ts : List SV} (h : ts.map SV.key = ss.map SV.key) (hb : benchOk now ss) : benchOk now ts := by
  have hl : ts.length = ss.length := by have := congrArg List.length h; simpa using this
  have ht : ∀ (j : Nat) t, ts[j]? = some t → ∃ s, ss[j]? = some s ∧ t.xs.map RV.key = s.xs.map RV.key ∧ t.since = s.since ∧ t.bad = s.bad := fun j t hj => by
    have e := congrArg (fun l => l[j]?) h
    simp only [List.getElem?_map, hj, Option.map_some] at e
    cases hs : ss[j]? with
    | none => rw [hs] at e; cases e
    | some s =>
      rw [hs] at e
      have e' : t.key = s.key := Option.some.inj e
      exact ⟨s, rfl, congrArg Prod.fst e', congrArg (fun t => t.2.1) e', congrArg (fun t => t.2.2) e'⟩
  have fa : ∀ {t s t' s' : SV}, t.xs.map RV.key = s.xs.map RV.key → t'.xs.map RV.key = s'.xs.map RV.key → firstAlike t t' → firstAlike s s' := fun {t s t' s'} h1 h2 ⟨x, y, hx, hy, ha⟩ => by
    have e1 := congrArg (fun l => l[0]?) h1
    have e2 := congrArg (fun l => l[0]?) h2
    simp only [List.getElem?_map, hx, hy, Option.map_some] at e1 e2
    cases hs : s.xs[0]? with
    | none => rw [hs] at e1; cases e1
    | some u =>
      cases hs' : s'.xs[0]? with
      | none => rw [hs'] at e2; cases e2
      | some v =>
        rw [hs] at e1
        rw [hs'] at e2
        have e1' : x.key = u.key := Option.some.inj e1
        have e2' : y.key = v.key := Option.some.inj e2
        exact ⟨u, v, hs, hs', by rw [← e1', ← e2']; exact ha⟩
  refine ⟨hb.1, by rw [hl]; exact hb.2.1, fun j t hj => ?_⟩
  obtain ⟨s, hs, hk, hsi, hbd⟩ := ht j t hj
  obtain ⟨g1, g2, g3, g4⟩ := hb.2.2 j s hs
  have hlen : t.xs.length = s.xs.length := by have := congrArg List.length hk; simpa using this
  refine ⟨by unfold sinceOk at g1 ⊢; rw [hsi]; exact g1, ⟨by rw [hk]; exact g2.1, fun h => by rw [hlen]; exact g2.2 (hbd ▸ h)⟩, fun r h0 hr => ?_, fun i r hi hr hf => ?_⟩
  · obtain ⟨r', hr', _, hsi', _⟩ := ht (j - 1) r hr
    rw [hsi', hsi]
    exact g3 r' h0 hr'
  · obtain ⟨r', hr', hk', _, _⟩ := ht i r hr
    exact g4 i r' hi hr' (fa hk' hk hf)
theorem benchOk_iff {now : Int} {ss ts : List SV} (h : ts.map SV.key = ss.map SV.key) : benchOk now ts ↔ benchOk now ss := ⟨benchOk_keys h.symm, benchOk_keys h⟩

/-- a list of slots that can be read, wherever it lies -/
def SLq (w : World) (oa : Option Addr) (ss : List SV) : Prop := ss = [] ∨ ∃ g, oa = some ⟨g, 0, none⟩ ∧ SL w g ss
theorem SLq.below {w w' : World} {oa : Option Addr} {ss : List SV} (h : SLq w oa ss) (hb : Below w.heap.size w w') : SLq w' oa ss := by
  rcases h with h | ⟨g, h1, h2⟩
  · exact Or.inl h
  · exact Or.inr ⟨g, h1, h2.below hb⟩
theorem sincesHold_nil (now : Int) (oa : Option Addr) (cl : Nat) (w : World) (h0 : 0 ≤ now) (h1 : now ≤ 1000000) :
    Calls Tryz.prog 73 #[.agg #[.int .i64 now, .slice oa 0 cl]] w fun e w' => e = .returned (.bool true) ∧ Below w.heap.size w w' := by
  by_cases hmx : now - 6 + 1 ≤ 0
  all_goals
    go_enter Tryz.func73, Tryz.ntmps73
    go_wp2
    refine wp_loop_rounds 1 ?_
    rw [rounds_succ]
    go_wp2
    go_ret
    exact ⟨rfl, Joins.below_alloc1 _ _⟩
theorem allWait_nil (oa : Option Addr) (cl : Nat) (w : World) :
    Calls Tryz.prog 74 #[.slice oa 0 cl] w fun e w' => e = .returned (.bool true) ∧ Below w.heap.size w w' := by
  go_enter Tryz.func74, Tryz.ntmps74
  go_wp2
  refine wp_loop_rounds 1 ?_
  rw [rounds_succ]
  go_wp2
  go_ret
  exact ⟨rfl, Below.refl _ _⟩
theorem allOther_nil (oa : Option Addr) (cl : Nat) (w : World) :
    Calls Tryz.prog 75 #[.slice oa 0 cl] w fun e w' => e = .returned (.bool true) ∧ Below w.heap.size w w' := by
  go_enter Tryz.func75, Tryz.ntmps75
  go_wp2
  refine wp_loop_rounds 1 ?_
  rw [rounds_succ]
  go_wp2
  go_ret
  exact ⟨rfl, Below.refl _ _⟩
set_option maxRecDepth 100000 in
set_option maxHeartbeats 6400000 in
theorem implBenchOk_gen (now : Int) (oa : Option Addr) (cl : Nat) (ss : List SV) (w : World) (hm : ss.length ≤ 1048576)
    (k1 : Hid (∀ W : World, Below w.heap.size w W → 0 ≤ now → now ≤ 1000000 → ss.length ≤ 4 → Calls Tryz.prog 73 #[.agg #[.int .i64 now, .slice oa ss.length cl]] W (SaysB (∀ (j : Nat) s, ss[j]? = some s → sinceOk now s ∧ rises ss j s) W)))
    (k2 : Hid (∀ W : World, Below w.heap.size w W → ss.length ≤ 4 → Calls Tryz.prog 74 #[.slice oa ss.length cl] W (SaysB (∀ (j : Nat) s, ss[j]? = some s → waits s) W)))
    (k3 : Hid (∀ W : World, Below w.heap.size w W → ss.length ≤ 4 → (∀ (j : Nat) s, ss[j]? = some s → waits s) → Calls Tryz.prog 75 #[.slice oa ss.length cl] W (SaysB (∀ (j : Nat) s, ss[j]? = some s → lone ss j s) W))) :
    Calls Tryz.prog 50 #[.agg #[.int .i64 now, .slice oa ss.length cl]] w (SaysB (benchOk now ss) w) := by
  have KC : Hid (∀ (W : World), Calls Tryz.prog 72 #[.int .i64 now, .int .i64 0, .int .i64 1000000] W fun e w' => e = .returned (.int .i64 (clampI now 0 1000000)) ∧ w' = W) := fun W => clamp_any now 0 1000000 W
  by_cases hin : 0 ≤ now ∧ now ≤ 1000000
  · have hcl : clampI now 0 1000000 = now := by unfold clampI; split <;> split <;> omega
    rw [hcl] at KC
    have hne : (now != now) = false := by simp
    by_cases h4 : 4 < ss.length
    · have h4' : (4 : Int) < (ss.length : Int) := by omega
      go_enter Tryz.func50, Tryz.ntmps50
      go_wp2
      go_quiet ((go_at_call 72; refine Calls.quiet_of_same (KC.out _)))
      go_wp2_with fail
      go_ret
      exact (SaysB.mk false ⟨fun h => by simp at h, fun h => by have := h.2.1; omega⟩ ((Joins.below_alloc1 _ _).trans (Joins.below_draws _ _ _)))
    · have h4' : ¬ ((4 : Int) < (ss.length : Int)) := by omega
      have K1 : Hid (∀ W : World, Below w.heap.size w W → Calls Tryz.prog 73 #[.agg #[.int .i64 now, .slice oa ss.length cl]] W (SaysB (∀ (j : Nat) s, ss[j]? = some s → sinceOk now s ∧ rises ss j s) W)) := fun W h => k1.out W h hin.1 hin.2 (by omega)
      have K2 : Hid (∀ W : World, Below w.heap.size w W → Calls Tryz.prog 74 #[.slice oa ss.length cl] W (SaysB (∀ (j : Nat) s, ss[j]? = some s → waits s) W)) := fun W h => k2.out W h (by omega)
      have K3 : Hid (∀ W : World, Below w.heap.size w W → (∀ (j : Nat) s, ss[j]? = some s → waits s) → Calls Tryz.prog 75 #[.slice oa ss.length cl] W (SaysB (∀ (j : Nat) s, ss[j]? = some s → lone ss j s) W)) := fun W h hw => k3.out W h (by omega) hw
      go_enter Tryz.func50, Tryz.ntmps50
      go_wp2
      go_quiet ((go_at_call 72; refine Calls.quiet_of_same (KC.out _)))
      go_wp2_with fail
      have BQ : Hid (Below w.heap.size w ((w.alloc (.cells #[.int .i64 now, .slice oa ss.length cl] 32)).drewN nq)) := (Joins.below_alloc1 _ _).trans (Joins.below_draws _ _ _)
      have ZQ : Hid (((w.alloc (.cells #[.int .i64 now, .slice oa ss.length cl] 32)).drewN nq).cell? ⟨w.heap.size, 1, none⟩ = some (.slice oa ss.length cl)) := (show _ = _ by go_simp)
      refine (K1.out _ BQ.out).mono ?_
      rintro e w1 ⟨r1, rfl, hr1, b1⟩
      have sq : ((w.alloc (.cells #[.int .i64 now, .slice oa ss.length cl] 32)).drewN nq).heap.size = w.heap.size + 1 := by simp
      have B1 : Hid (Below w.heap.size w w1) := BQ.out.trans (b1.mono (by omega))
      have z1 : w1.cell? ⟨w.heap.size, 1, none⟩ = some (.slice oa ss.length cl) := (b1.cell (p := ⟨w.heap.size, 1, none⟩) (by simp only; omega)).trans ZQ.out
      have s1 : w.heap.size < w1.heap.size := by have := b1.size; omega
      have H1 : Hid (r1 = true ↔ ∀ (j : Nat) s, ss[j]? = some s → sinceOk now s ∧ rises ss j s) := hr1
      clear b1 sq ZQ BQ hr1
      cases r1
      · go_wp2
        go_ret
        refine SaysB.mk false ⟨fun h => by simp at h, fun h => ?_⟩ B1.out
        have := H1.out.2 fun j s hs => ⟨(h.2.2 j s hs).1, (h.2.2 j s hs).2.2.1⟩
        cases this
      go_wp2_with fail
      refine (K2.out _ B1.out).mono ?_
      rintro e w2 ⟨r2, rfl, hr2, b2⟩
      have B2 : Hid (Below w.heap.size w w2) := B1.out.trans (b2.mono B1.out.size)
      have z2 : w2.cell? ⟨w.heap.size, 1, none⟩ = some (.slice oa ss.length cl) := (b2.cell (p := ⟨w.heap.size, 1, none⟩) s1).trans z1
      have H2 : Hid (r2 = true ↔ ∀ (j : Nat) s, ss[j]? = some s → waits s) := hr2
      clear b2 hr2
      cases r2
      · go_wp2
        go_ret
        refine SaysB.mk false ⟨fun h => by simp at h, fun h => ?_⟩ B2.out
        have := H2.out.2 fun j s hs => (h.2.2 j s hs).2.1
        cases this
      go_wp2_with fail
      refine (K3.out _ B2.out (H2.out.1 (by trivial))).mono ?_
      rintro e w3 ⟨r3, rfl, hr3, b3⟩
      have B3 : Hid (Below w.heap.size w w3) := B2.out.trans (b3.mono B2.out.size)
      have H3 : Hid (r3 = true ↔ ∀ (j : Nat) s, ss[j]? = some s → lone ss j s) := hr3
      clear b3 hr3
      go_wp2
      go_ret
      refine SaysB.mk r3 ⟨fun h => ⟨hin, by omega, fun j s hs => ⟨(H1.out.1 (by trivial) j s hs).1, H2.out.1 (by trivial) j s hs, (H1.out.1 (by trivial) j s hs).2, H3.out.1 h j s hs⟩⟩, fun h => H3.out.2 fun j s hs => (h.2.2 j s hs).2.2.2⟩ B3.out
  · have hcl : (now != clampI now 0 1000000) = true := by
      rw [bne_iff_ne]
      unfold clampI
      split <;> split <;> omega
    go_enter Tryz.func50, Tryz.ntmps50
    go_wp2
    go_quiet ((go_at_call 72; refine Calls.quiet_of_same (KC.out _)))
    go_wp2
    go_ret
    exact (SaysB.mk false ⟨fun h => by simp at h, fun h => (hin h.1).elim⟩ ((Joins.below_alloc1 _ _).trans (Joins.below_draws _ _ _)))
theorem implBenchOk_q (now : Int) (oa : Option Addr) (cl : Nat) (ss : List SV) (w : World) (hL : SLq w oa ss) (hm : ss.length ≤ 1048576) (hc : ss.length ≤ cl) (hcm : cl ≤ 9223372036854775807) :
    Calls Tryz.prog 50 #[.agg #[.int .i64 now, .slice oa ss.length cl]] w (SaysB (benchOk now ss) w) := by
  rcases hL with rfl | ⟨g, rfl, hL⟩
  · refine implBenchOk_gen now oa cl [] w hm (fun W _ h0 h1 _ => (sincesHold_nil now oa cl W h0 h1).mono ?_) (fun W _ _ => (allWait_nil oa cl W).mono ?_) (fun W _ _ _ => (allOther_nil oa cl W).mono ?_)
    all_goals
      rintro e w' ⟨rfl, b⟩
      exact SaysB.mk true ⟨fun _ j s hs => by simp at hs, fun _ => rfl⟩ b
  · exact implBenchOk_any now g cl ss w hL hm hc hcm
theorem specBenchOk_nil (now : Int) (oa : Option Addr) (cl : Nat) (w : World) :
    Calls Tryz.prog 21 #[.agg #[.int .i64 now, .slice oa 0 cl]] w (SaysB (benchOk now []) w) := by
  have KC : Hid (∀ W : World, Calls Tryz.prog 42 #[.int .i64 now, .int .i64 0, .int .i64 1000000] W fun e w' => e = .returned (.bool (inB now 0 1000000)) ∧ w' = W) := fun W => l1In_any now 0 1000000 W
  have HB : Hid (inB now 0 1000000 = true ↔ benchOk now []) := by
    constructor
    · intro h
      simp only [inB, Bool.and_eq_true, decide_eq_true_eq] at h
      exact ⟨h, by simp, fun j s hs => by simp at hs⟩
    · intro h
      simp only [inB, Bool.and_eq_true, decide_eq_true_eq]
      exact h.1
  obtain ⟨b, hb⟩ : ∃ b, inB now 0 1000000 = b := ⟨_, rfl⟩
  rw [hb] at KC HB
  clear hb
  go_enter Tryz.func21, Tryz.ntmps21
  cases b
  · go_wp2_with (go_at_call 42; refine (KC.out _).mono ?_; rintro e w' ⟨rfl, rfl⟩)
    go_ret
    exact SaysB.mk false HB.out (Joins.below_alloc1 _ _)
  · go_wp2_with (go_at_call 42; refine (KC.out _).mono ?_; rintro e w' ⟨rfl, rfl⟩)
    refine wp_loop_rounds 1 ?_
    rw [rounds_succ]
    go_wp2
    go_ret
    exact SaysB.mk true ⟨fun _ => HB.out.1 (by trivial), fun _ => rfl⟩ (Joins.below_alloc1 _ _)
theorem specBenchOk_q (now : Int) (oa : Option Addr) (cl : Nat) (ss : List SV) (w : World) (hL : SLq w oa ss) (hm : ss.length ≤ 1048576) (hc : ss.length ≤ cl) (hcm : cl ≤ 9223372036854775807) :
    Calls Tryz.prog 21 #[.agg #[.int .i64 now, .slice oa ss.length cl]] w (SaysB (benchOk now ss) w) := by
  rcases hL with rfl | ⟨g, rfl, hL⟩
  · exact specBenchOk_nil now oa cl w
  · exact specBenchOk_any now g cl ss w hL hm hc hcm
end Go.Proofs.YtjbkgmbakjnlhabGreatDoor
