import Derived.Test.YtjbkgmbakjnlhaaGreatDoorPartAi
import Derived.Test.YtjbkgmbakjnlhaaGreatDoorBenchS
import Derived.Test.YtjbkgmbakjnlhaaGreatDoorPartAe
namespace Go.Proofs.YtjbkgmbakjnlhaaGreatDoor
set_option maxRecDepth 100000
open Go.RowKit
theorem benchOk_keys {now : Int} {ss ts : List SV} (h : ts.map SV.key = ss.map SV.key) (hb : benchOk now ss) : benchOk now ts := by
 have hl : ts.length = ss.length := by have := congrArg List.length h; simpa using this
 have ht : ∀ (j : Nat) t, ts[j]? = some t → ∃ s, ss[j]? = some s ∧ t.xs.map RV.key = s.xs.map RV.key ∧ t.since = s.since ∧ t.bad = s.bad := fun j t hj => by
  have e := congrArg (fun l => l[j]?) h
  simp only [List.getElem?_map, hj, Option.map_some] at e
  cases hs : ss[j]? with
  | none => rw [hs] at e; cases e
  | some s =>
   rw [hs] at e
   have e' : t.key = s.key := Option.some.inj e
   exact ⟨s, rfl, congrArg Prod.fst e', congrArg (fun t => t.2.1) e', congrArg (fun t => t.2.2) e'⟩
 have fa : ∀ {t s t' s' : SV}, t.xs.map RV.key = s.xs.map RV.key → t'.xs.map RV.key = s'.xs.map RV.key → firstAlike t t' → firstAlike s s' := fun {t s t' s'} h1 h2 ⟨x, y, hx, hy, ha⟩ => by
  have e1 := congrArg (fun l => l[0]?) h1
  have e2 := congrArg (fun l => l[0]?) h2
  simp only [List.getElem?_map, hx, hy, Option.map_some] at e1 e2
  cases hs : s.xs[0]? with
  | none => rw [hs] at e1; cases e1
  | some u =>
   cases hs' : s'.xs[0]? with
   | none => rw [hs'] at e2; cases e2
   | some v =>
    rw [hs] at e1
    rw [hs'] at e2
    have e1' : x.key = u.key := Option.some.inj e1
    have e2' : y.key = v.key := Option.some.inj e2
    exact ⟨u, v, hs, hs', by rw [← e1', ← e2']; exact ha⟩
 refine ⟨hb.1, by rw [hl]; exact hb.2.1, fun j t hj => ?_⟩
 obtain ⟨s, hs, hk, hsi, hbd⟩ := ht j t hj
 obtain ⟨g1, g2, g3, g4⟩ := hb.2.2 j s hs
 have hlen : t.xs.length = s.xs.length := by have := congrArg List.length hk; simpa using this
 refine ⟨by unfold sinceOk at g1 ⊢; rw [hsi]; exact g1, ⟨by rw [hk]; exact g2.1, fun h => by rw [hlen]; exact g2.2 (hbd ▸ h)⟩, fun r h0 hr => ?_, fun i r hi hr hf => ?_⟩
 ·obtain ⟨r', hr', _, hsi', _⟩ := ht (j - 1) r hr
  rw [hsi', hsi]
  exact g3 r' h0 hr'
 ·obtain ⟨r', hr', hk', _, _⟩ := ht i r hr
  exact g4 i r' hi hr' (fa hk' hk hf)
theorem benchOk_iff {now : Int} {ss ts : List SV} (h : ts.map SV.key = ss.map SV.key) : benchOk now ts ↔ benchOk now ss := ⟨benchOk_keys h.symm, benchOk_keys h⟩
def SLq (w : World) (oa : Option Addr) (ss : List SV) : Prop := ss = [] ∨ ∃ g, oa = some ⟨g, 0, none⟩ ∧ SL w g ss
theorem SLq.below {w w' : World} {oa : Option Addr} {ss : List SV} (h : SLq w oa ss) (hb : Below w.heap.size w w') : SLq w' oa ss := by
 rcases h with h | ⟨g, h1, h2⟩
 ·exact Or.inl h
 ·exact Or.inr ⟨g, h1, h2.below hb⟩
theorem sincesHold_nil (now : Int) (oa : Option Addr) (cl : Nat) (w : World) (h0 : 0 ≤ now) (h1 : now ≤ 1000000) :
  Calls Tryz.prog 38 #[.agg #[.int .i64 now, .slice oa 0 cl]] w fun e w' => e = .returned (.bool true) ∧ Below w.heap.size w w' := by
 by_cases hmx : now - 6 + 1 ≤ 0
 all_goals
  go_enter Tryz.func38, Tryz.ntmps38
  go_wp2
  refine wp_loop_rounds 1 ?_
  rw [rounds_succ]
  go_wp2
  go_ret
  exact ⟨rfl, zBa _ _⟩
theorem allWait_nil (oa : Option Addr) (cl : Nat) (w : World) :
  Calls Tryz.prog 39 #[.slice oa 0 cl] w fun e w' => e = .returned (.bool true) ∧ Below w.heap.size w w' := by
 go_enter Tryz.func39, Tryz.ntmps39
 go_wp2
 refine wp_loop_rounds 1 ?_
 rw [rounds_succ]
 go_wp2
 go_ret
 exact ⟨rfl, Below.refl _ _⟩
theorem allOther_nil (oa : Option Addr) (cl : Nat) (w : World) :
  Calls Tryz.prog 40 #[.slice oa 0 cl] w fun e w' => e = .returned (.bool true) ∧ Below w.heap.size w w' := by
 go_enter Tryz.func40, Tryz.ntmps40
 go_wp2
 refine wp_loop_rounds 1 ?_
 rw [rounds_succ]
 go_wp2
 go_ret
 exact ⟨rfl, Below.refl _ _⟩
set_option maxHeartbeats 6400000 in
theorem implBenchOk_gen (now : Int) (oa : Option Addr) (cl : Nat) (ss : List SV) (w : World) (hm : ss.length ≤ 1048576)
  (k1 : Hid (∀ W : World, Below w.heap.size w W → 0 ≤ now → now ≤ 1000000 → ss.length ≤ 4 → Calls Tryz.prog 38 #[.agg #[.int .i64 now, .slice oa ss.length cl]] W (SaysB (∀ (j : Nat) s, ss[j]? = some s → sinceOk now s ∧ rises ss j s) W)))
  (k2 : Hid (∀ W : World, Below w.heap.size w W → ss.length ≤ 4 → Calls Tryz.prog 39 #[.slice oa ss.length cl] W (SaysB (∀ (j : Nat) s, ss[j]? = some s → waits s) W)))
  (k3 : Hid (∀ W : World, Below w.heap.size w W → ss.length ≤ 4 → (∀ (j : Nat) s, ss[j]? = some s → waits s) → Calls Tryz.prog 40 #[.slice oa ss.length cl] W (SaysB (∀ (j : Nat) s, ss[j]? = some s → lone ss j s) W))) :
  Calls Tryz.prog 13 #[.agg #[.int .i64 now, .slice oa ss.length cl]] w (SaysB (benchOk now ss) w) := by
 have KC : Hid (∀ (W : World), Calls Tryz.prog 37 #[.int .i64 now, .int .i64 0, .int .i64 1000000] W fun e w' => e = .returned (.int .i64 (clampI now 0 1000000)) ∧ w' = W) := fun W => clamp_any now 0 1000000 W
 by_cases hin : 0 ≤ now ∧ now ≤ 1000000
 ·have hcl : clampI now 0 1000000 = now := by unfold clampI; split <;> split <;> omega
  rw [hcl] at KC
  have hne : (now != now) = false := by simp
  by_cases h4 : 4 < ss.length
  ·have h4' : (4 : Int) < (ss.length : Int) := by omega
   go_enter Tryz.func13, Tryz.ntmps13
   go_wp2
   go_quiet ((go_at_call 37; refine Calls.quiet_of_same (KC.out _)))
   go_wp2_with fail
   go_ret
   exact (SaysB.mk false ⟨fun h => by simp at h, fun h => by have := h.2.1; omega⟩ ((zBa _ _).trans (Joins.below_draws _ _ _)))
  ·have h4' : ¬ ((4 : Int) < (ss.length : Int)) := by omega
   have K1 : Hid (∀ W : World, Below w.heap.size w W → Calls Tryz.prog 38 #[.agg #[.int .i64 now, .slice oa ss.length cl]] W (SaysB (∀ (j : Nat) s, ss[j]? = some s → sinceOk now s ∧ rises ss j s) W)) := fun W h => k1.out W h hin.1 hin.2 (by omega)
   have K2 : Hid (∀ W : World, Below w.heap.size w W → Calls Tryz.prog 39 #[.slice oa ss.length cl] W (SaysB (∀ (j : Nat) s, ss[j]? = some s → waits s) W)) := fun W h => k2.out W h (by omega)
   have K3 : Hid (∀ W : World, Below w.heap.size w W → (∀ (j : Nat) s, ss[j]? = some s → waits s) → Calls Tryz.prog 40 #[.slice oa ss.length cl] W (SaysB (∀ (j : Nat) s, ss[j]? = some s → lone ss j s) W)) := fun W h hw => k3.out W h (by omega) hw
   go_enter Tryz.func13, Tryz.ntmps13
   go_wp2
   go_quiet ((go_at_call 37; refine Calls.quiet_of_same (KC.out _)))
   go_wp2_with fail
   have BQ : Hid (Below w.heap.size w ((w.alloc (.cells #[.int .i64 now, .slice oa ss.length cl] 27)).drewN nq)) := (zBa _ _).trans (Joins.below_draws _ _ _)
   have ZQ : Hid (((w.alloc (.cells #[.int .i64 now, .slice oa ss.length cl] 27)).drewN nq).cell? ⟨w.heap.size, 1, none⟩ = some (.slice oa ss.length cl)) := (show _ = _ by go_simp)
   refine (K1.out _ BQ.out).mono ?_
   rintro e w1 ⟨r1, rfl, hr1, b1⟩
   have sq : ((w.alloc (.cells #[.int .i64 now, .slice oa ss.length cl] 27)).drewN nq).heap.size = w.heap.size + 1 := by simp
   have B1 : Hid (Below w.heap.size w w1) := BQ.out.trans (b1.mono (by omega))
   have z1 : w1.cell? ⟨w.heap.size, 1, none⟩ = some (.slice oa ss.length cl) := (b1.cell (p := ⟨w.heap.size, 1, none⟩) (by simp only; omega)).trans ZQ.out
   have s1 : w.heap.size < w1.heap.size := by have := b1.size; omega
   have H1 : Hid (r1 = true ↔ ∀ (j : Nat) s, ss[j]? = some s → sinceOk now s ∧ rises ss j s) := hr1
   clear b1 sq ZQ BQ hr1
   cases r1
   ·go_wp2
    go_ret
    refine SaysB.mk false ⟨fun h => by simp at h, fun h => ?_⟩ B1.out
    have := H1.out.2 fun j s hs => ⟨(h.2.2 j s hs).1, (h.2.2 j s hs).2.2.1⟩
    cases this
   go_wp2_with fail
   refine (K2.out _ B1.out).mono ?_
   rintro e w2 ⟨r2, rfl, hr2, b2⟩
   have B2 : Hid (Below w.heap.size w w2) := B1.out.trans (b2.mono B1.out.size)
   have z2 : w2.cell? ⟨w.heap.size, 1, none⟩ = some (.slice oa ss.length cl) := (b2.cell (p := ⟨w.heap.size, 1, none⟩) s1).trans z1
   have H2 : Hid (r2 = true ↔ ∀ (j : Nat) s, ss[j]? = some s → waits s) := hr2
   clear b2 hr2
   cases r2
   ·go_wp2
    go_ret
    refine SaysB.mk false ⟨fun h => by simp at h, fun h => ?_⟩ B2.out
    have := H2.out.2 fun j s hs => (h.2.2 j s hs).2.1
    cases this
   go_wp2_with fail
   refine (K3.out _ B2.out (H2.out.1 (by trivial))).mono ?_
   rintro e w3 ⟨r3, rfl, hr3, b3⟩
   have B3 : Hid (Below w.heap.size w w3) := B2.out.trans (b3.mono B2.out.size)
   have H3 : Hid (r3 = true ↔ ∀ (j : Nat) s, ss[j]? = some s → lone ss j s) := hr3
   clear b3 hr3
   go_wp2
   go_ret
   refine SaysB.mk r3 ⟨fun h => ⟨hin, by omega, fun j s hs => ⟨(H1.out.1 (by trivial) j s hs).1, H2.out.1 (by trivial) j s hs, (H1.out.1 (by trivial) j s hs).2, H3.out.1 h j s hs⟩⟩, fun h => H3.out.2 fun j s hs => (h.2.2 j s hs).2.2.2⟩ B3.out
 ·have hcl : (now != clampI now 0 1000000) = true := by
   rw [bne_iff_ne]
   unfold clampI
   split <;> split <;> omega
  go_enter Tryz.func13, Tryz.ntmps13
  go_wp2
  go_quiet ((go_at_call 37; refine Calls.quiet_of_same (KC.out _)))
  go_wp2
  go_ret
  exact (SaysB.mk false ⟨fun h => by simp at h, fun h => (hin h.1).elim⟩ ((zBa _ _).trans (Joins.below_draws _ _ _)))
theorem implBenchOk_q (now : Int) (oa : Option Addr) (cl : Nat) (ss : List SV) (w : World) (hL : SLq w oa ss) (hm : ss.length ≤ 1048576) (hc : ss.length ≤ cl) (hcm : cl ≤ 9223372036854775807) :
  Calls Tryz.prog 13 #[.agg #[.int .i64 now, .slice oa ss.length cl]] w (SaysB (benchOk now ss) w) := by
 rcases hL with rfl | ⟨g, rfl, hL⟩
 ·refine implBenchOk_gen now oa cl [] w hm (fun W _ h0 h1 _ => (sincesHold_nil now oa cl W h0 h1).mono ?_) (fun W _ _ => (allWait_nil oa cl W).mono ?_) (fun W _ _ _ => (allOther_nil oa cl W).mono ?_)
  all_goals
   rintro e w' ⟨rfl, b⟩
   exact SaysB.mk true ⟨fun _ j s hs => by simp at hs, fun _ => rfl⟩ b
 ·exact implBenchOk_any now g cl ss w hL hm hc hcm
theorem specBenchOk_nil (now : Int) (oa : Option Addr) (cl : Nat) (w : World) :
  Calls Tryz.prog 20 #[.agg #[.int .i64 now, .slice oa 0 cl]] w (SaysB (benchOk now []) w) := by
 have KC : Hid (∀ W : World, Calls Tryz.prog 56 #[.int .i64 now, .int .i64 0, .int .i64 1000000] W fun e w' => e = .returned (.bool (inB now 0 1000000)) ∧ w' = W) := fun W => l1In_any now 0 1000000 W
 have HB : Hid (inB now 0 1000000 = true ↔ benchOk now []) := by
  constructor
  ·intro h
   simp only [inB, Bool.and_eq_true, decide_eq_true_eq] at h
   exact ⟨h, by simp, fun j s hs => by simp at hs⟩
  ·intro h
   simp only [inB, Bool.and_eq_true, decide_eq_true_eq]
   exact h.1
 obtain ⟨b, hb⟩ : ∃ b, inB now 0 1000000 = b := ⟨_, rfl⟩
 rw [hb] at KC HB
 clear hb
 go_enter Tryz.func20, Tryz.ntmps20
 cases b
 ·go_wp2_with (go_at_call 56; refine (KC.out _).mono ?_; rintro e w' ⟨rfl, rfl⟩)
  go_ret
  exact SaysB.mk false HB.out (zBa _ _)
 ·go_wp2_with (go_at_call 56; refine (KC.out _).mono ?_; rintro e w' ⟨rfl, rfl⟩)
  refine wp_loop_rounds 1 ?_
  rw [rounds_succ]
  go_wp2
  go_ret
  exact SaysB.mk true ⟨fun _ => HB.out.1 (by trivial), fun _ => rfl⟩ (zBa _ _)
theorem specBenchOk_q (now : Int) (oa : Option Addr) (cl : Nat) (ss : List SV) (w : World) (hL : SLq w oa ss) (hm : ss.length ≤ 1048576) (hc : ss.length ≤ cl) (hcm : cl ≤ 9223372036854775807) :
  Calls Tryz.prog 20 #[.agg #[.int .i64 now, .slice oa ss.length cl]] w (SaysB (benchOk now ss) w) := by
 rcases hL with rfl | ⟨g, rfl, hL⟩
 ·exact specBenchOk_nil now oa cl w
 ·exact specBenchOk_any now g cl ss w hL hm hc hcm
structure CAns (w : World) (lo g c : Nat) (ts : List SV) : Prop where
 own : w.ownsRow lo 39 3 (.slice (some ⟨g, 0, none⟩) ts.length c) ts.length (ts.flatMap SV.cells)
 forest : Forest w lo ts
theorem CAns.ans {w : World} {lo g c : Nat} {ts : List SV} (h : CAns w lo g c ts) : AnsB w lo g ts := ⟨(own_lt h.own g rfl).1, RowB.of_own h.own, h.forest⟩
theorem CAns.below {w w' : World} {lo g c : Nat} {ts : List SV} (h : CAns w lo g c ts) (hb : Below w.heap.size w w') : CAns w' lo g c ts := ⟨own_below h.own hb, h.forest.below hb⟩
theorem CAns.le {w : World} {lo lo' g c : Nat} {ts : List SV} (h : CAns w lo g c ts) (hl : lo' ≤ lo) : CAns w lo' g c ts := ⟨Joins.ownsRow_le h.own hl, h.forest.le hl⟩
theorem CAns.nil (w : World) (n base : Nat) (h : n = w.heap.size) (hb : base ≤ n) : CAns (w.alloc (.cells #[] 39)) base n 0 [] :=
 ⟨⟨rfl, Or.inr ⟨n, 0, #[], rfl, hb, heap_new _ _ _ h, Nat.le_refl _, by unfold maxLen; omega, rfl, rfl⟩⟩, Forest.nil _ _⟩
theorem three_new (w : World) (x0 x1 x2 : Value) : ∀ j u, [x0, x1, x2][j]? = some u → (w.alloc (.cells #[x0, x1, x2] 39)).cell? ((Addr.mk w.heap.size 0 none).add j) = some u := by
 intro j u hu
 rw [add_none, Nat.zero_add, zCr (heap_new _ _ _ rfl), ← Array.getElem?_toList]
 exact hu
theorem three_one (a : Option Addr) (n c : Nat) (since : Int) (bad : Bool) : ∀ u ∈ [Value.slice a n c, .int .i64 since, .bool bad], u.oneCell' = true := by
 intro u hu
 simp at hu
 rcases hu with rfl | rfl | rfl <;> rfl
theorem CAns.snoc {w w' : World} {lo g c g' c' : Nat} {ts : List SV} {t : SV} {L : Nat} (h : CAns w lo g c ts) (ht : SlotB w L t) (hn : t.blks.Nodup) (hl : lo ≤ L) (hlt : ∀ b ∈ ts.flatMap SV.blks, b < L)
  (ho : w'.ownsRow lo 39 3 (.slice (some ⟨g', 0, none⟩) (ts.length + 1) c') (ts.length + 1) (ts.flatMap SV.cells ++ t.cells)) (hg : w.grownBy w' (some g)) : CAns w' lo g' c' (ts ++ [t]) := by
 obtain ⟨cu, hcu⟩ := own_at h.own g rfl
 refine ⟨by rw [List.length_append, List.flatMap_append]; simpa using ho, (h.forest.snoc ht hn hl hlt).grown hg hcu (fun cur t' fr e => ?_)⟩
 cases e
 exact ⟨by decide, by decide⟩
theorem CAns.set {w : World} {lo g c r o : Nat} {ts : List SV} {cur : Array Value} {t : TypeId} (h : CAns w lo g c ts) (hr : w.heap[r]? = some (.cells cur t (0, 0))) (ht : t ≠ 39 ∧ t ≠ 5 ∧ t ≠ 29) (v : Value) : CAns (w.setCell ⟨r, o, none⟩ v) lo g c ts := by
 have nc : ∀ {b : Nat} {cu : Array Value} {t' : TypeId}, w.heap[b]? = some (.cells cu t' (0, 0)) → t ≠ t' → (w.setCell ⟨r, o, none⟩ v).heap[b]? = w.heap[b]? := fun {b cu t'} hb hn => zHs (fun e => by
  simp only at e
  rw [e, hr] at hb
  cases hb
  exact hn rfl)
 refine ⟨own_kept h.own fun b hb => ?_, h.forest.kept fun b hb => ?_⟩
 ·obtain ⟨cu, hc⟩ := own_at h.own b hb
  exact nc hc ht.1
 ·obtain ⟨_, _, cu, t', hc, ht'⟩ := h.forest.blk b hb
  rcases ht' with rfl | rfl
  ·exact nc hc ht.2.1
  ·exact nc hc ht.2.2
def CapS (w : World) (lo : Nat) (t : SV) : Prop := w.ownsRow lo 29 9 (.slice t.a t.xs.length t.c) t.xs.length (t.xs.flatMap RV.cells)
theorem CapS.kept {w w' : World} {lo : Nat} {t : SV} (h : CapS w lo t) (hk : ∀ (b : Nat) (cu : Array Value), w.heap[b]? = some (.cells cu 29 (0, 0)) → w'.heap[b]? = w.heap[b]?) : CapS w' lo t := own_kept h fun b hb => by
 obtain ⟨cu, hc⟩ := own_at h b hb
 exact hk b cu hc
theorem CapS.below {w w' : World} {lo : Nat} {t : SV} (h : CapS w lo t) (hb : Below w.heap.size w w') : CapS w' lo t := own_below h hb
theorem CapS.set {w : World} {lo r o : Nat} {u : SV} {cur : Array Value} {t : TypeId} (h : CapS w lo u) (hr : w.heap[r]? = some (.cells cur t (0, 0))) (ht : t ≠ 29) (v : Value) : CapS (w.setCell ⟨r, o, none⟩ v) lo u := h.kept fun b cu hb => zHs (fun e => by
 simp only at e
 rw [e, hr] at hb
 cases hb
 exact ht rfl)
theorem caps_snoc {w w' : World} {lo g : Nat} {cur : Array Value} {T : TypeId} {ts : List SV} {t : SV} (h : ∀ t ∈ ts, CapS w lo t) (ht : CapS w lo t) (hc : w.heap[g]? = some (.cells cur T (0, 0))) (hT : T ≠ 29) (hg : w.grownBy w' (some g)) : ∀ u ∈ ts ++ [t], CapS w' lo u := fun u hu => by
 have hu' : CapS w lo u := by
  rcases List.mem_append.1 hu with h1 | h1
  ·exact h u h1
  ·rw [List.mem_singleton.1 h1]; exact ht
 exact hu'.kept fun b cu hb => hg.block b (lt_of_block hb) (fun e => by
  cases e
  rw [hc] at hb
  cases hb
  exact hT rfl)
set_option maxHeartbeats 6400000 in
theorem l4Copy_full (now : Int) (oa : Option Addr) (cl : Nat) (ss : List SV) (w : World) (hL : SLq w oa ss) (hm : ss.length ≤ 1048576) :
  Calls Tryz.prog 30 #[.agg #[.int .i64 now, .slice oa ss.length cl]] w fun e w' => ∃ g c ts, e = .returned (.agg #[.int .i64 now, .slice (some ⟨g, 0, none⟩) ss.length c]) ∧ CAns w' w.heap.size g c ts ∧ ts.map SV.key = ss.map SV.key ∧ Below w.heap.size w w' ∧ (∀ t ∈ ts, CapS w' w.heap.size t) := by
 obtain ⟨ti, hti, hy0, hy1, hy2⟩ := info_parts Tryz.infoSlot
 have HL : Hid (SLq w oa ss) := hL
 clear hL
 have C0 : Hid (CAns (((w.alloc (.cells #[.int .i64 now, .slice oa ss.length cl] 27)).alloc (.cells #[.int .i64 0, .slice none 0 0] 27)).alloc (.cells #[] 39)) (w.heap.size + 2) (w.heap.size + 1 + 1) 0 []) := CAns.nil _ _ _ (by simp) (by omega)
 go_enter Tryz.func30, Tryz.ntmps30
 go_wp2
 go_loopw [4] (fun i wr => ∃ (k gq cq : Nat) (ts : List SV), k ≤ ss.length ∧ i = .int .i64 k ∧ Hid (ts.length = k) ∧ Hid (CAns wr (w.heap.size + 2) gq cq ts) ∧ Hid (ts.map SV.key = (ss.take k).map SV.key) ∧ Hid (wr.heap[w.heap.size]? = some (.cells #[.int .i64 now, .slice oa ss.length cl] 27 (0, 0))) ∧ Hid (wr.heap[w.heap.size + 1]? = some (.cells #[.int .i64 0, .slice none 0 0] 27 (0, 0))) ∧ Hid (wr.heap[w.heap.size + 1 + 1 + 1]? = some (.cells #[.int .i64 now, .slice (some ⟨gq, 0, none⟩) k cq] 27 (0, 0))) ∧ Hid (Below w.heap.size w wr) ∧ Hid (∀ t ∈ ts, CapS wr (w.heap.size + 2) t)) (fun i _ => ss.length - (intOf i).toNat)
 case atStart =>
  refine ⟨0, w.heap.size + 1 + 1, 0, [], by omega, rfl, rfl, C0.out.below (zBa _ _), rfl, ?_, ?_, heap_new _ _ _ (by simp), (Joins.below_alloc3 _ _ _ _).trans ((zBa _ _).mono (by simp; omega)), (fun t h => by cases h)⟩
  ·exact (zHa (show w.heap.size < (((w.alloc _).alloc _).alloc _).heap.size by simp; omega)).trans ((zHa (show w.heap.size < ((w.alloc _).alloc _).heap.size by simp; omega)).trans ((zHa (by simp)).trans (heap_new _ _ _ rfl)))
  ·exact (zHa (show w.heap.size + 1 < (((w.alloc _).alloc _).alloc _).heap.size by simp)).trans ((zHa (by simp)).trans (heap_new _ _ _ (by simp)))
 case round =>
  obtain ⟨k, gq, cq, ts, hk, rfl, HT, HC, HK, HA, HR, HO, HW, HP⟩ := hrel
  have hsz := HW.out.size
  have lo3 := lt_of_block HO.out
  have a1 : wr.cell? ⟨w.heap.size, 1, none⟩ = some (.slice oa ss.length cl) := zCr HA.out
  have a0 : wr.cell? ⟨w.heap.size, 0, none⟩ = some (.int .i64 now) := zCr HA.out
  have o0 : wr.cell? ⟨w.heap.size + 1 + 1 + 1, 0, none⟩ = some (.int .i64 now) := zCr HO.out
  have o1 : wr.cell? ⟨w.heap.size + 1 + 1 + 1, 1, none⟩ = some (.slice (some ⟨gq, 0, none⟩) k cq) := zCr HO.out
  have la := lt_of_block HA.out
  by_cases hlt : k < ss.length
  ·obtain ⟨x, hx⟩ := get_of_lt hlt
   have hi : (k : Int) < (ss.length : Int) := by omega
   have Lr := HL.out.below HW.out
   rcases Lr with h0 | ⟨gs, hgs, hL⟩
   ·rw [h0] at hlt; simp at hlt
   subst hgs
   have hgr := hL.lt
   obtain ⟨c0, c1, c2⟩ := hL.elem k x hx
   have HX : Hid (ss[k]? = some x) := hx
   have HXO : Hid (SOk wr x) := hL.each x (List.mem_of_getElem? hx)
   obtain ⟨gx, hxa, RX⟩ := HXO.out.at_
   have lgw : gs < w.heap.size := by
    rcases HL.out with h0 | ⟨g', hg', hL'⟩
    ·rw [h0] at hlt; simp at hlt
    ·cases hg'
     exact hL'.lt
   rw [hxa] at c0
   obtain ⟨nx, hnx⟩ : ∃ nx, x.xs.length = nx := ⟨_, rfl⟩
   have HNX : Hid (x.xs.length = nx) := hnx
   have hxl := HXO.out.len
   rw [hnx] at c0 hxl
   have KP : Hid (∀ W : World, Below wr.heap.size wr W → Calls Tryz.prog 66 #[.slice (some ⟨gx, 0, none⟩) nx x.c] W fun e w' => ∃ g c ys, e = .returned (.slice (some ⟨g, 0, none⟩) nx c) ∧ POut w' W.heap.size g c ys ∧ ys.map RV.key = x.xs.map RV.key ∧ Below W.heap.size W w') := fun W h => by
    have h1 := l4Pieces_any gx x.c x.xs W (RX.below h) (by omega)
    rw [hnx] at h1
    exact h1
   have RO : Hid (wr.ownsRow (w.heap.size + 2) 39 3 (.slice (some ⟨gq, 0, none⟩) k cq) k (ts.flatMap SV.cells)) := (by have h := HC.out.own; rw [HT.out] at h; exact h)
   have SK : Hid (∀ W : World, Below wr.heap.size wr W → (W.cell? ⟨w.heap.size, 1, none⟩ = some (.slice (some ⟨gs, 0, none⟩) ss.length cl) ∧ W.cell? ⟨w.heap.size + 1 + 1 + 1, 1, none⟩ = some (.slice (some ⟨gq, 0, none⟩) k cq) ∧ W.cell? ⟨gs, k * 3, none⟩ = some (.slice (some ⟨gx, 0, none⟩) nx x.c) ∧ W.cell? ⟨gs, k * 3 + 1, none⟩ = some (.int .i64 x.since) ∧ W.cell? ⟨gs, k * 3 + 2, none⟩ = some (.bool x.bad))) := fun W h => by
    have e : ∀ b o, b < wr.heap.size → W.cell? ⟨b, o, none⟩ = wr.cell? ⟨b, o, none⟩ := fun b o hb => h.cell (p := ⟨b, o, none⟩) hb
    exact ⟨(e _ _ la).trans a1, (e _ _ lo3).trans o1, (e _ _ hgr).trans c0, (e _ _ hgr).trans c1, (e _ _ hgr).trans c2⟩
   clear hx hL RX hnx hxa
   go_wp2
   refine wp_region_late (S := fun W => (W.cell? ⟨w.heap.size, 1, none⟩ = some (.slice (some ⟨gs, 0, none⟩) ss.length cl) ∧ W.cell? ⟨w.heap.size + 1 + 1 + 1, 1, none⟩ = some (.slice (some ⟨gq, 0, none⟩) k cq) ∧ W.cell? ⟨gs, k * 3, none⟩ = some (.slice (some ⟨gx, 0, none⟩) nx x.c) ∧ W.cell? ⟨gs, k * 3 + 1, none⟩ = some (.int .i64 x.since) ∧ W.cell? ⟨gs, k * 3 + 2, none⟩ = some (.bool x.bad))) (by kernel_rfl) (SK.out _ ((Below.refl _ wr).drew)) (fun hH => ?_)
   refine zLk 0 16 (.pointer (some ⟨w.heap.size + 1 + 1 + 1, 1, none⟩)) rfl (fun w hS => by go_simp) hH ?_; simp only [Act.put, zX, zY, zZ]
   refine zLk 1 17 (.slice (some ⟨gq, 0, none⟩) k cq) rfl (fun w hS => by obtain ⟨s0, s1, s2, s3, s4⟩ := hS; go_simp) hH ?_; simp only [Act.put, zX, zY, zZ]
   refine zLk 2 18 (.pointer (some ⟨w.heap.size, 1, none⟩)) rfl (fun w hS => by go_simp) hH ?_; simp only [Act.put, zX, zY, zZ]
   refine zLk 3 19 (.slice (some ⟨gs, 0, none⟩) ss.length cl) rfl (fun w hS => by obtain ⟨s0, s1, s2, s3, s4⟩ := hS; go_simp) hH ?_; simp only [Act.put, zX, zY, zZ]
   refine zLk 4 20 (.int .i64 k) rfl (fun w hS => by go_simp) hH ?_; simp only [Act.put, zX, zY, zZ]
   refine zLk 5 21 (.pointer (some ⟨gs, k * 3, none⟩)) rfl (fun w hS => by go_simp) hH ?_; simp only [Act.put, zX, zY, zZ]
   refine zLk 6 22 (.pointer (some ⟨gs, k * 3, none⟩)) rfl (fun w hS => by go_simp) hH ?_; simp only [Act.put, zX, zY, zZ]
   refine zLk 7 23 (.slice (some ⟨gx, 0, none⟩) nx x.c) rfl (fun w hS => by obtain ⟨s0, s1, s2, s3, s4⟩ := hS; go_simp) hH ?_; simp only [Act.put, zX, zY, zZ]
   refine zLk 9 25 (.pointer (some ⟨w.heap.size, 1, none⟩)) rfl (fun w hS => by go_simp) hH ?_; simp only [Act.put, zX, zY, zZ]
   refine zLk 10 26 (.slice (some ⟨gs, 0, none⟩) ss.length cl) rfl (fun w hS => by obtain ⟨s0, s1, s2, s3, s4⟩ := hS; go_simp) hH ?_; simp only [Act.put, zX, zY, zZ]
   refine zLk 11 27 (.int .i64 k) rfl (fun w hS => by go_simp) hH ?_; simp only [Act.put, zX, zY, zZ]
   refine zLk 12 28 (.pointer (some ⟨gs, k * 3, none⟩)) rfl (fun w hS => by go_simp) hH ?_; simp only [Act.put, zX, zY, zZ]
   refine zLk 13 29 (.pointer (some ⟨gs, k * 3 + 1, none⟩)) rfl (fun w hS => by go_simp) hH ?_; simp only [Act.put, zX, zY, zZ]
   refine zLk 14 30 (.int .i64 x.since) rfl (fun w hS => by obtain ⟨s0, s1, s2, s3, s4⟩ := hS; go_simp) hH ?_; simp only [Act.put, zX, zY, zZ]
   refine zLk 15 31 (.pointer (some ⟨w.heap.size, 1, none⟩)) rfl (fun w hS => by go_simp) hH ?_; simp only [Act.put, zX, zY, zZ]
   refine zLk 16 32 (.slice (some ⟨gs, 0, none⟩) ss.length cl) rfl (fun w hS => by obtain ⟨s0, s1, s2, s3, s4⟩ := hS; go_simp) hH ?_; simp only [Act.put, zX, zY, zZ]
   refine zLk 17 33 (.int .i64 k) rfl (fun w hS => by go_simp) hH ?_; simp only [Act.put, zX, zY, zZ]
   refine zLk 18 34 (.pointer (some ⟨gs, k * 3, none⟩)) rfl (fun w hS => by go_simp) hH ?_; simp only [Act.put, zX, zY, zZ]
   refine zLk 19 35 (.pointer (some ⟨gs, k * 3 + 2, none⟩)) rfl (fun w hS => by go_simp) hH ?_; simp only [Act.put, zX, zY, zZ]
   refine zLk 20 36 (.bool x.bad) rfl (fun w hS => by obtain ⟨s0, s1, s2, s3, s4⟩ := hS; go_simp) hH ?_; simp only [Act.put, zX, zY, zZ]
   refine late_one (i := 8) (by kernel_rfl) rfl (fun K hK => ?_)
   refine step_call rfl 24 rfl 66 #[.slice (some ⟨gx, 0, none⟩) nx x.c] (by go_simp) ((KP.out _ ((Below.refl _ wr).drew)).mono ?_)
   rintro e w1 ⟨gp, cp, ys, rfl, PO, hyk, b1⟩
   have b1' : Below wr.heap.size wr w1 := ((Below.refl _ wr).drew).trans (b1.mono (Nat.le_refl _))
   refine ⟨_, rfl, hK.out _ _ (Or.inr (SK.out _ b1')) (fun hH1 => ?_)⟩
   have hH := SK.out _ b1'
   clear hK K hH1
   simp only [Act.put, zX, zY, zZ]
   refine zLk 21 37 (.agg #[.slice (some ⟨gp, 0, none⟩) nx cp, .int .i64 x.since, .bool x.bad]) rfl (fun w hS => by go_simp) hH ?_; simp only [Act.put, zX, zY, zZ]
   refine late_one (i := 22) (by kernel_rfl) rfl (fun K hK => ?_)
   go_simp
   have b2 : Below wr.heap.size wr (w1.alloc (.cells #[.slice (some ⟨gp, 0, none⟩) nx cp, .int .i64 x.since, .bool x.bad] 39)) := b1'.trans ((zBa _ _).mono b1'.size)
   refine hK.out _ _ (Or.inr (SK.out _ b2)) (fun hH1 => ?_)
   have hH := SK.out _ b2
   clear hK K hH1
   have RO2 := own_below RO.out b2
   refine late_one (i := 23) (by kernel_rfl) rfl (fun K hK => ?_)
   refine step_append_d rfl (some 39) rfl (.tmp 17) (.tmp 38) 25 rfl (w.heap.size + 2) 39 ti _ 3 40 Tryz.underlying25 hti hy0 hy1 hy2 rfl (by decide) (.slice (some ⟨gq, 0, none⟩) k cq) k (ts.flatMap SV.cells) rfl RO2 ⟨w1.heap.size, 0, none⟩ 1 1 [.slice (some ⟨gp, 0, none⟩) nx cp, .int .i64 x.since, .bool x.bad] rfl rfl (three_new w1 _ _ _) (three_one _ _ _ _ _) (by unfold maxLen; omega) (by omega) (by have := b1'.size; simp; omega) ?_
   intro v3 w3 ho3 hg3 hn3
   obtain ⟨g3, c3, rfl⟩ : ∃ g3 c3, v3 = .slice (some ⟨g3, 0, none⟩) (k + 1) c3 := form_of ho3 (fun e => nomatch (hn3.1 e).1)
   have hyl : ys.length = nx := by have := congrArg List.length hyk; simp at this; rw [this, HNX.out]
   have hw1 : wr.heap.size ≤ w1.heap.size := b1'.size
   obtain ⟨tS, tN⟩ := (PO.below (zBa w1 (.cells #[.slice (some ⟨gp, 0, none⟩) nx cp, .int .i64 x.since, .bool x.bad] 39))).slot (by omega) x.since x.bad
   have C2 := HC.out.below b2
   have C3 : CAns w3 (w.heap.size + 2) g3 c3 (ts ++ [⟨some ⟨gp, 0, none⟩, cp, ys, x.since, x.bad⟩]) := C2.snoc tS tN (show w.heap.size + 2 ≤ wr.heap.size by omega) (fun b hb => (HC.out.forest.blk b hb).2.1) (by rw [HT.out]; show World.ownsRow _ _ _ _ _ _ (_ ++ [.slice (some ⟨gp, 0, none⟩) ys.length cp, .int .i64 x.since, .bool x.bad]); rw [hyl]; exact ho3) hg3
   have P3 : Hid (∀ t ∈ ts ++ [⟨some ⟨gp, 0, none⟩, cp, ys, x.since, x.bad⟩], CapS w3 (w.heap.size + 2) t) := by
    obtain ⟨cg, hcg⟩ := own_at C2.own gq rfl
    exact caps_snoc (fun t ht => (HP.out t ht).below b2) (Joins.ownsRow_le (own_below PO.own (zBa _ _)) (show w.heap.size + 2 ≤ wr.heap.size by omega)) hcg (by decide) hg3
   have gqn : ∀ (b : Nat) (cu : Array Value), wr.heap[b]? = some (.cells cu 27 (0, 0)) → w3.heap[b]? = wr.heap[b]? := fun b cu hb => by
    have h2 := b2.block _ (lt_of_block hb)
    refine (hg3.block b (Nat.lt_of_lt_of_le (lt_of_block hb) b2.size) (fun e => ?_)).trans h2
    cases e
    obtain ⟨cu', hc'⟩ := own_at HC.out.own gq rfl
    rw [hb] at hc'
    cases hc'
   have gsn : w3.heap[gs]? = wr.heap[gs]? := (hg3.block gs (Nat.lt_of_lt_of_le hgr b2.size) (fun e => by have h1 := (own_lt HC.out.own gq rfl).1; have h2 : gs = gq := Option.some.inj e; omega)).trans (b2.block _ hgr)
   have S3 : (w3.cell? ⟨w.heap.size, 1, none⟩ = some (.slice (some ⟨gs, 0, none⟩) ss.length cl) ∧ w3.cell? ⟨w.heap.size + 1 + 1 + 1, 1, none⟩ = some (.slice (some ⟨gq, 0, none⟩) k cq) ∧ w3.cell? ⟨gs, k * 3, none⟩ = some (.slice (some ⟨gx, 0, none⟩) nx x.c) ∧ w3.cell? ⟨gs, k * 3 + 1, none⟩ = some (.int .i64 x.since) ∧ w3.cell? ⟨gs, k * 3 + 2, none⟩ = some (.bool x.bad)) := by
    have eA : ∀ o, w3.cell? ⟨w.heap.size, o, none⟩ = wr.cell? ⟨w.heap.size, o, none⟩ := fun o => World.cell?_of_block (w := wr) (a := ⟨w.heap.size, o, none⟩) (gqn _ _ HA.out)
    have eO : ∀ o, w3.cell? ⟨w.heap.size + 1 + 1 + 1, o, none⟩ = wr.cell? ⟨w.heap.size + 1 + 1 + 1, o, none⟩ := fun o => World.cell?_of_block (w := wr) (a := ⟨w.heap.size + 1 + 1 + 1, o, none⟩) (gqn _ _ HO.out)
    have eS : ∀ o, w3.cell? ⟨gs, o, none⟩ = wr.cell? ⟨gs, o, none⟩ := fun o => World.cell?_of_block (w := wr) (a := ⟨gs, o, none⟩) gsn
    exact ⟨(eA _).trans a1, (eO _).trans o1, (eS _).trans c0, (eS _).trans c1, (eS _).trans c2⟩
   have A3 : Hid (w3.heap[w.heap.size]? = some (.cells #[.int .i64 now, .slice (some ⟨gs, 0, none⟩) ss.length cl] 27 (0, 0))) := (gqn _ _ HA.out).trans HA.out
   have R3 : Hid (w3.heap[w.heap.size + 1]? = some (.cells #[.int .i64 0, .slice none 0 0] 27 (0, 0))) := (gqn _ _ HR.out).trans HR.out
   have O3 : Hid (w3.heap[w.heap.size + 1 + 1 + 1]? = some (.cells #[.int .i64 now, .slice (some ⟨gq, 0, none⟩) k cq] 27 (0, 0))) := (gqn _ _ HO.out).trans HO.out
   have B3 : Hid (Below w.heap.size w w3) := (HW.out.trans (b2.mono hsz)).grown hg3 (Nat.le_trans hsz b2.size) (fun j hj => by have h1 := (own_lt HC.out.own gq rfl).1; have h2 : gq = j := Option.some.inj hj; omega)
   have HC3 : Hid (CAns w3 (w.heap.size + 2) g3 c3 (ts ++ [⟨some ⟨gp, 0, none⟩, cp, ys, x.since, x.bad⟩])) := C3
   have HYK : Hid (ys.map RV.key = x.xs.map RV.key) := hyk
   have q0 : w3.cell? ⟨w.heap.size + 1 + 1 + 1, 0, none⟩ = some (.int .i64 now) := zCr O3.out
   have q1 : w3.cell? ⟨w.heap.size + 1 + 1 + 1, 1, none⟩ = some (.slice (some ⟨gq, 0, none⟩) k cq) := zCr O3.out
   have fz3 : ∀ o, w3.frozen? ⟨w.heap.size + 1 + 1 + 1, o, none⟩ = false := fun o => zUf O3.out o
   refine hK.out _ _ (Or.inr S3) (fun hH1 => ?_)
   clear hK K hH1 hH
   have hH := S3
   simp only [Act.put, zX, zY, zZ]
   clear C3 C2 tS tN gqn gsn ho3 hg3 hn3 b1 b1' b2 RO2 PO hyk
   refine zLk 24 40 (.pointer (some ⟨w.heap.size + 1 + 1 + 1, 1, none⟩)) rfl (fun w hS => by go_simp) hH ?_; simp only [Act.put, zX, zY, zZ]
   refine late_one (i := 25) (by kernel_rfl) rfl (fun K hK => ?_)
   go_simp
   refine hK.out _ _ (Or.inl (by kernel_rfl)) (fun hH1 => ?_)
   clear hK K hH1
   refine late_done (by kernel_rfl) ?_ _
   clear hH S3 q0 q1 fz3 SK KP
   go_wp2
   go_roundw
   case rel =>
    refine ⟨k + 1, g3, c3, _, by omega, by go_num, (show _ = _ by rw [List.length_append, HT.out]; rfl), HC3.out.set O3.out ⟨by decide, by decide, by decide⟩ _, (show _ = _ by rw [List.map_append, HK.out, List.take_add_one, HX.out]; simp [SV.key, HYK.out]), (zHs (by simp only; omega)).trans A3.out, (zHs (by simp only; omega)).trans R3.out, (show _ = _ by rw [set_at O3.out]; rfl), Below.setCell B3.out (by simp only; omega) _, fun t ht => (P3.out t ht).set O3.out (by decide) _⟩
   case measure => simp [intOf]; omega
  ·obtain rfl : k = ss.length := by omega
   have r0 : wr.cell? ⟨w.heap.size + 1, 0, none⟩ = some (.int .i64 0) := zCr HR.out
   have r1 : wr.cell? ⟨w.heap.size + 1, 1, none⟩ = some (.slice none 0 0) := zCr HR.out
   have fz : ∀ o, wr.frozen? ⟨w.heap.size + 1, o, none⟩ = false := fun o => zUf HR.out o
   go_wp2
   refine bodyPost_ret (v := .agg #[.int .i64 now, .slice (some ⟨gq, 0, none⟩) ss.length cq]) (by simp [results, Tryz.results30, go_sem, r0, r1]) rfl ⟨gq, cq, ts, rfl, ?_, by rw [HK.out, List.take_length], Below.setCell (Below.setCell HW.out (by simp only; omega) _) (by simp only; omega) _, fun t ht => Joins.ownsRow_le (((HP.out t ht).set HR.out (by decide) _).set (set_at HR.out) (by decide) _) (by omega)⟩
   exact ((HC.out.set HR.out ⟨by decide, by decide, by decide⟩ _).set (set_at HR.out) ⟨by decide, by decide, by decide⟩ _).le (by omega)
theorem l4Copy_any (now : Int) (oa : Option Addr) (cl : Nat) (ss : List SV) (w : World) (hL : SLq w oa ss) (hm : ss.length ≤ 1048576) :
  Calls Tryz.prog 30 #[.agg #[.int .i64 now, .slice oa ss.length cl]] w fun e w' => ∃ g c ts, e = .returned (.agg #[.int .i64 now, .slice (some ⟨g, 0, none⟩) ss.length c]) ∧ CAns w' w.heap.size g c ts ∧ ts.map SV.key = ss.map SV.key ∧ Below w.heap.size w w' :=
 (l4Copy_full now oa cl ss w hL hm).mono fun _ _ ⟨g, c, ts, h1, h2, h3, h4, _⟩ => ⟨g, c, ts, h1, h2, h3, h4⟩
end Go.Proofs.YtjbkgmbakjnlhaaGreatDoor
