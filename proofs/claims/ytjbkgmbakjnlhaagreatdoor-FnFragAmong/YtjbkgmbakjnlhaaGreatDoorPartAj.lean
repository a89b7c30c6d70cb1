import Derived.Test.YtjbkgmbakjnlhaaGreatDoorPartAd
import Derived.Test.YtjbkgmbakjnlhaaGreatDoorSpecJ
import Derived.Test.YtjbkgmbakjnlhaaGreatDoorPartAe
import Derived.Deep.RegionHeld3
import Derived.Test.YtjbkgmbakjnlhaaGreatDoorPartAa
import Derived.Test.YtjbkgmbakjnlhaaGreatDoorPartAh
import Derived.WalkKit
import Derived.LaidEql
import Derived.Stop.Asserts
import Derived.RowKitTokens
namespace Go.Proofs.YtjbkgmbakjnlhaaGreatDoor
set_option maxRecDepth 100000
open Go.RowKit
theorem take_skipH {P : Program} {md : Region.Mode} {ops : Array Oper} {Q : Exit → Act → World → Prop} {S : World → Prop} {fuel : Nat} {listed : Array Bool} {a : Act} {w : World} {oi : Oper} (i : Nat) (d : Option Tmp) (hi : ops[i]? = some oi) (hd : oi.dst = d)
  (hs : Region.noSelect ops = true) (hf : Region.free md ops listed i = true) (hr : (Region.ready md ops listed).contains i = true)
  (hQ : ∀ c a w, Q (.panic c) (a.put d undef) w → Q (.panic c) a w) (hy : Region.wanted oi (yielded ops a.tmps) = false) (hS : S w)
  (h : wpAnyH P md ops Q S fuel (listed.setIfInBounds i true) (a.put d undef) w) : wpAnyH P md ops Q S (fuel + 1) listed a w := by
 subst hd
 exact wpAnyH_take hi hs hf hr hQ (Or.inr ⟨hy, rfl⟩) hS h
def alikeTo (s : SV) (p : RV) : Prop := ∃ x, s.xs[0]? = some x ∧ alikeB x.key p.key = true
end Go.Proofs.YtjbkgmbakjnlhaaGreatDoor
namespace Go.Proofs.YtjbkgmbakjnlhaaGreatDoor
set_option maxRecDepth 100000
open Go.RowKit
theorem benchOk_keys {now : Int} {ss ts : List SV} (h : ts.map SV.key = ss.map SV.key) (hb : benchOk now ss) : benchOk now ts := by
 have hl : ts.length = ss.length := by have := congrArg List.length h; simpa using this
 have ht : ∀ (j : Nat) t, ts[j]? = some t → ∃ s, ss[j]? = some s ∧ t.xs.map RV.key = s.xs.map RV.key ∧ t.since = s.since ∧ t.bad = s.bad := fun j t hj => by
  have e := congrArg (fun l => l[j]?) h
  simp only [List.getElem?_map, hj, Option.map_some] at e
  cases hs : ss[j]? with
  | none => rw [hs] at e; cases e
  | some s =>
   rw [hs] at e
   have e' : t.key = s.key := Option.some.inj e
   exact ⟨s, rfl, congrArg Prod.fst e', congrArg (fun t => t.2.1) e', congrArg (fun t => t.2.2) e'⟩
 have fa : ∀ {t s t' s' : SV}, t.xs.map RV.key = s.xs.map RV.key → t'.xs.map RV.key = s'.xs.map RV.key → firstAlike t t' → firstAlike s s' := fun {t s t' s'} h1 h2 ⟨x, y, hx, hy, ha⟩ => by
  have e1 := congrArg (fun l => l[0]?) h1
  have e2 := congrArg (fun l => l[0]?) h2
  simp only [List.getElem?_map, hx, hy, Option.map_some] at e1 e2
  cases hs : s.xs[0]? with
  | none => rw [hs] at e1; cases e1
  | some u =>
   cases hs' : s'.xs[0]? with
   | none => rw [hs'] at e2; cases e2
   | some v =>
    rw [hs] at e1
    rw [hs'] at e2
    have e1' : x.key = u.key := Option.some.inj e1
    have e2' : y.key = v.key := Option.some.inj e2
    exact ⟨u, v, hs, hs', by rw [← e1', ← e2']; exact ha⟩
 refine ⟨hb.1, by rw [hl]; exact hb.2.1, fun j t hj => ?_⟩
 obtain ⟨s, hs, hk, hsi, hbd⟩ := ht j t hj
 obtain ⟨g1, g2, g3, g4⟩ := hb.2.2 j s hs
 have hlen : t.xs.length = s.xs.length := by have := congrArg List.length hk; simpa using this
 refine ⟨by unfold sinceOk at g1 ⊢; rw [hsi]; exact g1, ⟨by rw [hk]; exact g2.1, fun h => by rw [hlen]; exact g2.2 (hbd ▸ h)⟩, fun r h0 hr => ?_, fun i r hi hr hf => ?_⟩
 ·obtain ⟨r', hr', _, hsi', _⟩ := ht (j - 1) r hr
  rw [hsi', hsi]
  exact g3 r' h0 hr'
 ·obtain ⟨r', hr', hk', _, _⟩ := ht i r hr
  exact g4 i r' hi hr' (fa hk' hk hf)
theorem benchOk_iff {now : Int} {ss ts : List SV} (h : ts.map SV.key = ss.map SV.key) : benchOk now ts ↔ benchOk now ss := ⟨benchOk_keys h.symm, benchOk_keys h⟩
def SLq (w : World) (oa : Option Addr) (ss : List SV) : Prop := ss = [] ∨ ∃ g, oa = some ⟨g, 0, none⟩ ∧ SL w g ss
theorem SLq.below {w w' : World} {oa : Option Addr} {ss : List SV} (h : SLq w oa ss) (hb : Below w.heap.size w w') : SLq w' oa ss := by
 rcases h with h | ⟨g, h1, h2⟩
 ·exact Or.inl h
 ·exact Or.inr ⟨g, h1, h2.below hb⟩
theorem sincesHold_nil (now : Int) (oa : Option Addr) (cl : Nat) (w : World) (h0 : 0 ≤ now) (h1 : now ≤ 1000000) :
  Calls Tryz.prog 38 #[.agg #[.int .i64 now, .slice oa 0 cl]] w fun e w' => e = .returned (.bool true) ∧ Below w.heap.size w w' := by
 by_cases hmx : now - 6 + 1 ≤ 0
 all_goals
  go_enter Tryz.func38, Tryz.ntmps38
  go_wp2
  refine wp_loop_rounds 1 ?_
  rw [rounds_succ]
  go_wp2
  go_ret
  exact ⟨rfl, zBa _ _⟩
theorem allWait_nil (oa : Option Addr) (cl : Nat) (w : World) :
  Calls Tryz.prog 39 #[.slice oa 0 cl] w fun e w' => e = .returned (.bool true) ∧ Below w.heap.size w w' := by
 go_enter Tryz.func39, Tryz.ntmps39
 go_wp2
 refine wp_loop_rounds 1 ?_
 rw [rounds_succ]
 go_wp2
 go_ret
 exact ⟨rfl, Below.refl _ _⟩
theorem allOther_nil (oa : Option Addr) (cl : Nat) (w : World) :
  Calls Tryz.prog 40 #[.slice oa 0 cl] w fun e w' => e = .returned (.bool true) ∧ Below w.heap.size w w' := by
 go_enter Tryz.func40, Tryz.ntmps40
 go_wp2
 refine wp_loop_rounds 1 ?_
 rw [rounds_succ]
 go_wp2
 go_ret
 exact ⟨rfl, Below.refl _ _⟩
set_option maxHeartbeats 6400000 in
theorem implBenchOk_gen (now : Int) (oa : Option Addr) (cl : Nat) (ss : List SV) (w : World) (hm : ss.length ≤ 1048576)
  (k1 : Hid (∀ W : World, Below w.heap.size w W → 0 ≤ now → now ≤ 1000000 → ss.length ≤ 4 → Calls Tryz.prog 38 #[.agg #[.int .i64 now, .slice oa ss.length cl]] W (SaysB (∀ (j : Nat) s, ss[j]? = some s → sinceOk now s ∧ rises ss j s) W)))
  (k2 : Hid (∀ W : World, Below w.heap.size w W → ss.length ≤ 4 → Calls Tryz.prog 39 #[.slice oa ss.length cl] W (SaysB (∀ (j : Nat) s, ss[j]? = some s → waits s) W)))
  (k3 : Hid (∀ W : World, Below w.heap.size w W → ss.length ≤ 4 → (∀ (j : Nat) s, ss[j]? = some s → waits s) → Calls Tryz.prog 40 #[.slice oa ss.length cl] W (SaysB (∀ (j : Nat) s, ss[j]? = some s → lone ss j s) W))) :
  Calls Tryz.prog 13 #[.agg #[.int .i64 now, .slice oa ss.length cl]] w (SaysB (benchOk now ss) w) := by
 have KC : Hid (∀ (W : World), Calls Tryz.prog 37 #[.int .i64 now, .int .i64 0, .int .i64 1000000] W fun e w' => e = .returned (.int .i64 (clampI now 0 1000000)) ∧ w' = W) := fun W => clamp_any now 0 1000000 W
 by_cases hin : 0 ≤ now ∧ now ≤ 1000000
 ·have hcl : clampI now 0 1000000 = now := by unfold clampI; split <;> split <;> omega
  rw [hcl] at KC
  have hne : (now != now) = false := by simp
  by_cases h4 : 4 < ss.length
  ·have h4' : (4 : Int) < (ss.length : Int) := by omega
   go_enter Tryz.func13, Tryz.ntmps13
   go_wp2
   go_quiet ((go_at_call 37; refine Calls.quiet_of_same (KC.out _)))
   go_wp2_with fail
   go_ret
   exact (SaysB.mk false ⟨fun h => by simp at h, fun h => by have := h.2.1; omega⟩ ((zBa _ _).trans (Joins.below_draws _ _ _)))
  ·have h4' : ¬ ((4 : Int) < (ss.length : Int)) := by omega
   have K1 : Hid (∀ W : World, Below w.heap.size w W → Calls Tryz.prog 38 #[.agg #[.int .i64 now, .slice oa ss.length cl]] W (SaysB (∀ (j : Nat) s, ss[j]? = some s → sinceOk now s ∧ rises ss j s) W)) := fun W h => k1.out W h hin.1 hin.2 (by omega)
   have K2 : Hid (∀ W : World, Below w.heap.size w W → Calls Tryz.prog 39 #[.slice oa ss.length cl] W (SaysB (∀ (j : Nat) s, ss[j]? = some s → waits s) W)) := fun W h => k2.out W h (by omega)
   have K3 : Hid (∀ W : World, Below w.heap.size w W → (∀ (j : Nat) s, ss[j]? = some s → waits s) → Calls Tryz.prog 40 #[.slice oa ss.length cl] W (SaysB (∀ (j : Nat) s, ss[j]? = some s → lone ss j s) W)) := fun W h hw => k3.out W h (by omega) hw
   go_enter Tryz.func13, Tryz.ntmps13
   go_wp2
   go_quiet ((go_at_call 37; refine Calls.quiet_of_same (KC.out _)))
   go_wp2_with fail
   have BQ : Hid (Below w.heap.size w ((w.alloc (.cells #[.int .i64 now, .slice oa ss.length cl] 27)).drewN nq)) := (zBa _ _).trans (Joins.below_draws _ _ _)
   have ZQ : Hid (((w.alloc (.cells #[.int .i64 now, .slice oa ss.length cl] 27)).drewN nq).cell? ⟨w.heap.size, 1, none⟩ = some (.slice oa ss.length cl)) := (show _ = _ by go_simp)
   refine (K1.out _ BQ.out).mono ?_
   rintro e w1 ⟨r1, rfl, hr1, b1⟩
   have sq : ((w.alloc (.cells #[.int .i64 now, .slice oa ss.length cl] 27)).drewN nq).heap.size = w.heap.size + 1 := by simp
   have B1 : Hid (Below w.heap.size w w1) := BQ.out.trans (b1.mono (by omega))
   have z1 : w1.cell? ⟨w.heap.size, 1, none⟩ = some (.slice oa ss.length cl) := (b1.cell (p := ⟨w.heap.size, 1, none⟩) (by simp only; omega)).trans ZQ.out
   have s1 : w.heap.size < w1.heap.size := by have := b1.size; omega
   have H1 : Hid (r1 = true ↔ ∀ (j : Nat) s, ss[j]? = some s → sinceOk now s ∧ rises ss j s) := hr1
   clear b1 sq ZQ BQ hr1
   cases r1
   ·go_wp2
    go_ret
    refine SaysB.mk false ⟨fun h => by simp at h, fun h => ?_⟩ B1.out
    have := H1.out.2 fun j s hs => ⟨(h.2.2 j s hs).1, (h.2.2 j s hs).2.2.1⟩
    cases this
   go_wp2_with fail
   refine (K2.out _ B1.out).mono ?_
   rintro e w2 ⟨r2, rfl, hr2, b2⟩
   have B2 : Hid (Below w.heap.size w w2) := B1.out.trans (b2.mono B1.out.size)
   have z2 : w2.cell? ⟨w.heap.size, 1, none⟩ = some (.slice oa ss.length cl) := (b2.cell (p := ⟨w.heap.size, 1, none⟩) s1).trans z1
   have H2 : Hid (r2 = true ↔ ∀ (j : Nat) s, ss[j]? = some s → waits s) := hr2
   clear b2 hr2
   cases r2
   ·go_wp2
    go_ret
    refine SaysB.mk false ⟨fun h => by simp at h, fun h => ?_⟩ B2.out
    have := H2.out.2 fun j s hs => (h.2.2 j s hs).2.1
    cases this
   go_wp2_with fail
   refine (K3.out _ B2.out (H2.out.1 (by trivial))).mono ?_
   rintro e w3 ⟨r3, rfl, hr3, b3⟩
   have B3 : Hid (Below w.heap.size w w3) := B2.out.trans (b3.mono B2.out.size)
   have H3 : Hid (r3 = true ↔ ∀ (j : Nat) s, ss[j]? = some s → lone ss j s) := hr3
   clear b3 hr3
   go_wp2
   go_ret
   refine SaysB.mk r3 ⟨fun h => ⟨hin, by omega, fun j s hs => ⟨(H1.out.1 (by trivial) j s hs).1, H2.out.1 (by trivial) j s hs, (H1.out.1 (by trivial) j s hs).2, H3.out.1 h j s hs⟩⟩, fun h => H3.out.2 fun j s hs => (h.2.2 j s hs).2.2.2⟩ B3.out
 ·have hcl : (now != clampI now 0 1000000) = true := by
   rw [bne_iff_ne]
   unfold clampI
   split <;> split <;> omega
  go_enter Tryz.func13, Tryz.ntmps13
  go_wp2
  go_quiet ((go_at_call 37; refine Calls.quiet_of_same (KC.out _)))
  go_wp2
  go_ret
  exact (SaysB.mk false ⟨fun h => by simp at h, fun h => (hin h.1).elim⟩ ((zBa _ _).trans (Joins.below_draws _ _ _)))
theorem implBenchOk_q (now : Int) (oa : Option Addr) (cl : Nat) (ss : List SV) (w : World) (hL : SLq w oa ss) (hm : ss.length ≤ 1048576) (hc : ss.length ≤ cl) (hcm : cl ≤ 9223372036854775807) :
  Calls Tryz.prog 13 #[.agg #[.int .i64 now, .slice oa ss.length cl]] w (SaysB (benchOk now ss) w) := by
 rcases hL with rfl | ⟨g, rfl, hL⟩
 ·refine implBenchOk_gen now oa cl [] w hm (fun W _ h0 h1 _ => (sincesHold_nil now oa cl W h0 h1).mono ?_) (fun W _ _ => (allWait_nil oa cl W).mono ?_) (fun W _ _ _ => (allOther_nil oa cl W).mono ?_)
  all_goals
   rintro e w' ⟨rfl, b⟩
   exact SaysB.mk true ⟨fun _ j s hs => by simp at hs, fun _ => rfl⟩ b
 ·exact implBenchOk_any now g cl ss w hL hm hc hcm
end Go.Proofs.YtjbkgmbakjnlhaaGreatDoor
namespace Go.Proofs.YtjbkgmbakjnlhaaGreatDoor
set_option maxRecDepth 100000
open Go.RowKit
end Go.Proofs.YtjbkgmbakjnlhaaGreatDoor
namespace Go.Proofs.YtjbkgmbakjnlhaaGreatDoor
set_option maxRecDepth 100000
open Go.RowKit
end Go.Proofs.YtjbkgmbakjnlhaaGreatDoor
namespace Go.Proofs.YtjbkgmbakjnlhaaGreatDoor
set_option maxRecDepth 100000
open Go.RowKit
end Go.Proofs.YtjbkgmbakjnlhaaGreatDoor
namespace Go.Proofs.YtjbkgmbakjnlhaaGreatDoor
set_option maxRecDepth 100000
open Go.RowKit
end Go.Proofs.YtjbkgmbakjnlhaaGreatDoor
namespace Go.Proofs.YtjbkgmbakjnlhaaGreatDoor
set_option maxRecDepth 100000
open Go.RowKit Go.Extern.Stop Go.Stop Go.Extern
theorem as_nil (t : Value) (w : World) :
  Calls Tryz.prog 63 #[.nilIface, t] w fun e w' => e = .returned (.bool false) ∧ w' = w := by
 go_enter Tryz.func63, Tryz.ntmps63
 go_wp2
 go_ret
 exact ⟨rfl, rfl⟩
theorem Tryz.valueOfP (t : Addr) (w : World) : (ReflectliteValue.unpack (.iface 110 (.pointer (some t)))).run Tryz.prog w
  = .ok (.agg #[.pointer (some ⟨1, 110, none⟩), .pointer (some ⟨w.heap.size, 0, none⟩), .int .u64 150]) (w.alloc (.cells #[.pointer (some t)] 110)) := by kernel_rfl
theorem Tryz.typeP (a : Addr) (w : World) : (ReflectliteValue.methodAny (ReflectliteValue.valueError "reflectlite.Value.Type" 0) (fun t _ _ _ => ReflectliteType.toType t) #[.agg #[.pointer (some ⟨1, 110, none⟩), .pointer (some a), .int .u64 150]]).run Tryz.prog w
  = .ok (.iface 166 (.agg #[.pointer (some ⟨1, 110, none⟩)])) w := by kernel_rfl
theorem Tryz.methodKind (h : Value) (w : World) : (Go.method 314 166 (.agg #[h]) "Kind").run Tryz.prog w = .ok (133, h) w := by kernel_rfl
theorem Tryz.kindP (w : World) : ((ReflectliteType.abiMethod fun t => (fun a : Nat => Value.int IntKind.u8 (a : Int)) <$> Rtype.kind t) #[.pointer (some ⟨1, 110, none⟩)]).run Tryz.prog w = .ok (.int .u8 22) w := by kernel_rfl
theorem Tryz.kindS (w : World) : ((ReflectliteType.abiMethod fun t => (fun a : Nat => Value.int IntKind.u8 (a : Int)) <$> Rtype.kind t) #[.pointer (some ⟨1, 96, none⟩)]).run Tryz.prog w = .ok (.int .u8 25) w := by kernel_rfl
theorem rlm (z : Sem Value) (f : TypeId → Addr → Nat → Nat → Sem Value) (v : Value) :
  ReflectliteValue.method z f #[v] = (do match ← ReflectliteValue.parts v with | none => z | some (t, a, fl) => f t a fl (fl % 32)) := rfl
theorem Tryz.partsP (a : Addr) (w : World) : (ReflectliteValue.parts (.agg #[.pointer (some ⟨1, 110, none⟩), .pointer (some a), .int .u64 150])).run Tryz.prog w = .ok (some (110, a, 150)) w := by kernel_rfl
theorem Tryz.isNilP (a p : Addr) (W : World) (ha : W.cell? a = some (.pointer (some p))) :
  (ReflectliteValue.method (ReflectliteValue.valueError "reflectlite.Value.IsNil" 0) ReflectliteValue.isNil #[.agg #[.pointer (some ⟨1, 110, none⟩), .pointer (some a), .int .u64 150]]).run Tryz.prog W = .ok (.bool false) W := by
 rw [rlm]
 simp only [Sem.run_bind, Tryz.partsP, Result.andThen]
 simp [ReflectliteValue.isNil, loadVar, isAgg, underlying, Tryz.underlying110, ha, Result.andThen]
theorem Tryz.methodElem (h : Value) (w : World) : (Go.method 314 166 (.agg #[h]) "Elem").run Tryz.prog w = .ok (148, .agg #[h]) w := by kernel_rfl
theorem Tryz.methodAssignableTo (h : Value) (w : World) : (Go.method 314 166 (.agg #[h]) "AssignableTo").run Tryz.prog w = .ok (146, .agg #[h]) w := by kernel_rfl
theorem Tryz.methodImplements (h : Value) (w : World) : (Go.method 314 166 (.agg #[h]) "Implements").run Tryz.prog w = .ok (149, .agg #[h]) w := by kernel_rfl
theorem Tryz.elemP (w : World) : (ReflectliteType.method ReflectliteType.elem #[.agg #[.pointer (some ⟨1, 110, none⟩)]]).run Tryz.prog w = .ok (.iface 166 (.agg #[.pointer (some ⟨1, 96, none⟩)])) w := by kernel_rfl
theorem Tryz.implementsS (w : World) : (ReflectliteType.relation "Implements" ReflectliteType.implements_ #[.agg #[.pointer (some ⟨1, 96, none⟩)], .iface 166 (.agg #[.pointer (some ⟨1, 56, none⟩)])]).run Tryz.prog w = .ok (.bool true) w := by kernel_rfl
theorem Tryz.typeOfS (v : Value) (w : World) : (ReflectliteType.typeOf #[.iface 96 v]).run Tryz.prog w = .ok (.iface 166 (.agg #[.pointer (some ⟨1, 96, none⟩)])) w := by kernel_rfl
theorem Tryz.assignableS (w : World) : (ReflectliteType.relation "AssignableTo" ReflectliteType.assignableTo #[.agg #[.pointer (some ⟨1, 96, none⟩)], .iface 166 (.agg #[.pointer (some ⟨1, 96, none⟩)])]).run Tryz.prog w = .ok (.bool true) w := by kernel_rfl
theorem Tryz.valueOfS (c : Int) (w : World) : (ReflectliteValue.unpack (.iface 96 (.agg #[.int .i64 c]))).run Tryz.prog w
  = .ok (.agg #[.pointer (some ⟨1, 96, none⟩), .pointer (some ⟨w.heap.size, 0, none⟩), .int .u64 153]) (w.alloc (.cells #[.int .i64 c] 96)) := by kernel_rfl
theorem Tryz.elemOfP (w : World) : (Rtype.elem? 110).run Tryz.prog w = .ok (some 96) w := by kernel_rfl
theorem Tryz.mkS (p : Addr) (w : World) : (ReflectliteValue.mk 96 p ReflectliteValue.flagAddr).run Tryz.prog w = .ok (.agg #[.pointer (some ⟨1, 96, none⟩), .pointer (some p), .int .u64 409]) w := by kernel_rfl
theorem Tryz.elemVP (a p : Addr) (W : World) (ha : W.cell? a = some (.pointer (some p))) :
  (ReflectliteValue.method (ReflectliteValue.valueError "reflectlite.Value.Elem" 0) ReflectliteValue.elem #[.agg #[.pointer (some ⟨1, 110, none⟩), .pointer (some a), .int .u64 150]]).run Tryz.prog W
   = .ok (.agg #[.pointer (some ⟨1, 96, none⟩), .pointer (some p), .int .u64 409]) W := by
 rw [rlm]
 simp only [Sem.run_bind, Tryz.partsP, Result.andThen]
 simp [ReflectliteValue.elem, loadVar, isAgg, underlying, Tryz.underlying110, ha, Result.andThen, Tryz.elemOfP, Tryz.mkS]
theorem Tryz.partsSa (a : Addr) (w : World) : (ReflectliteValue.parts (.agg #[.pointer (some ⟨1, 96, none⟩), .pointer (some a), .int .u64 409])).run Tryz.prog w = .ok (some (96, a, 409)) w := by kernel_rfl
theorem Tryz.partsS (a : Addr) (w : World) : (ReflectliteValue.parts (.agg #[.pointer (some ⟨1, 96, none⟩), .pointer (some a), .int .u64 153])).run Tryz.prog w = .ok (some (96, a, 153)) w := by kernel_rfl
theorem Tryz.directS (w : World) : (Rtype.directlyAssignable 96 96).run Tryz.prog w = .ok true w := by kernel_rfl
end Go.Proofs.YtjbkgmbakjnlhaaGreatDoor
namespace Go.Proofs.YtjbkgmbakjnlhaaGreatDoor
set_option maxRecDepth 100000
open Go.RowKit Go.Extern.Stop Go.Stop Go.Extern
theorem run_loadVar_agg1 {g : Nat} {v : Value} {W : World} (hb : W.cell? ⟨g, 0, none⟩ = some v) : (loadVar 96 ⟨g, 0, none⟩).run Tryz.prog W = .ok (.agg #[v]) W := by
 go_simp
theorem run_storeVar_agg1 {g : Nat} {c : Int} {old : Value} {W : World} (ht : W.cell? ⟨g, 0, none⟩ = some old) (hf : W.frozen? ⟨g, 0, none⟩ = false) : (storeVar 96 ⟨g, 0, none⟩ (.agg #[.int .i64 c])).run Tryz.prog W = .ok () (W.setCell ⟨g, 0, none⟩ (.int .i64 c)) := by
 go_simp
theorem rls (v x : Value) : ∃ (z1 : Sem Value) (z2 : TypeId → Addr → Nat → TypeId → Addr → Sem Value) (k : TypeId → Addr → TypeId → Value → Sem Value), ReflectliteValue.set #[v, x] = ReflectliteValue.parts v >>= fun p => ReflectliteValue.parts x >>= fun q =>
  match (p, q) with
  | (some (dst, a, fl), some (src, b, _)) => if (fl / ReflectliteValue.flagAddr % 2 == 0) = true then z2 dst a fl src b else loadVar src b >>= fun val => Rtype.directlyAssignable dst src >>= fun d => if d = true then storeVar dst a val >>= fun _ => pure (.tuple #[]) else k dst a src val
  | _ => z1 := ⟨_, _, _, rfl⟩
theorem Tryz.setS (tg bg : Nat) (c : Int) (old : Value) (W : World) (hb : W.cell? ⟨bg, 0, none⟩ = some (.int .i64 c)) (ht : W.cell? ⟨tg, 0, none⟩ = some old) (hf : W.frozen? ⟨tg, 0, none⟩ = false) :
  (ReflectliteValue.set #[.agg #[.pointer (some ⟨1, 96, none⟩), .pointer (some ⟨tg, 0, none⟩), .int .u64 409], .agg #[.pointer (some ⟨1, 96, none⟩), .pointer (some ⟨bg, 0, none⟩), .int .u64 153]]).run Tryz.prog W
   = .ok (.tuple #[]) (W.setCell ⟨tg, 0, none⟩ (.int .i64 c)) := by
 obtain ⟨z1, z2, k, e⟩ := rls (.agg #[.pointer (some ⟨1, 96, none⟩), .pointer (some ⟨tg, 0, none⟩), .int .u64 409]) (.agg #[.pointer (some ⟨1, 96, none⟩), .pointer (some ⟨bg, 0, none⟩), .int .u64 153])
 rw [e]
 clear e
 simp only [Sem.run_bind, Tryz.partsSa, Tryz.partsS, Result.andThen]
 rw [if_neg (by decide)]
 simp only [Sem.run_bind, run_loadVar_agg1 hb, Tryz.directS, Result.andThen, if_true, run_storeVar_agg1 ht hf]
 rfl
set_option maxHeartbeats 4000000 in
theorem as_hit (c : Int) (tg : Nat) (old : Value) (w : World) (hg : w.cell? ⟨0, 0, none⟩ = some (.iface 166 (.agg #[.pointer (some ⟨1, 56, none⟩)]))) (ht0 : w.cell? ⟨tg, 0, none⟩ = some old) (hf0 : w.frozen? ⟨tg, 0, none⟩ = false) :
  Calls Tryz.prog 63 #[.iface 96 (.agg #[.int .i64 c]), .iface 110 (.pointer (some ⟨tg, 0, none⟩))] w fun ev w' => ev = .returned (.bool true) ∧ w' = ((((w.alloc (.cells #[.pointer (some ⟨tg, 0, none⟩)] 110)).alloc (.cells #[.pointer (some ⟨1, 110, none⟩), .pointer (some ⟨w.heap.size, 0, none⟩), .int .u64 150] 132)).alloc (.cells #[.pointer (some ⟨1, 110, none⟩), .pointer (some ⟨w.heap.size, 0, none⟩), .int .u64 150] 132)).alloc (.cells #[.int .i64 c] 96)).setCell ⟨tg, 0, none⟩ (.int .i64 c) := by
 have h76 := @run_callFunc_extern Tryz.prog 87 _ (fun args => ReflectliteValue.unpack (args.getD 0 (.tuple #[]))) Tryz.func87 (by kernel_rfl) (by kernel_rfl) (by kernel_rfl) (by kernel_rfl)
 have h77 := @run_callFunc_extern Tryz.prog 88 _ (ReflectliteValue.methodAny (ReflectliteValue.valueError "reflectlite.Value.Type" 0) (fun t _ _ _ => ReflectliteType.toType t)) Tryz.func88 (by kernel_rfl) (by kernel_rfl) (by kernel_rfl) (by kernel_rfl)
 have h78 := @run_callFunc_extern Tryz.prog 89 _ (ReflectliteValue.method (ReflectliteValue.valueError "reflectlite.Value.IsNil" 0) ReflectliteValue.isNil) Tryz.func89 (by kernel_rfl) (by kernel_rfl) (by kernel_rfl) (by kernel_rfl)
 have hK := @run_callFunc_extern Tryz.prog 133 _ (ReflectliteType.abiMethod fun t => do pure (.int .u8 (← Rtype.kind t))) Tryz.func133 (by kernel_rfl) (by kernel_rfl) (by kernel_rfl) (by kernel_rfl)
 have hE := @run_callFunc_extern Tryz.prog 148 _ (ReflectliteType.method ReflectliteType.elem) Tryz.func148 (by kernel_rfl) (by kernel_rfl) (by kernel_rfl) (by kernel_rfl)
 have hI := @run_callFunc_extern Tryz.prog 149 _ (ReflectliteType.relation "Implements" ReflectliteType.implements_) Tryz.func149 (by kernel_rfl) (by kernel_rfl) (by kernel_rfl) (by kernel_rfl)
 have hT := @run_callFunc_extern Tryz.prog 104 _ ReflectliteType.typeOf Tryz.func104 (by kernel_rfl) (by kernel_rfl) (by kernel_rfl) (by kernel_rfl)
 have hA := @run_callFunc_extern Tryz.prog 146 _ (ReflectliteType.relation "AssignableTo" ReflectliteType.assignableTo) Tryz.func146 (by kernel_rfl) (by kernel_rfl) (by kernel_rfl) (by kernel_rfl)
 have hV := @run_callFunc_extern Tryz.prog 105 _ (ReflectliteValue.method (ReflectliteValue.valueError "reflectlite.Value.Elem" 0) ReflectliteValue.elem) Tryz.func105 (by kernel_rfl) (by kernel_rfl) (by kernel_rfl) (by kernel_rfl)
 have hS := @run_callFunc_extern Tryz.prog 106 _ ReflectliteValue.set Tryz.func106 (by kernel_rfl) (by kernel_rfl) (by kernel_rfl) (by kernel_rfl)
 have tO := Tryz.typeOfS
 have mA := Tryz.methodAssignableTo
 have aS := Tryz.assignableS
 have vS := Tryz.valueOfS
 have fP := Tryz.valueOfP
 have f7 := Tryz.typeP
 have mK := Tryz.methodKind
 have mE := Tryz.methodElem
 have mI := Tryz.methodImplements
 have kP := Tryz.kindP
 have kS := Tryz.kindS
 have eP := Tryz.elemP
 have iS := Tryz.implementsS
 have n8 := Tryz.isNilP ⟨w.heap.size, 0, none⟩ ⟨tg, 0, none⟩ ((w.alloc (.cells #[.pointer (some ⟨tg, 0, none⟩)] 110)).alloc (.cells #[.pointer (some ⟨1, 110, none⟩), .pointer (some ⟨w.heap.size, 0, none⟩), .int .u64 150] 132)) (by simp)
 have hlt : 0 < w.heap.size := by
  rcases Nat.eq_zero_or_pos w.heap.size with h0 | h
  ·simp [World.cell?, h0] at hg
  ·exact h
 have hg2 : ((w.alloc (.cells #[.pointer (some ⟨tg, 0, none⟩)] 110)).alloc (.cells #[.pointer (some ⟨1, 110, none⟩), .pointer (some ⟨w.heap.size, 0, none⟩), .int .u64 150] 132)).cell? ⟨0, 0, none⟩ = some (.iface 166 (.agg #[.pointer (some ⟨1, 56, none⟩)])) := by
  rw [World.cell?_alloc_lt _ _ ⟨0, 0, none⟩ (by simp), World.cell?_alloc_lt _ _ ⟨0, 0, none⟩ hlt]; exact hg
 have htl : tg < w.heap.size := World.block_lt_of_cell? w ⟨tg, 0, none⟩ ht0
 have el := Tryz.elemVP ⟨w.heap.size, 0, none⟩ ⟨tg, 0, none⟩ (((w.alloc (.cells #[.pointer (some ⟨tg, 0, none⟩)] 110)).alloc (.cells #[.pointer (some ⟨1, 110, none⟩), .pointer (some ⟨w.heap.size, 0, none⟩), .int .u64 150] 132)).alloc (.cells #[.pointer (some ⟨1, 110, none⟩), .pointer (some ⟨w.heap.size, 0, none⟩), .int .u64 150] 132)) (by rw [World.cell?_alloc_lt _ _ ⟨w.heap.size, 0, none⟩ (by simp; omega)]; simp)
 have st := Tryz.setS tg (w.heap.size + 1 + 1 + 1) c old ((((w.alloc (.cells #[.pointer (some ⟨tg, 0, none⟩)] 110)).alloc (.cells #[.pointer (some ⟨1, 110, none⟩), .pointer (some ⟨w.heap.size, 0, none⟩), .int .u64 150] 132)).alloc (.cells #[.pointer (some ⟨1, 110, none⟩), .pointer (some ⟨w.heap.size, 0, none⟩), .int .u64 150] 132)).alloc (.cells #[.int .i64 c] 96))
  (by rw [World.cell?_alloc_at _ _ _ _ (by simp)]; rfl)
  (by rw [World.cell?_alloc_lt _ _ ⟨tg, 0, none⟩ (by simp; omega), World.cell?_alloc_lt _ _ ⟨tg, 0, none⟩ (by simp; omega), World.cell?_alloc_lt _ _ ⟨tg, 0, none⟩ (by simp; omega), World.cell?_alloc_lt _ _ ⟨tg, 0, none⟩ htl]; exact ht0)
  (by rw [World.frozen?_alloc_old _ _ ⟨tg, 0, none⟩ (by simp; omega), World.frozen?_alloc_old _ _ ⟨tg, 0, none⟩ (by simp; omega), World.frozen?_alloc_old _ _ ⟨tg, 0, none⟩ (by simp; omega), World.frozen?_alloc_old _ _ ⟨tg, 0, none⟩ (Nat.ne_of_lt htl)]; exact hf0)
 go_enter Tryz.func63, Tryz.ntmps63
 go_wp2
 refine wp_loop_rounds 1 ?_
 rw [rounds_succ]
 go_wp2
 go_ret
 exact ⟨rfl, rfl⟩
def GoodErr (w : World) : Prop := w.cell? ⟨0, 0, none⟩ = some (.iface 166 (.agg #[.pointer (some ⟨1, 56, none⟩)]))
theorem GoodErr.lt {w : World} (h : GoodErr w) : 0 < w.heap.size := World.block_lt_of_cell? w ⟨0, 0, none⟩ h
theorem GoodErr.below {w w' : World} {B : Nat} (h : GoodErr w) (hb : Below B w w') (hB : 0 < B) : GoodErr w' := (hb.cell (p := ⟨0, 0, none⟩) hB).trans h
end Go.Proofs.YtjbkgmbakjnlhaaGreatDoor
namespace Go.Proofs.YtjbkgmbakjnlhaaGreatDoor
set_option maxRecDepth 100000
open Go.RowKit
def errVal (c : Int) : Value := if c = 0 then .nilIface else .iface 96 (.agg #[.int .i64 c])
theorem errVal_zero : errVal 0 = .nilIface := rfl
theorem errVal_ne {c : Int} (h : c ≠ 0) : errVal c = .iface 96 (.agg #[.int .i64 c]) := if_neg h
set_option maxHeartbeats 1600000 in
theorem codeOf_any (c : Int) (w : World) (hg : GoodErr w) : Calls Tryz.prog 27 #[errVal c] w fun e w' => e = .returned (.int .i64 c) ∧ Below w.heap.size w w' := by
 by_cases hc : c = 0
 ·subst hc
  rw [errVal_zero]
  clear hg
  go_enter Tryz.func27, Tryz.ntmps27
  go_wp2_with fail
  refine (as_nil _ _).mono ?_
  rintro e w1 ⟨rfl, rfl⟩
  go_wp2
  go_ret
  exact ⟨rfl, zBa _ _⟩
 ·rw [errVal_ne hc]
  have HG : Hid (GoodErr (w.alloc (.cells #[.int .i64 0] 96))) := hg.below (zBa _ _) hg.lt
  clear hg
  go_enter Tryz.func27, Tryz.ntmps27
  go_wp2_with fail
  refine (as_hit c w.heap.size (.int .i64 0) _ HG.out (by go_simp) (by go_simp)).mono ?_
  rintro e w1 ⟨rfl, rfl⟩
  clear HG
  go_wp2
  go_ret
  refine ⟨rfl, ?_⟩
  exact ((((((Below.refl _ _).alloc (Nat.le_refl _) _).alloc (by simp) _).alloc (by simp; omega) _).alloc (by simp; omega) _).alloc (by simp; omega) _)
end Go.Proofs.YtjbkgmbakjnlhaaGreatDoor
namespace Go.Proofs.YtjbkgmbakjnlhaaGreatDoor
set_option maxRecDepth 100000
open Go.RowKit
structure Ent where
 k : K4
 b : Nat
 s : SV
def k4cells (k : K4) : List Value := [.int .i64 k.1, .int .i64 k.2.1, .int .i64 k.2.2.1, .int .i64 k.2.2.2]
theorem k4cells_len (k : K4) : (k4cells k).length = 4 := rfl
def SV.box (s : SV) : Obj := .cells (scells (.slice s.a s.xs.length s.c) s.since s.bad) 39 (0, 0)
structure OpenB (w : World) (lo ob mb : Nat) (ov : Value) (now : Int) (es : List Ent) : Prop where
 box : w.heap[ob]? = some (.cells #[.int .i64 now, ov, .map (some mb)] 100 (0, 0))
 order : w.ownsRow lo 103 4 ov es.length (es.flatMap fun e => k4cells e.k)
 map_ : MapIs w mb (es.map fun e => (e.k, e.b))
 keys : (es.map Ent.k).Nodup
 slot : ∀ e ∈ es, w.heap[e.b]? = some e.s.box
 sbs : (es.map Ent.b).Nodup
 forest : Forest w lo (es.map Ent.s)
 lob : lo ≤ ob
 lmb : lo ≤ mb
 lsb : ∀ e ∈ es, lo ≤ e.b
theorem flatK_at : ∀ (ps : List Ent) (i j : Nat) (y : Ent), ps[i]? = some y → j < 4 → (ps.flatMap fun e => k4cells e.k)[i * 4 + j]? = (k4cells y.k)[j]?
 | [], i, j, y, hi, _ => by simp at hi
 | x :: r, 0, j, y, hi, hj => by
  simp at hi
  subst hi
  rw [List.flatMap_cons, Nat.zero_mul, Nat.zero_add, List.getElem?_append_left (by rw [k4cells_len]; exact hj)]
 | x :: r, i + 1, j, y, hi, hj => by
  rw [List.flatMap_cons, List.getElem?_append_right (by rw [k4cells_len]; omega), k4cells_len, show (i + 1) * 4 + j - 4 = i * 4 + j by omega]
  exact flatK_at r i j y (by simpa using hi) hj
theorem k_one (k : K4) : ∀ u ∈ k4cells k, u.oneCell' = true := by
 intro u hu
 simp [k4cells] at hu
 rcases hu with rfl | rfl | rfl | rfl <;> rfl
theorem OpenB.kept {w w' : World} {lo ob mb : Nat} {ov : Value} {now : Int} {es : List Ent} (h : OpenB w lo ob mb ov now es)
  (h1 : w'.heap[ob]? = w.heap[ob]?) (h2 : w'.heap[mb]? = w.heap[mb]?) (h3 : ∀ k, ov.ownBlock = some k → w'.heap[k]? = w.heap[k]?) (h4 : ∀ e ∈ es, w'.heap[e.b]? = w.heap[e.b]?) (h5 : ∀ b ∈ (es.map Ent.s).flatMap SV.blks, w'.heap[b]? = w.heap[b]?) : OpenB w' lo ob mb ov now es :=
 ⟨h1.trans h.box, own_kept h.order h3, h.map_.kept h2, h.keys, fun e he => (h4 e he).trans (h.slot e he), h.sbs, h.forest.kept h5, h.lob, h.lmb, h.lsb⟩
theorem OpenB.below {w w' : World} {lo ob mb : Nat} {ov : Value} {now : Int} {es : List Ent} (h : OpenB w lo ob mb ov now es) (hb : Below w.heap.size w w') : OpenB w' lo ob mb ov now es :=
 h.kept (hb.block _ (lt_of_block h.box)) (hb.block _ h.map_.lt) (fun k hk => hb.block _ (own_lt h.order k hk).2) (fun e he => hb.block _ (lt_of_block (h.slot e he))) (fun b hb' => hb.block _ (h.forest.blk b hb').2.1)
theorem OpenB.order_at {w : World} {lo ob mb : Nat} {ov : Value} {now : Int} {es : List Ent} (h : OpenB w lo ob mb ov now es) : ∀ k, ov.ownBlock = some k → ∃ cur, w.heap[k]? = some (.cells cur 103 (0, 0)) := by
 intro k hk
 rcases h.order.2 with ⟨e, _⟩ | ⟨g, cap, cur, e, _, hh, _⟩
 ·rw [e] at hk; cases hk
 ·rw [e] at hk
  cases hk
  exact ⟨cur, hh⟩
end Go.Proofs.YtjbkgmbakjnlhaaGreatDoor
