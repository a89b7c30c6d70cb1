import Derived.Test.YtjbkgmbakjnlhaaGreatDoorPartAf
import Derived.Test.YtjbkgmbakjnlhaaGreatDoorSpecJ
import Derived.Deep.RegionHeld3
import Derived.Test.YtjbkgmbakjnlhaaGreatDoorPartAa
namespace Go.Proofs.YtjbkgmbakjnlhaaGreatDoor
set_option maxRecDepth 100000
open Go.RowKit
theorem take_skipH {P : Program} {md : Region.Mode} {ops : Array Oper} {Q : Exit → Act → World → Prop} {S : World → Prop} {fuel : Nat} {listed : Array Bool} {a : Act} {w : World} {oi : Oper} (i : Nat) (d : Option Tmp) (hi : ops[i]? = some oi) (hd : oi.dst = d)
  (hs : Region.noSelect ops = true) (hf : Region.free md ops listed i = true) (hr : (Region.ready md ops listed).contains i = true)
  (hQ : ∀ c a w, Q (.panic c) (a.put d undef) w → Q (.panic c) a w) (hy : Region.wanted oi (yielded ops a.tmps) = false) (hS : S w)
  (h : wpAnyH P md ops Q S fuel (listed.setIfInBounds i true) (a.put d undef) w) : wpAnyH P md ops Q S (fuel + 1) listed a w := by
 subst hd
 exact wpAnyH_take hi hs hf hr hQ (Or.inr ⟨hy, rfl⟩) hS h
theorem JoinPost.codeS {L : List PB} {w w' : World} {e : Ending} (h : JoinPost L w e w') : ∃ (p : Pk) (a : Option Addr) (n c : Nat), e = .returned (.tuple #[p.val (.slice a n c), .int .i64 (joinL L).1]) ∧ Below w.heap.size w w' := by
 obtain ⟨a, c, h1, _, h3⟩ := h
 exact ⟨_, a, _, c, h1, h3⟩
set_option maxHeartbeats 6400000 in
theorem l4SlotOk_any (now : Int) (v : Value) (x : SV) (w : World) (hO : SOk w x) (h0 : 0 ≤ now) (h1 : now ≤ 1000000) :
  Calls Tryz.prog 57 #[.agg #[.int .i64 now, v], .agg #[.slice x.a x.xs.length x.c, .int .i64 x.since, .bool x.bad]] w (SaysB (sinceOk now x ∧ waits x) w) := by
 have KJ : Hid (∀ W : World, Below w.heap.size w W → Calls Tryz.prog 53 #[.slice x.a x.xs.length x.c] W fun e w' => ∃ (p : Pk) (a : Option Addr) (n c : Nat), e = .returned (.tuple #[p.val (.slice a n c), .int .i64 (joinL (x.xs.map RV.key)).1]) ∧ Below W.heap.size W w') := fun W h => by
  obtain ⟨gL, h1, h2⟩ := hO.at_
  rw [h1]
  exact (specJoin_any gL x.c x.xs W (h2.below h) (by have := hO.len; omega)).mono fun e w' h => h.codeS
 obtain ⟨jc, hjc⟩ : ∃ jc, (joinL (x.xs.map RV.key)).1 = jc := ⟨_, rfl⟩
 rw [hjc] at KJ
 have HJ : Hid ((joinL (x.xs.map RV.key)).1 = jc) := hjc
 have hxl := hO.len
 clear hjc hO
 by_cases ha : now < x.since
 ·go_enter Tryz.func57, Tryz.ntmps57
  go_wp2
  go_ret
  exact SaysB.mk false ⟨fun h => by simp at h, fun h => by have := h.1; unfold sinceOk at this; omega⟩ (Joins.below_alloc2 _ _ _)
 by_cases hb : x.since < 0
 ·go_enter Tryz.func57, Tryz.ntmps57
  go_wp2
  go_ret
  exact SaysB.mk false ⟨fun h => by simp at h, fun h => by have := h.1; unfold sinceOk at this; omega⟩ (Joins.below_alloc2 _ _ _)
 by_cases hc : x.since ≤ now - 6
 ·go_enter Tryz.func57, Tryz.ntmps57
  go_wp2
  go_ret
  exact SaysB.mk false ⟨fun h => by simp at h, fun h => by have := h.1; unfold sinceOk at this; omega⟩ (Joins.below_alloc2 _ _ _)
 have HS : Hid (sinceOk now x) := ⟨by omega, by omega, by omega⟩
 go_enter Tryz.func57, Tryz.ntmps57
 go_wp2_with fail
 refine (KJ.out _ (Joins.below_alloc2 _ _ _)).mono ?_
 rintro e w1 ⟨p, ja, jn, jl, rfl, b1⟩
 unfold Pk.val
 obtain ⟨hc1, hf1⟩ := bcell b1
 have z0 : w1.cell? ⟨w.heap.size + 1, 0, none⟩ = some (.slice x.a x.xs.length x.c) := (hc1 _ _ (by simp)).trans (by go_simp)
 have z2 : w1.cell? ⟨w.heap.size + 1, 2, none⟩ = some (.bool x.bad) := (hc1 _ _ (by simp)).trans (by go_simp)
 have s1 : w.heap.size + 1 < w1.heap.size := by have := b1.size; simp at this; omega
 have B1 : Hid (Below w.heap.size w w1) := (Joins.below_alloc2 _ _ _).trans (b1.mono (by simp; omega))
 clear hc1 hf1 b1 KJ
 by_cases h3 : jc = 3
 ·subst h3
  obtain ⟨bd, hbd⟩ : ∃ bd, x.bad = bd := ⟨_, rfl⟩
  rw [hbd] at z2
  have HD : Hid (x.bad = bd) := hbd
  clear hbd
  cases bd
  ·go_wp2
   go_ret
   exact SaysB.mk true ⟨fun _ => ⟨HS.out, HJ.out, fun h => by rw [HD.out] at h; cases h⟩, fun _ => rfl⟩ (B1.out.alloc B1.out.size _)
  ·by_cases h1 : x.xs.length = 1
   ·have h1' : ((x.xs.length : Int) == 1) = true := by simp [h1]
    have H1 : Hid (x.xs.length = 1) := h1
    clear h1
    go_wp2
    go_ret
    exact SaysB.mk true ⟨fun _ => ⟨HS.out, HJ.out, fun _ => H1.out⟩, fun _ => rfl⟩ (B1.out.alloc B1.out.size _)
   ·have h1' : ((x.xs.length : Int) == 1) = false := by rw [beq_eq_false_iff_ne]; omega
    go_wp2
    go_ret
    exact SaysB.mk false ⟨fun h => by simp at h, fun h => (h1 (h.2.2 HD.out)).elim⟩ (B1.out.alloc B1.out.size _)
 ·have h3' : (jc == 3) = false := by simp [h3]
  go_wp2
  go_ret
  exact SaysB.mk false ⟨fun h => by simp at h, fun h => (h3 (HJ.out.symm.trans h.2.1)).elim⟩ (B1.out.alloc B1.out.size _)
def alikeTo (s : SV) (p : RV) : Prop := ∃ x, s.xs[0]? = some x ∧ alikeB x.key p.key = true
def SlotPost (ss : List SV) (k : Nat) (p : RV) (w : World) (e : Ending) (w' : World) : Prop :=
 ∃ r : Int, e = .returned (.int .i64 r) ∧ ((r = -1 ∧ ∀ (j : Nat) s, j < k → ss[j]? = some s → ¬ alikeTo s p) ∨ (∃ (i : Nat) (s : SV), r = (i : Int) ∧ i < k ∧ ss[i]? = some s ∧ alikeTo s p ∧ ∀ (j : Nat) s, j < i → ss[j]? = some s → ¬ alikeTo s p)) ∧ Below w.heap.size w w'
set_option maxHeartbeats 6400000 in
theorem l4Slot_any (g cl k : Nat) (ss : List SV) (p : RV) (w : World) (hL : SL w g ss) (hk : k ≤ ss.length) (hm : ss.length ≤ 1048576) (hp : p.zs.length ≤ 1048576) (hW : ∀ (j : Nat) s, j < k → ss[j]? = some s → ∃ x, s.xs[0]? = some x) :
  Calls Tryz.prog 34 #[.slice (some ⟨g, 0, none⟩) k cl, .agg #[.int .i64 p.p.src, .int .i64 p.p.dst, .int .i64 p.p.kind, .int .i64 p.p.id, .int .i64 p.p.hops, .bool p.p.whole, .int .i64 p.p.off, .bool p.p.more, .slice p.a p.zs.length p.c]] w (SlotPost ss k p w) := by
 have HL : Hid (SL w g ss) := hL
 have HW : Hid (∀ (j : Nat) s, j < k → ss[j]? = some s → ∃ x, s.xs[0]? = some x) := hW
 clear hL hW
 go_enter Tryz.func34, Tryz.ntmps34
 go_wp2
 go_loopw [5] (fun i wr => ∃ j : Nat, j ≤ k ∧ i = .int .i64 j ∧ Hid (∀ (i : Nat) r, i < j → ss[i]? = some r → ¬ alikeTo r p) ∧ Hid (Below (w.heap.size + 1) (w.alloc (.cells (pcells p.p (.slice p.a p.zs.length p.c)) 29)) wr)) (fun i _ => k - (intOf i).toNat)
 case atStart => exact ⟨0, by omega, rfl, fun j s h => by omega, Below.refl _ _⟩
 case round =>
  obtain ⟨j, hj, rfl, HA, HB⟩ := hrel
  have HB' : Hid (Below w.heap.size w wr) := (zBa _ _).trans (HB.out.mono (by omega))
  by_cases hjk : j < k
  ·have hjk' : (j : Int) < (k : Int) := by omega
   obtain ⟨y, hy⟩ := get_of_lt (show j < ss.length by omega)
   have Lr := HL.out.below HB'.out
   obtain ⟨d0, d1, d2⟩ := Lr.elem j y hy
   have hgr := Lr.lt
   have HY : Hid (ss[j]? = some y) := hy
   have HOY := Lr.each y (List.mem_of_getElem? hy)
   obtain ⟨gy, hya, RY⟩ := HOY.at_
   rw [hya] at d0
   obtain ⟨q, hq⟩ := HW.out j y hjk hy
   have HQ : Hid (y.xs[0]? = some q) := hq
   have hyl := HOY.len
   obtain ⟨ny, hny⟩ : ∃ ny, y.xs.length = ny := ⟨_, rfl⟩
   have hy0 : (0 : Int) < (ny : Int) := by
    rw [List.getElem?_eq_some_iff] at hq
    have := hq.1
    omega
   rw [hny] at d0 hyl
   have hny0 : 0 < ny := by omega
   obtain ⟨q0, q1, q2, q3, q4, q5, q6, q7, q8⟩ := (RY.elem 0 q hq).head
   have XP : wr.heap[w.heap.size]? = some (.cells (pcells p.p (.slice p.a p.zs.length p.c)) 29 (0, 0)) := (HB.out.block _ (by omega)).trans (heap_new _ _ _ rfl)
   obtain ⟨lx, p0, p1, p2, p3, p4, p5, p6, p7, p8⟩ := Boxed.of_block XP
   have lgy := RY.lt
   have lq := (RY.each q (List.mem_of_getElem? hq)).len
   have KA : Hid (∀ W : World, Calls Tryz.prog 16 #[.agg #[.int .i64 q.p.src, .int .i64 q.p.dst, .int .i64 q.p.kind, .int .i64 q.p.id, .int .i64 q.p.hops, .bool q.p.whole, .int .i64 q.p.off, .bool q.p.more, .slice q.a q.zs.length q.c], .agg #[.int .i64 p.p.src, .int .i64 p.p.dst, .int .i64 p.p.kind, .int .i64 p.p.id, .int .i64 p.p.hops, .bool p.p.whole, .int .i64 p.p.off, .bool p.p.more, .slice p.a p.zs.length p.c]] W fun e w' => e = .returned (.bool (alikeB (q.p, q.zs) (p.p, p.zs))) ∧ Below W.heap.size W w') := fun W => specAlike_any q.p p.p q.a p.a q.zs p.zs q.c p.c W lq hp
   obtain ⟨al, hal⟩ : ∃ al, alikeB (q.p, q.zs) (p.p, p.zs) = al := ⟨_, rfl⟩
   rw [hal] at KA
   have HAL : Hid (alikeB (q.p, q.zs) (p.p, p.zs) = al) := hal
   have HF : Hid (al = true ↔ alikeTo y p) := by
    constructor
    ·intro h
     exact ⟨q, HQ.out, HAL.out.trans h⟩
    ·rintro ⟨u, h1, h3⟩
     rw [HQ.out] at h1
     obtain rfl := Option.some.inj h1
     exact HAL.out.symm.trans h3
   clear hal hq hy Lr HOY RY hny XP
   go_wp2
   go_region_held3 (fun w' => w'.cell? ⟨g, j * 3, none⟩ = some (.slice (some ⟨gy, 0, none⟩) ny y.c) ∧ w'.cell? ⟨w.heap.size, 0, none⟩ = some (.int .i64 p.p.src) ∧ w'.cell? ⟨w.heap.size, 1, none⟩ = some (.int .i64 p.p.dst) ∧ w'.cell? ⟨w.heap.size, 2, none⟩ = some (.int .i64 p.p.kind) ∧ w'.cell? ⟨w.heap.size, 3, none⟩ = some (.int .i64 p.p.id) ∧ w'.cell? ⟨w.heap.size, 4, none⟩ = some (.int .i64 p.p.hops) ∧ w'.cell? ⟨w.heap.size, 5, none⟩ = some (.bool p.p.whole) ∧ w'.cell? ⟨w.heap.size, 6, none⟩ = some (.int .i64 p.p.off) ∧ w'.cell? ⟨w.heap.size, 7, none⟩ = some (.bool p.p.more) ∧ w'.cell? ⟨w.heap.size, 8, none⟩ = some (.slice p.a p.zs.length p.c) ∧ w'.cell? ⟨gy, 0, none⟩ = some (.int .i64 q.p.src) ∧ w'.cell? ⟨gy, 1, none⟩ = some (.int .i64 q.p.dst) ∧ w'.cell? ⟨gy, 2, none⟩ = some (.int .i64 q.p.kind) ∧ w'.cell? ⟨gy, 3, none⟩ = some (.int .i64 q.p.id) ∧ w'.cell? ⟨gy, 4, none⟩ = some (.int .i64 q.p.hops) ∧ w'.cell? ⟨gy, 5, none⟩ = some (.bool q.p.whole) ∧ w'.cell? ⟨gy, 6, none⟩ = some (.int .i64 q.p.off) ∧ w'.cell? ⟨gy, 7, none⟩ = some (.bool q.p.more) ∧ w'.cell? ⟨gy, 8, none⟩ = some (.slice q.a q.zs.length q.c)) (go_keep)
    (first
     | (go_at_call 16; (with_reducible refine (KA.out _).mono ?_); rintro e w1 ⟨rfl, b1⟩; have hc1 : ∀ b o, b < wr.heap.size → w1.cell? ⟨b, o, none⟩ = wr.cell? ⟨b, o, none⟩ := fun b o h => b1.cell (p := ⟨b, o, none⟩) (by simpa using h)))
   have B1 : Hid (Below (w.heap.size + 1) (w.alloc (.cells (pcells p.p (.slice p.a p.zs.length p.c)) 29)) w1) := (HB.out.drew).trans (b1.mono (by simp; omega))
   clear hc1 b1
   cases al
   ·go_wp2
    go_roundw
    case rel =>
     refine ⟨j + 1, by omega, by go_num, fun i r hi hr => ?_, B1.out⟩
     rcases Nat.lt_or_ge i j with h' | h'
     ·exact HA.out i r h' hr
     ·obtain rfl : i = j := by omega
      rw [HY.out] at hr
      obtain rfl := Option.some.inj hr
      exact fun h => by have := HF.out.2 h; cases this
    case measure => simp [intOf]; omega
   ·go_wp2
    go_ret
    exact ⟨(j : Int), rfl, Or.inr ⟨j, y, rfl, hjk, HY.out, HF.out.1 (by trivial), fun i r h hr => HA.out i r h hr⟩, (zBa _ _).trans (B1.out.mono (by omega))⟩
  ·have hjk' : ¬ ((j : Int) < (k : Int)) := by omega
   go_wp2
   go_ret
   exact ⟨-1, rfl, Or.inl ⟨rfl, fun i r h hr => HA.out i r (by omega) hr⟩, HB'.out⟩
set_option maxHeartbeats 6400000 in
theorem specBenchOk_any (now : Int) (g cl : Nat) (ss : List SV) (w : World) (hL : SL w g ss) (hm : ss.length ≤ 1048576) (hc : ss.length ≤ cl) (hcm : cl ≤ 9223372036854775807) :
  Calls Tryz.prog 20 #[.agg #[.int .i64 now, .slice (some ⟨g, 0, none⟩) ss.length cl]] w (SaysB (benchOk now ss) w) := by
 have HL : Hid (SL w g ss) := hL
 clear hL
 have KC : Hid (∀ (W : World), Calls Tryz.prog 56 #[.int .i64 now, .int .i64 0, .int .i64 1000000] W fun e w' => e = .returned (.bool (inB now 0 1000000)) ∧ w' = W) := fun W => l1In_any now 0 1000000 W
 by_cases hin : 0 ≤ now ∧ now ≤ 1000000
 ·have hcl : inB now 0 1000000 = true := by unfold inB; simp [hin.1, hin.2]
  rw [hcl] at KC
  by_cases h4 : 4 < ss.length
  ·have h4' : (4 : Int) < (ss.length : Int) := by omega
   go_enter Tryz.func20, Tryz.ntmps20
   go_wp2_with (go_at_call 56; (with_reducible refine (KC.out _).mono ?_); rintro e w1 ⟨rfl, hw1⟩; subst hw1)
   go_ret
   exact (SaysB.mk false ⟨fun h => by simp at h, fun h => by have := h.2.1; omega⟩ (zBa _ _))
  ·have h4' : ¬ ((4 : Int) < (ss.length : Int)) := by omega
   go_enter Tryz.func20, Tryz.ntmps20
   go_wp2_with (go_at_call 56; (with_reducible refine (KC.out _).mono ?_); rintro e w1 ⟨rfl, hw1⟩; subst hw1)
   go_loopw [3] (fun i wr => ∃ k : Nat, k ≤ ss.length ∧ i = .int .i64 k ∧ Hid (∀ (j : Nat) s, j < k → ss[j]? = some s → sinceOk now s ∧ waits s ∧ rises ss j s ∧ lone ss j s) ∧ Hid (Below (w.heap.size + 1) (w.alloc (.cells #[.int .i64 now, .slice (some ⟨g, 0, none⟩) ss.length cl] 27)) wr)) (fun i _ => ss.length - (intOf i).toNat)
   case atStart => exact ⟨0, by omega, rfl, fun j s h => by omega, Below.refl _ _⟩
   case round =>
    obtain ⟨k, hk, rfl, HC, HB⟩ := hrel
    have HB' : Hid (Below w.heap.size w wr) := (zBa _ _).trans (HB.out.mono (by omega))
    have z0 : wr.cell? ⟨w.heap.size, 0, none⟩ = some (.int .i64 now) := (HB.out.cell (p := ⟨w.heap.size, 0, none⟩) (by simp only; omega)).trans (by go_simp)
    have z1 : wr.cell? ⟨w.heap.size, 1, none⟩ = some (.slice (some ⟨g, 0, none⟩) ss.length cl) := (HB.out.cell (p := ⟨w.heap.size, 1, none⟩) (by simp only; omega)).trans (by go_simp)
    have lw : w.heap.size < wr.heap.size := by have := HB.out.size; simp at this; omega
    by_cases hlt : k < ss.length
    ·obtain ⟨x, hx⟩ := get_of_lt hlt
     have hi : (k : Int) < (ss.length : Int) := by omega
     have Lr := HL.out.below HB'.out
     obtain ⟨c0, c1, c2⟩ := Lr.elem k x hx
     have hgr := Lr.lt
     have HX : Hid (ss[k]? = some x) := hx
     have HO : Hid (SOk wr x) := Lr.each x (List.mem_of_getElem? hx)
     have KS0 : Hid (∀ W : World, Below wr.heap.size wr W → Calls Tryz.prog 57 #[.agg #[.int .i64 now, .slice (some ⟨g, 0, none⟩) ss.length cl], .agg #[.slice x.a x.xs.length x.c, .int .i64 x.since, .bool x.bad]] W (SaysB (sinceOk now x ∧ waits x) W)) := fun W h => l4SlotOk_any now _ x W (HO.out.below h) hin.1 hin.2
     have NO : Hid (∀ W : World, Below w.heap.size w W → ¬ (sinceOk now x ∧ waits x ∧ rises ss k x ∧ lone ss k x) → SaysB (benchOk now ss) w (.returned (.bool false)) W) := fun W hW h => SaysB.mk false ⟨fun h => by simp at h, fun h' => (h (h'.2.2 k x HX.out)).elim⟩ hW
     by_cases hgood : sinceOk now x ∧ waits x
     ·have KS : Hid (∀ W : World, Below wr.heap.size wr W → Calls Tryz.prog 57 #[.agg #[.int .i64 now, .slice (some ⟨g, 0, none⟩) ss.length cl], .agg #[.slice x.a x.xs.length x.c, .int .i64 x.since, .bool x.bad]] W fun e w' => e = .returned (.bool true) ∧ Below W.heap.size W w') := fun W h => (KS0.out W h).mono fun e w' ⟨b, he, hb, hB⟩ => ⟨by rw [he, hb.2 hgood], hB⟩
      have HG : Hid (sinceOk now x ∧ waits x) := hgood
      clear KS0 hgood
      by_cases hk0 : k = 0
      ·have hk0' : decide ((0 : Int) < (k : Int)) = false := by rw [decide_eq_false_iff_not]; omega
       have HK0 : Hid (k = 0) := hk0
       clear hx Lr hk0
       go_wp2
       have RISE : Hid (rises ss k x) := fun r h _ => by have := HK0.out; omega
       refine wp_region_held_drew (S := fun w' => w'.cell? ⟨w.heap.size, 0, none⟩ = some (.int .i64 now) ∧ w'.cell? ⟨w.heap.size, 1, none⟩ = some (.slice (some ⟨g, 0, none⟩) ss.length cl) ∧ w'.cell? ⟨g, k * 3, none⟩ = some (.slice x.a x.xs.length x.c) ∧ w'.cell? ⟨g, k * 3 + 1, none⟩ = some (.int .i64 x.since) ∧ w'.cell? ⟨g, k * 3 + 2, none⟩ = some (.bool x.bad)) (by kernel_rfl) ⟨z0, z1, c0, c1, c2⟩ (fun hH => ?_)
       refine zTk 0 21 (.agg #[.int .i64 now, .slice (some ⟨g, 0, none⟩) ss.length cl]) rfl (fun w hS => by obtain ⟨s0, s1, s2, s3, s4⟩ := hS; go_simp <;> exact HK0.out) hH ?_; simp only [Act.put, zX, zY, zZ]
       refine zTk 1 22 (.pointer (some ⟨w.heap.size, 1, none⟩)) rfl (fun w hS => by obtain ⟨s0, s1, s2, s3, s4⟩ := hS; go_simp <;> exact HK0.out) hH ?_; simp only [Act.put, zX, zY, zZ]
       refine zTk 2 23 (.slice (some ⟨g, 0, none⟩) ss.length cl) rfl (fun w hS => by obtain ⟨s0, s1, s2, s3, s4⟩ := hS; go_simp <;> exact HK0.out) hH ?_; simp only [Act.put, zX, zY, zZ]
       refine zTk 3 24 (.int .i64 k) rfl (fun w hS => by obtain ⟨s0, s1, s2, s3, s4⟩ := hS; go_simp <;> exact HK0.out) hH ?_; simp only [Act.put, zX, zY, zZ]
       refine zTk 4 25 (.pointer (some ⟨g, k * 3, none⟩)) rfl (fun w hS => by obtain ⟨s0, s1, s2, s3, s4⟩ := hS; go_simp <;> exact HK0.out) hH ?_; simp only [Act.put, zX, zY, zZ]
       refine zTk 5 26 (.agg #[.slice x.a x.xs.length x.c, .int .i64 x.since, .bool x.bad]) rfl (fun w hS => by obtain ⟨s0, s1, s2, s3, s4⟩ := hS; go_simp <;> exact HK0.out) hH ?_; simp only [Act.put, zX, zY, zZ]
       refine zRd 6 (by kernel_rfl) rfl (fun K hK => ?_)
       go_simp
       refine (KS.out _ (draw1 _)).mono ?_
       rintro e w1 ⟨rfl, b1⟩
       have hc1 : ∀ b o, b < wr.heap.size → w1.cell? ⟨b, o, none⟩ = wr.cell? ⟨b, o, none⟩ := fun b o h => b1.cell (p := ⟨b, o, none⟩) (by simpa using h)
       go_simp
       refine hK.out _ _ ⟨(hc1 _ _ lw).trans z0, (hc1 _ _ lw).trans z1, (hc1 _ _ hgr).trans c0, (hc1 _ _ hgr).trans c1, (hc1 _ _ hgr).trans c2⟩ (fun hH => ?_)
       clear hK K
       refine zTk 7 28 (.bool false) rfl (fun w hS => by obtain ⟨s0, s1, s2, s3, s4⟩ := hS; go_simp <;> exact HK0.out) hH ?_; simp only [Act.put, zX, zY, zZ]
       refine zTk 8 29 (.bool false) rfl (fun w hS => by obtain ⟨s0, s1, s2, s3, s4⟩ := hS; go_simp <;> exact HK0.out) hH ?_; simp only [Act.put, zX, zY, zZ]
       refine zTk 9 30 (.int .i64 k) rfl (fun w hS => by obtain ⟨s0, s1, s2, s3, s4⟩ := hS; go_simp <;> exact HK0.out) hH ?_; simp only [Act.put, zX, zY, zZ]
       refine zTk 10 31 (.bool false) rfl (fun w hS => by obtain ⟨s0, s1, s2, s3, s4⟩ := hS; go_simp <;> exact HK0.out) hH ?_; simp only [Act.put, zX, zY, zZ]
       refine zTk 11 32 (.bool false) rfl (fun w hS => by obtain ⟨s0, s1, s2, s3, s4⟩ := hS; go_simp <;> exact HK0.out) hH ?_; simp only [Act.put, zX, zY, zZ]
       refine take_skipH 12 (some 33) rfl rfl (by kernel_rfl) (by kernel_rfl) (by kernel_rfl) (fun _ _ _ h => h) (by rfl) hH ?_
       simp only [Act.put, zX, zY, zZ]
       refine take_skipH 13 (some 34) rfl rfl (by kernel_rfl) (by kernel_rfl) (by kernel_rfl) (fun _ _ _ h => h) (by rfl) hH ?_
       simp only [Act.put, zX, zY, zZ]
       refine take_skipH 14 (some 35) rfl rfl (by kernel_rfl) (by kernel_rfl) (by kernel_rfl) (fun _ _ _ h => h) (by rfl) hH ?_
       simp only [Act.put, zX, zY, zZ]
       refine take_skipH 15 (some 36) rfl rfl (by kernel_rfl) (by kernel_rfl) (by kernel_rfl) (fun _ _ _ h => h) (by rfl) hH ?_
       simp only [Act.put, zX, zY, zZ]
       refine take_skipH 16 (some 37) rfl rfl (by kernel_rfl) (by kernel_rfl) (by kernel_rfl) (fun _ _ _ h => h) (by rfl) hH ?_
       simp only [Act.put, zX, zY, zZ]
       refine take_skipH 17 (some 38) rfl rfl (by kernel_rfl) (by kernel_rfl) (by kernel_rfl) (fun _ _ _ h => h) (by rfl) hH ?_
       simp only [Act.put, zX, zY, zZ]
       refine take_skipH 18 (some 39) rfl rfl (by kernel_rfl) (by kernel_rfl) (by kernel_rfl) (fun _ _ _ h => h) (by rfl) hH ?_
       simp only [Act.put, zX, zY, zZ]
       refine take_skipH 19 (some 40) rfl rfl (by kernel_rfl) (by kernel_rfl) (by kernel_rfl) (fun _ _ _ h => h) (by rfl) hH ?_
       simp only [Act.put, zX, zY, zZ]
       refine take_skipH 20 (some 41) rfl rfl (by kernel_rfl) (by kernel_rfl) (by kernel_rfl) (fun _ _ _ h => h) (by rfl) hH ?_
       simp only [Act.put, zX, zY, zZ]
       refine take_skipH 21 (some 42) rfl rfl (by kernel_rfl) (by kernel_rfl) (by kernel_rfl) (fun _ _ _ h => h) (by rfl) hH ?_
       simp only [Act.put, zX, zY, zZ]
       refine take_skipH 22 (some 43) rfl rfl (by kernel_rfl) (by kernel_rfl) (by kernel_rfl) (fun _ _ _ h => h) (by rfl) hH ?_
       simp only [Act.put, zX, zY, zZ]
       refine take_skipH 23 (some 44) rfl rfl (by kernel_rfl) (by kernel_rfl) (by kernel_rfl) (fun _ _ _ h => h) (by rfl) hH ?_
       simp only [Act.put, zX, zY, zZ]
       refine take_skipH 24 (some 45) rfl rfl (by kernel_rfl) (by kernel_rfl) (by kernel_rfl) (fun _ _ _ h => h) (by rfl) hH ?_
       simp only [Act.put, zX, zY, zZ]
       refine take_skipH 25 (some 46) rfl rfl (by kernel_rfl) (by kernel_rfl) (by kernel_rfl) (fun _ _ _ h => h) (by rfl) hH ?_
       simp only [Act.put, zX, zY, zZ]
       refine zTk 26 47 (.bool false) rfl (fun w hS => by obtain ⟨s0, s1, s2, s3, s4⟩ := hS; go_simp <;> exact HK0.out) hH ?_; simp only [Act.put, zX, zY, zZ]
       refine zTk 27 48 (.bool false) rfl (fun w hS => by obtain ⟨s0, s1, s2, s3, s4⟩ := hS; go_simp <;> exact HK0.out) hH ?_; simp only [Act.put, zX, zY, zZ]
       refine wpAnyH_done (by kernel_rfl) ?_ _
       have B1 : Hid (Below (w.heap.size + 1) (w.alloc (.cells #[.int .i64 now, .slice (some ⟨g, 0, none⟩) ss.length cl] 27)) w1) := (HB.out.drew).trans (b1.mono (by simp; omega))
       have HW1 : Hid (Below w.heap.size w w1) := (zBa _ _).trans (B1.out.mono (by omega))
       have z1' : w1.cell? ⟨w.heap.size, 1, none⟩ = some (.slice (some ⟨g, 0, none⟩) ss.length cl) := (hc1 _ _ lw).trans z1
       have c0' : w1.cell? ⟨g, k * 3, none⟩ = some (.slice x.a x.xs.length x.c) := (hc1 _ _ hgr).trans c0
       have HO1 := HO.out.below (((Below.refl _ wr).drew).trans b1)
       have lw1 : w.heap.size < w1.heap.size := Nat.lt_of_lt_of_le lw (by have := b1.size; simpa using this)
       have hgr1 : g < w1.heap.size := Nat.lt_of_lt_of_le hgr (by have := b1.size; simpa using this)
       obtain ⟨gx, hxa, RX⟩ := HO1.at_
       obtain ⟨p, hp⟩ := waits_first HG.out.2
       have hxl := HO1.len
       obtain ⟨nx, hnx⟩ : ∃ nx, x.xs.length = nx := ⟨_, rfl⟩
       have hx0 : (0 : Int) < (nx : Int) := by
        rw [List.getElem?_eq_some_iff] at hp
        have := hp.1
        omega
       rw [hxa, hnx] at c0'
       rw [hnx] at hxl
       have hnx0 : 0 < nx := by omega
       have HP : Hid (x.xs[0]? = some p) := hp
       obtain ⟨p0, p1, p2, p3, p4, p5, p6, p7, p8⟩ := (RX.elem 0 p hp).head
       have lp := (RX.each p (List.mem_of_getElem? hp)).len
       have lgx := RX.lt
       have KL : Hid (∀ W : World, Below w1.heap.size w1 W → Calls Tryz.prog 34 #[.slice (some ⟨g, 0, none⟩) k cl, .agg #[.int .i64 p.p.src, .int .i64 p.p.dst, .int .i64 p.p.kind, .int .i64 p.p.id, .int .i64 p.p.hops, .bool p.p.whole, .int .i64 p.p.off, .bool p.p.more, .slice p.a p.zs.length p.c]] W (SlotPost ss k p W)) := fun W h => l4Slot_any g cl k ss p W ((HL.out.below HW1.out).below h) hk hm lp (fun j s hj hs => waits_first (HC.out j s hj hs).2.1)
       have hkc : k ≤ cl := by omega
       have hkl : (k : Int) ≤ (cl : Int) := by omega
       clear b1 hH hc1 z0 z1 c0 c1 c2 KS HO HO1 hp hnx RX hxa
       go_wp2_with fail
       go_region_held3 (fun w' => w'.cell? ⟨w.heap.size, 1, none⟩ = some (.slice (some ⟨g, 0, none⟩) ss.length cl) ∧ w'.cell? ⟨g, k * 3, none⟩ = some (.slice (some ⟨gx, 0, none⟩) nx x.c) ∧ w'.cell? ⟨gx, 0, none⟩ = some (.int .i64 p.p.src) ∧ w'.cell? ⟨gx, 1, none⟩ = some (.int .i64 p.p.dst) ∧ w'.cell? ⟨gx, 2, none⟩ = some (.int .i64 p.p.kind) ∧ w'.cell? ⟨gx, 3, none⟩ = some (.int .i64 p.p.id) ∧ w'.cell? ⟨gx, 4, none⟩ = some (.int .i64 p.p.hops) ∧ w'.cell? ⟨gx, 5, none⟩ = some (.bool p.p.whole) ∧ w'.cell? ⟨gx, 6, none⟩ = some (.int .i64 p.p.off) ∧ w'.cell? ⟨gx, 7, none⟩ = some (.bool p.p.more) ∧ w'.cell? ⟨gx, 8, none⟩ = some (.slice p.a p.zs.length p.c)) (go_keep)
        (first
         | (go_at_call 34; (with_reducible refine (KL.out _ (draw1 _)).mono ?_); rintro e w2 ⟨r, rfl, hr2, b2⟩; have hc2 : ∀ b o, b < w1.heap.size → w2.cell? ⟨b, o, none⟩ = w1.cell? ⟨b, o, none⟩ := fun b o h => b2.cell (p := ⟨b, o, none⟩) (by simpa using h)))
       have B2 : Hid (Below (w.heap.size + 1) (w.alloc (.cells #[.int .i64 now, .slice (some ⟨g, 0, none⟩) ss.length cl] 27)) w2) := (B1.out.drew).trans (b2.mono (by simp; omega))
       clear b2 hc2
       have HS2 := hr2
       clear hr2
       rcases HS2 with ⟨rfl, hno⟩ | ⟨i, s, rfl, hik, hs, hal, -⟩
       ·have HNO : Hid (∀ (j : Nat) s, j < k → ss[j]? = some s → ¬ alikeTo s p) := hno
        clear hno
        go_wp2
        go_roundw
        case rel =>
         refine ⟨k + 1, by omega, by go_num, fun j s hj hs => ?_, B2.out⟩
         rcases Nat.lt_or_ge j k with h' | h'
         ·exact HC.out j s h' hs
         ·obtain rfl : j = k := by omega
          rw [HX.out] at hs
          obtain rfl := Option.some.inj hs
          refine ⟨HG.out.1, HG.out.2, RISE.out, fun i r hi hr ⟨u, v, h1, h2, h3⟩ => ?_⟩
          rw [HP.out] at h2
          obtain rfl := Option.some.inj h2
          exact HNO.out i r hi hr ⟨u, h1, h3⟩
        case measure => simp [intOf]; omega
       ·have hi0 : (0 : Int) ≤ (i : Int) := by omega
        have HAL : Hid (¬ (sinceOk now x ∧ waits x ∧ rises ss k x ∧ lone ss k x)) := fun h => by
         obtain ⟨u, h1, h3⟩ := hal
         exact h.2.2.2 i s hik hs ⟨u, p, h1, HP.out, h3⟩
        clear hal
        go_wp2
        go_ret
        exact NO.out _ ((zBa _ _).trans (B2.out.mono (by omega))) HAL.out
      ·have hk0' : (0 : Int) < (k : Int) := by omega
       obtain ⟨j, hj⟩ : ∃ j, k = j + 1 := ⟨k - 1, by omega⟩
       obtain ⟨y, hy⟩ := get_of_lt (show j < ss.length by omega)
       have HY : Hid (ss[k - 1]? = some y) := (show ss[k - 1]? = some y by rw [hj]; exact hy)
       obtain ⟨e0, e1, e2⟩ := Lr.elem j y hy
       have hwk : IntKind.i64.wrap ((k : Int) - 1) = (j : Int) := by rw [IntKind.wrap_i64]; omega
       have hjl : (j : Int) < (ss.length : Int) := by omega
       clear hx Lr hy hj
       by_cases hr : x.since < y.since
       ·go_wp2
        refine wp_region_held_drew (S := fun w' => w'.cell? ⟨w.heap.size, 0, none⟩ = some (.int .i64 now) ∧ w'.cell? ⟨w.heap.size, 1, none⟩ = some (.slice (some ⟨g, 0, none⟩) ss.length cl) ∧ w'.cell? ⟨g, k * 3, none⟩ = some (.slice x.a x.xs.length x.c) ∧ w'.cell? ⟨g, k * 3 + 1, none⟩ = some (.int .i64 x.since) ∧ w'.cell? ⟨g, k * 3 + 2, none⟩ = some (.bool x.bad) ∧ w'.cell? ⟨g, j * 3 + 1, none⟩ = some (.int .i64 y.since)) (by kernel_rfl) ⟨z0, z1, c0, c1, c2, e1⟩ (fun hH => ?_)
        refine zTk 0 21 (.agg #[.int .i64 now, .slice (some ⟨g, 0, none⟩) ss.length cl]) rfl (fun w hS => by obtain ⟨s0, s1, s2, s3, s4, s5⟩ := hS; go_simp <;> omega) hH ?_; simp only [Act.put, zX, zY, zZ]
        refine zTk 1 22 (.pointer (some ⟨w.heap.size, 1, none⟩)) rfl (fun w hS => by obtain ⟨s0, s1, s2, s3, s4, s5⟩ := hS; go_simp <;> omega) hH ?_; simp only [Act.put, zX, zY, zZ]
        refine zTk 2 23 (.slice (some ⟨g, 0, none⟩) ss.length cl) rfl (fun w hS => by obtain ⟨s0, s1, s2, s3, s4, s5⟩ := hS; go_simp <;> omega) hH ?_; simp only [Act.put, zX, zY, zZ]
        refine zTk 3 24 (.int .i64 k) rfl (fun w hS => by obtain ⟨s0, s1, s2, s3, s4, s5⟩ := hS; go_simp <;> omega) hH ?_; simp only [Act.put, zX, zY, zZ]
        refine zTk 4 25 (.pointer (some ⟨g, k * 3, none⟩)) rfl (fun w hS => by obtain ⟨s0, s1, s2, s3, s4, s5⟩ := hS; go_simp <;> omega) hH ?_; simp only [Act.put, zX, zY, zZ]
        refine zTk 5 26 (.agg #[.slice x.a x.xs.length x.c, .int .i64 x.since, .bool x.bad]) rfl (fun w hS => by obtain ⟨s0, s1, s2, s3, s4, s5⟩ := hS; go_simp <;> omega) hH ?_; simp only [Act.put, zX, zY, zZ]
        refine zRd 6 (by kernel_rfl) rfl (fun K hK => ?_)
        go_simp
        refine (KS.out _ (draw1 _)).mono ?_
        rintro e w1 ⟨rfl, b1⟩
        have hc1 : ∀ b o, b < wr.heap.size → w1.cell? ⟨b, o, none⟩ = wr.cell? ⟨b, o, none⟩ := fun b o h => b1.cell (p := ⟨b, o, none⟩) (by simpa using h)
        go_simp
        refine hK.out _ _ ⟨(hc1 _ _ lw).trans z0, (hc1 _ _ lw).trans z1, (hc1 _ _ hgr).trans c0, (hc1 _ _ hgr).trans c1, (hc1 _ _ hgr).trans c2, (hc1 _ _ hgr).trans e1⟩ (fun hH => ?_)
        clear hK K
        refine zTk 7 28 (.bool false) rfl (fun w hS => by obtain ⟨s0, s1, s2, s3, s4, s5⟩ := hS; go_simp <;> omega) hH ?_; simp only [Act.put, zX, zY, zZ]
        refine zTk 8 29 (.bool false) rfl (fun w hS => by obtain ⟨s0, s1, s2, s3, s4, s5⟩ := hS; go_simp <;> omega) hH ?_; simp only [Act.put, zX, zY, zZ]
        refine zTk 9 30 (.int .i64 k) rfl (fun w hS => by obtain ⟨s0, s1, s2, s3, s4, s5⟩ := hS; go_simp <;> omega) hH ?_; simp only [Act.put, zX, zY, zZ]
        refine zTk 10 31 (.bool true) rfl (fun w hS => by obtain ⟨s0, s1, s2, s3, s4, s5⟩ := hS; go_simp <;> omega) hH ?_; simp only [Act.put, zX, zY, zZ]
        refine zTk 11 32 (.bool true) rfl (fun w hS => by obtain ⟨s0, s1, s2, s3, s4, s5⟩ := hS; go_simp <;> omega) hH ?_; simp only [Act.put, zX, zY, zZ]
        refine zTk 12 33 (.pointer (some ⟨w.heap.size, 1, none⟩)) rfl (fun w hS => by obtain ⟨s0, s1, s2, s3, s4, s5⟩ := hS; go_simp <;> omega) hH ?_; simp only [Act.put, zX, zY, zZ]
        refine zTk 13 34 (.slice (some ⟨g, 0, none⟩) ss.length cl) rfl (fun w hS => by obtain ⟨s0, s1, s2, s3, s4, s5⟩ := hS; go_simp <;> omega) hH ?_; simp only [Act.put, zX, zY, zZ]
        refine zTk 14 35 (.int .i64 k) rfl (fun w hS => by obtain ⟨s0, s1, s2, s3, s4, s5⟩ := hS; go_simp <;> omega) hH ?_; simp only [Act.put, zX, zY, zZ]
        refine zTk 15 36 (.int .i64 (j : Int)) rfl (fun w hS => by obtain ⟨s0, s1, s2, s3, s4, s5⟩ := hS; go_simp <;> omega) hH ?_; simp only [Act.put, zX, zY, zZ]
        refine zTk 16 37 (.pointer (some ⟨g, j * 3, none⟩)) rfl (fun w hS => by obtain ⟨s0, s1, s2, s3, s4, s5⟩ := hS; go_simp <;> omega) hH ?_; simp only [Act.put, zX, zY, zZ]
        refine zTk 17 38 (.pointer (some ⟨g, j * 3 + 1, none⟩)) rfl (fun w hS => by obtain ⟨s0, s1, s2, s3, s4, s5⟩ := hS; go_simp <;> omega) hH ?_; simp only [Act.put, zX, zY, zZ]
        refine zTk 18 39 (.int .i64 y.since) rfl (fun w hS => by obtain ⟨s0, s1, s2, s3, s4, s5⟩ := hS; go_simp <;> omega) hH ?_; simp only [Act.put, zX, zY, zZ]
        refine zTk 19 40 (.pointer (some ⟨w.heap.size, 1, none⟩)) rfl (fun w hS => by obtain ⟨s0, s1, s2, s3, s4, s5⟩ := hS; go_simp <;> omega) hH ?_; simp only [Act.put, zX, zY, zZ]
        refine zTk 20 41 (.slice (some ⟨g, 0, none⟩) ss.length cl) rfl (fun w hS => by obtain ⟨s0, s1, s2, s3, s4, s5⟩ := hS; go_simp <;> omega) hH ?_; simp only [Act.put, zX, zY, zZ]
        refine zTk 21 42 (.int .i64 k) rfl (fun w hS => by obtain ⟨s0, s1, s2, s3, s4, s5⟩ := hS; go_simp <;> omega) hH ?_; simp only [Act.put, zX, zY, zZ]
        refine zTk 22 43 (.pointer (some ⟨g, k * 3, none⟩)) rfl (fun w hS => by obtain ⟨s0, s1, s2, s3, s4, s5⟩ := hS; go_simp <;> omega) hH ?_; simp only [Act.put, zX, zY, zZ]
        refine zTk 23 44 (.pointer (some ⟨g, k * 3 + 1, none⟩)) rfl (fun w hS => by obtain ⟨s0, s1, s2, s3, s4, s5⟩ := hS; go_simp <;> omega) hH ?_; simp only [Act.put, zX, zY, zZ]
        refine zTk 24 45 (.int .i64 x.since) rfl (fun w hS => by obtain ⟨s0, s1, s2, s3, s4, s5⟩ := hS; go_simp <;> omega) hH ?_; simp only [Act.put, zX, zY, zZ]
        refine zTk 25 46 (.bool true) rfl (fun w hS => by obtain ⟨s0, s1, s2, s3, s4, s5⟩ := hS; go_simp <;> omega) hH ?_; simp only [Act.put, zX, zY, zZ]
        refine zTk 26 47 (.bool true) rfl (fun w hS => by obtain ⟨s0, s1, s2, s3, s4, s5⟩ := hS; go_simp <;> omega) hH ?_; simp only [Act.put, zX, zY, zZ]
        refine zTk 27 48 (.bool true) rfl (fun w hS => by obtain ⟨s0, s1, s2, s3, s4, s5⟩ := hS; go_simp <;> omega) hH ?_; simp only [Act.put, zX, zY, zZ]
        refine wpAnyH_done (by kernel_rfl) ?_ _
        have B1 : Hid (Below w.heap.size w w1) := (HB'.out.drew).trans (b1.mono HB'.out.size)
        go_wp2
        go_ret
        exact NO.out _ B1.out fun h => by have := h.2.2.1 y (by omega) HY.out; omega
       ·have hr' : decide (x.since < y.since) = false := by rw [decide_eq_false_iff_not]; exact hr
        go_wp2
        have RISE : Hid (rises ss k x) := fun r _ hr2 => by rw [HY.out] at hr2; obtain rfl := Option.some.inj hr2; omega
        refine wp_region_held_drew (S := fun w' => w'.cell? ⟨w.heap.size, 0, none⟩ = some (.int .i64 now) ∧ w'.cell? ⟨w.heap.size, 1, none⟩ = some (.slice (some ⟨g, 0, none⟩) ss.length cl) ∧ w'.cell? ⟨g, k * 3, none⟩ = some (.slice x.a x.xs.length x.c) ∧ w'.cell? ⟨g, k * 3 + 1, none⟩ = some (.int .i64 x.since) ∧ w'.cell? ⟨g, k * 3 + 2, none⟩ = some (.bool x.bad) ∧ w'.cell? ⟨g, j * 3 + 1, none⟩ = some (.int .i64 y.since)) (by kernel_rfl) ⟨z0, z1, c0, c1, c2, e1⟩ (fun hH => ?_)
        refine zTk 0 21 (.agg #[.int .i64 now, .slice (some ⟨g, 0, none⟩) ss.length cl]) rfl (fun w hS => by obtain ⟨s0, s1, s2, s3, s4, s5⟩ := hS; go_simp <;> omega) hH ?_; simp only [Act.put, zX, zY, zZ]
        refine zTk 1 22 (.pointer (some ⟨w.heap.size, 1, none⟩)) rfl (fun w hS => by obtain ⟨s0, s1, s2, s3, s4, s5⟩ := hS; go_simp <;> omega) hH ?_; simp only [Act.put, zX, zY, zZ]
        refine zTk 2 23 (.slice (some ⟨g, 0, none⟩) ss.length cl) rfl (fun w hS => by obtain ⟨s0, s1, s2, s3, s4, s5⟩ := hS; go_simp <;> omega) hH ?_; simp only [Act.put, zX, zY, zZ]
        refine zTk 3 24 (.int .i64 k) rfl (fun w hS => by obtain ⟨s0, s1, s2, s3, s4, s5⟩ := hS; go_simp <;> omega) hH ?_; simp only [Act.put, zX, zY, zZ]
        refine zTk 4 25 (.pointer (some ⟨g, k * 3, none⟩)) rfl (fun w hS => by obtain ⟨s0, s1, s2, s3, s4, s5⟩ := hS; go_simp <;> omega) hH ?_; simp only [Act.put, zX, zY, zZ]
        refine zTk 5 26 (.agg #[.slice x.a x.xs.length x.c, .int .i64 x.since, .bool x.bad]) rfl (fun w hS => by obtain ⟨s0, s1, s2, s3, s4, s5⟩ := hS; go_simp <;> omega) hH ?_; simp only [Act.put, zX, zY, zZ]
        refine zRd 6 (by kernel_rfl) rfl (fun K hK => ?_)
        go_simp
        refine (KS.out _ (draw1 _)).mono ?_
        rintro e w1 ⟨rfl, b1⟩
        have hc1 : ∀ b o, b < wr.heap.size → w1.cell? ⟨b, o, none⟩ = wr.cell? ⟨b, o, none⟩ := fun b o h => b1.cell (p := ⟨b, o, none⟩) (by simpa using h)
        go_simp
        refine hK.out _ _ ⟨(hc1 _ _ lw).trans z0, (hc1 _ _ lw).trans z1, (hc1 _ _ hgr).trans c0, (hc1 _ _ hgr).trans c1, (hc1 _ _ hgr).trans c2, (hc1 _ _ hgr).trans e1⟩ (fun hH => ?_)
        clear hK K
        refine zTk 7 28 (.bool false) rfl (fun w hS => by obtain ⟨s0, s1, s2, s3, s4, s5⟩ := hS; go_simp <;> omega) hH ?_; simp only [Act.put, zX, zY, zZ]
        refine zTk 8 29 (.bool false) rfl (fun w hS => by obtain ⟨s0, s1, s2, s3, s4, s5⟩ := hS; go_simp <;> omega) hH ?_; simp only [Act.put, zX, zY, zZ]
        refine zTk 9 30 (.int .i64 k) rfl (fun w hS => by obtain ⟨s0, s1, s2, s3, s4, s5⟩ := hS; go_simp <;> omega) hH ?_; simp only [Act.put, zX, zY, zZ]
        refine zTk 10 31 (.bool true) rfl (fun w hS => by obtain ⟨s0, s1, s2, s3, s4, s5⟩ := hS; go_simp <;> omega) hH ?_; simp only [Act.put, zX, zY, zZ]
        refine zTk 11 32 (.bool true) rfl (fun w hS => by obtain ⟨s0, s1, s2, s3, s4, s5⟩ := hS; go_simp <;> omega) hH ?_; simp only [Act.put, zX, zY, zZ]
        refine zTk 12 33 (.pointer (some ⟨w.heap.size, 1, none⟩)) rfl (fun w hS => by obtain ⟨s0, s1, s2, s3, s4, s5⟩ := hS; go_simp <;> omega) hH ?_; simp only [Act.put, zX, zY, zZ]
        refine zTk 13 34 (.slice (some ⟨g, 0, none⟩) ss.length cl) rfl (fun w hS => by obtain ⟨s0, s1, s2, s3, s4, s5⟩ := hS; go_simp <;> omega) hH ?_; simp only [Act.put, zX, zY, zZ]
        refine zTk 14 35 (.int .i64 k) rfl (fun w hS => by obtain ⟨s0, s1, s2, s3, s4, s5⟩ := hS; go_simp <;> omega) hH ?_; simp only [Act.put, zX, zY, zZ]
        refine zTk 15 36 (.int .i64 (j : Int)) rfl (fun w hS => by obtain ⟨s0, s1, s2, s3, s4, s5⟩ := hS; go_simp <;> omega) hH ?_; simp only [Act.put, zX, zY, zZ]
        refine zTk 16 37 (.pointer (some ⟨g, j * 3, none⟩)) rfl (fun w hS => by obtain ⟨s0, s1, s2, s3, s4, s5⟩ := hS; go_simp <;> omega) hH ?_; simp only [Act.put, zX, zY, zZ]
        refine zTk 17 38 (.pointer (some ⟨g, j * 3 + 1, none⟩)) rfl (fun w hS => by obtain ⟨s0, s1, s2, s3, s4, s5⟩ := hS; go_simp <;> omega) hH ?_; simp only [Act.put, zX, zY, zZ]
        refine zTk 18 39 (.int .i64 y.since) rfl (fun w hS => by obtain ⟨s0, s1, s2, s3, s4, s5⟩ := hS; go_simp <;> omega) hH ?_; simp only [Act.put, zX, zY, zZ]
        refine zTk 19 40 (.pointer (some ⟨w.heap.size, 1, none⟩)) rfl (fun w hS => by obtain ⟨s0, s1, s2, s3, s4, s5⟩ := hS; go_simp <;> omega) hH ?_; simp only [Act.put, zX, zY, zZ]
        refine zTk 20 41 (.slice (some ⟨g, 0, none⟩) ss.length cl) rfl (fun w hS => by obtain ⟨s0, s1, s2, s3, s4, s5⟩ := hS; go_simp <;> omega) hH ?_; simp only [Act.put, zX, zY, zZ]
        refine zTk 21 42 (.int .i64 k) rfl (fun w hS => by obtain ⟨s0, s1, s2, s3, s4, s5⟩ := hS; go_simp <;> omega) hH ?_; simp only [Act.put, zX, zY, zZ]
        refine zTk 22 43 (.pointer (some ⟨g, k * 3, none⟩)) rfl (fun w hS => by obtain ⟨s0, s1, s2, s3, s4, s5⟩ := hS; go_simp <;> omega) hH ?_; simp only [Act.put, zX, zY, zZ]
        refine zTk 23 44 (.pointer (some ⟨g, k * 3 + 1, none⟩)) rfl (fun w hS => by obtain ⟨s0, s1, s2, s3, s4, s5⟩ := hS; go_simp <;> omega) hH ?_; simp only [Act.put, zX, zY, zZ]
        refine zTk 24 45 (.int .i64 x.since) rfl (fun w hS => by obtain ⟨s0, s1, s2, s3, s4, s5⟩ := hS; go_simp <;> omega) hH ?_; simp only [Act.put, zX, zY, zZ]
        refine zTk 25 46 (.bool false) rfl (fun w hS => by obtain ⟨s0, s1, s2, s3, s4, s5⟩ := hS; go_simp <;> omega) hH ?_; simp only [Act.put, zX, zY, zZ]
        refine zTk 26 47 (.bool false) rfl (fun w hS => by obtain ⟨s0, s1, s2, s3, s4, s5⟩ := hS; go_simp <;> omega) hH ?_; simp only [Act.put, zX, zY, zZ]
        refine zTk 27 48 (.bool false) rfl (fun w hS => by obtain ⟨s0, s1, s2, s3, s4, s5⟩ := hS; go_simp <;> omega) hH ?_; simp only [Act.put, zX, zY, zZ]
        refine wpAnyH_done (by kernel_rfl) ?_ _
        have B1 : Hid (Below (w.heap.size + 1) (w.alloc (.cells #[.int .i64 now, .slice (some ⟨g, 0, none⟩) ss.length cl] 27)) w1) := (HB.out.drew).trans (b1.mono (by simp; omega))
        have HW1 : Hid (Below w.heap.size w w1) := (zBa _ _).trans (B1.out.mono (by omega))
        have z1' : w1.cell? ⟨w.heap.size, 1, none⟩ = some (.slice (some ⟨g, 0, none⟩) ss.length cl) := (hc1 _ _ lw).trans z1
        have c0' : w1.cell? ⟨g, k * 3, none⟩ = some (.slice x.a x.xs.length x.c) := (hc1 _ _ hgr).trans c0
        have HO1 := HO.out.below (((Below.refl _ wr).drew).trans b1)
        have lw1 : w.heap.size < w1.heap.size := Nat.lt_of_lt_of_le lw (by have := b1.size; simpa using this)
        have hgr1 : g < w1.heap.size := Nat.lt_of_lt_of_le hgr (by have := b1.size; simpa using this)
        obtain ⟨gx, hxa, RX⟩ := HO1.at_
        obtain ⟨p, hp⟩ := waits_first HG.out.2
        have hxl := HO1.len
        obtain ⟨nx, hnx⟩ : ∃ nx, x.xs.length = nx := ⟨_, rfl⟩
        have hx0 : (0 : Int) < (nx : Int) := by
         rw [List.getElem?_eq_some_iff] at hp
         have := hp.1
         omega
        rw [hxa, hnx] at c0'
        rw [hnx] at hxl
        have hnx0 : 0 < nx := by omega
        have HP : Hid (x.xs[0]? = some p) := hp
        obtain ⟨p0, p1, p2, p3, p4, p5, p6, p7, p8⟩ := (RX.elem 0 p hp).head
        have lp := (RX.each p (List.mem_of_getElem? hp)).len
        have lgx := RX.lt
        have KL : Hid (∀ W : World, Below w1.heap.size w1 W → Calls Tryz.prog 34 #[.slice (some ⟨g, 0, none⟩) k cl, .agg #[.int .i64 p.p.src, .int .i64 p.p.dst, .int .i64 p.p.kind, .int .i64 p.p.id, .int .i64 p.p.hops, .bool p.p.whole, .int .i64 p.p.off, .bool p.p.more, .slice p.a p.zs.length p.c]] W (SlotPost ss k p W)) := fun W h => l4Slot_any g cl k ss p W ((HL.out.below HW1.out).below h) hk hm lp (fun j s hj hs => waits_first (HC.out j s hj hs).2.1)
        have hkc : k ≤ cl := by omega
        have hkl : (k : Int) ≤ (cl : Int) := by omega
        clear b1 hH hc1 z0 z1 c0 c1 c2 KS HO HO1 hp hnx RX hxa e0 e1 e2 hr
        go_wp2_with fail
        go_region_held3 (fun w' => w'.cell? ⟨w.heap.size, 1, none⟩ = some (.slice (some ⟨g, 0, none⟩) ss.length cl) ∧ w'.cell? ⟨g, k * 3, none⟩ = some (.slice (some ⟨gx, 0, none⟩) nx x.c) ∧ w'.cell? ⟨gx, 0, none⟩ = some (.int .i64 p.p.src) ∧ w'.cell? ⟨gx, 1, none⟩ = some (.int .i64 p.p.dst) ∧ w'.cell? ⟨gx, 2, none⟩ = some (.int .i64 p.p.kind) ∧ w'.cell? ⟨gx, 3, none⟩ = some (.int .i64 p.p.id) ∧ w'.cell? ⟨gx, 4, none⟩ = some (.int .i64 p.p.hops) ∧ w'.cell? ⟨gx, 5, none⟩ = some (.bool p.p.whole) ∧ w'.cell? ⟨gx, 6, none⟩ = some (.int .i64 p.p.off) ∧ w'.cell? ⟨gx, 7, none⟩ = some (.bool p.p.more) ∧ w'.cell? ⟨gx, 8, none⟩ = some (.slice p.a p.zs.length p.c)) (go_keep)
         (first
          | (go_at_call 34; (with_reducible refine (KL.out _ (draw1 _)).mono ?_); rintro e w2 ⟨r, rfl, hr2, b2⟩; have hc2 : ∀ b o, b < w1.heap.size → w2.cell? ⟨b, o, none⟩ = w1.cell? ⟨b, o, none⟩ := fun b o h => b2.cell (p := ⟨b, o, none⟩) (by simpa using h)))
        have B2 : Hid (Below (w.heap.size + 1) (w.alloc (.cells #[.int .i64 now, .slice (some ⟨g, 0, none⟩) ss.length cl] 27)) w2) := (B1.out.drew).trans (b2.mono (by simp; omega))
        clear b2 hc2
        have HS2 := hr2
        clear hr2
        rcases HS2 with ⟨rfl, hno⟩ | ⟨i, s, rfl, hik, hs, hal, -⟩
        ·have HNO : Hid (∀ (j : Nat) s, j < k → ss[j]? = some s → ¬ alikeTo s p) := hno
         clear hno
         go_wp2
         go_roundw
         case rel =>
          refine ⟨k + 1, by omega, by go_num, fun j s hj hs => ?_, B2.out⟩
          rcases Nat.lt_or_ge j k with h' | h'
          ·exact HC.out j s h' hs
          ·obtain rfl : j = k := by omega
           rw [HX.out] at hs
           obtain rfl := Option.some.inj hs
           refine ⟨HG.out.1, HG.out.2, RISE.out, fun i r hi hr ⟨u, v, h1, h2, h3⟩ => ?_⟩
           rw [HP.out] at h2
           obtain rfl := Option.some.inj h2
           exact HNO.out i r hi hr ⟨u, h1, h3⟩
         case measure => simp [intOf]; omega
        ·have hi0 : (0 : Int) ≤ (i : Int) := by omega
         have HAL : Hid (¬ (sinceOk now x ∧ waits x ∧ rises ss k x ∧ lone ss k x)) := fun h => by
          obtain ⟨u, h1, h3⟩ := hal
          exact h.2.2.2 i s hik hs ⟨u, p, h1, HP.out, h3⟩
         clear hal
         go_wp2
         go_ret
         exact NO.out _ ((zBa _ _).trans (B2.out.mono (by omega))) HAL.out
     ·have KS : Hid (∀ W : World, Below wr.heap.size wr W → Calls Tryz.prog 57 #[.agg #[.int .i64 now, .slice (some ⟨g, 0, none⟩) ss.length cl], .agg #[.slice x.a x.xs.length x.c, .int .i64 x.since, .bool x.bad]] W fun e w' => e = .returned (.bool false) ∧ Below W.heap.size W w') := fun W h => (KS0.out W h).mono fun e w' ⟨b, he, hb, hB⟩ => ⟨by rw [he]; cases b; rfl; exact (hgood (hb.1 rfl)).elim, hB⟩
      clear KS0 hx Lr
      go_wp2
      refine wp_region_held_drew (S := fun w' => w'.cell? ⟨w.heap.size, 0, none⟩ = some (.int .i64 now) ∧ w'.cell? ⟨w.heap.size, 1, none⟩ = some (.slice (some ⟨g, 0, none⟩) ss.length cl) ∧ w'.cell? ⟨g, k * 3, none⟩ = some (.slice x.a x.xs.length x.c) ∧ w'.cell? ⟨g, k * 3 + 1, none⟩ = some (.int .i64 x.since) ∧ w'.cell? ⟨g, k * 3 + 2, none⟩ = some (.bool x.bad)) (by kernel_rfl) ⟨z0, z1, c0, c1, c2⟩ (fun hH => ?_)
      refine zTk 0 21 (.agg #[.int .i64 now, .slice (some ⟨g, 0, none⟩) ss.length cl]) rfl (fun w hS => by obtain ⟨s0, s1, s2, s3, s4⟩ := hS; go_simp <;> omega) hH ?_; simp only [Act.put, zX, zY, zZ]
      refine zTk 1 22 (.pointer (some ⟨w.heap.size, 1, none⟩)) rfl (fun w hS => by obtain ⟨s0, s1, s2, s3, s4⟩ := hS; go_simp <;> omega) hH ?_; simp only [Act.put, zX, zY, zZ]
      refine zTk 2 23 (.slice (some ⟨g, 0, none⟩) ss.length cl) rfl (fun w hS => by obtain ⟨s0, s1, s2, s3, s4⟩ := hS; go_simp <;> omega) hH ?_; simp only [Act.put, zX, zY, zZ]
      refine zTk 3 24 (.int .i64 k) rfl (fun w hS => by obtain ⟨s0, s1, s2, s3, s4⟩ := hS; go_simp <;> omega) hH ?_; simp only [Act.put, zX, zY, zZ]
      refine zTk 4 25 (.pointer (some ⟨g, k * 3, none⟩)) rfl (fun w hS => by obtain ⟨s0, s1, s2, s3, s4⟩ := hS; go_simp <;> omega) hH ?_; simp only [Act.put, zX, zY, zZ]
      refine zTk 5 26 (.agg #[.slice x.a x.xs.length x.c, .int .i64 x.since, .bool x.bad]) rfl (fun w hS => by obtain ⟨s0, s1, s2, s3, s4⟩ := hS; go_simp <;> omega) hH ?_; simp only [Act.put, zX, zY, zZ]
      refine zRd 6 (by kernel_rfl) rfl (fun K hK => ?_)
      go_simp
      refine (KS.out _ (draw1 _)).mono ?_
      rintro e w1 ⟨rfl, b1⟩
      have hc1 : ∀ b o, b < wr.heap.size → w1.cell? ⟨b, o, none⟩ = wr.cell? ⟨b, o, none⟩ := fun b o h => b1.cell (p := ⟨b, o, none⟩) (by simpa using h)
      go_simp
      refine hK.out _ _ ⟨(hc1 _ _ lw).trans z0, (hc1 _ _ lw).trans z1, (hc1 _ _ hgr).trans c0, (hc1 _ _ hgr).trans c1, (hc1 _ _ hgr).trans c2⟩ (fun hH => ?_)
      clear hK K
      refine zTk 7 28 (.bool true) rfl (fun w hS => by obtain ⟨s0, s1, s2, s3, s4⟩ := hS; go_simp <;> omega) hH ?_; simp only [Act.put, zX, zY, zZ]
      refine zTk 8 29 (.bool true) rfl (fun w hS => by obtain ⟨s0, s1, s2, s3, s4⟩ := hS; go_simp <;> omega) hH ?_; simp only [Act.put, zX, zY, zZ]
      refine take_skipH 9 (some 30) rfl rfl (by kernel_rfl) (by kernel_rfl) (by kernel_rfl) (fun _ _ _ h => h) (by rfl) hH ?_
      simp only [Act.put, zX, zY, zZ]
      refine take_skipH 10 (some 31) rfl rfl (by kernel_rfl) (by kernel_rfl) (by kernel_rfl) (fun _ _ _ h => h) (by rfl) hH ?_
      simp only [Act.put, zX, zY, zZ]
      refine take_skipH 11 (some 32) rfl rfl (by kernel_rfl) (by kernel_rfl) (by kernel_rfl) (fun _ _ _ h => h) (by rfl) hH ?_
      simp only [Act.put, zX, zY, zZ]
      refine take_skipH 12 (some 33) rfl rfl (by kernel_rfl) (by kernel_rfl) (by kernel_rfl) (fun _ _ _ h => h) (by rfl) hH ?_
      simp only [Act.put, zX, zY, zZ]
      refine take_skipH 13 (some 34) rfl rfl (by kernel_rfl) (by kernel_rfl) (by kernel_rfl) (fun _ _ _ h => h) (by rfl) hH ?_
      simp only [Act.put, zX, zY, zZ]
      refine take_skipH 14 (some 35) rfl rfl (by kernel_rfl) (by kernel_rfl) (by kernel_rfl) (fun _ _ _ h => h) (by rfl) hH ?_
      simp only [Act.put, zX, zY, zZ]
      refine take_skipH 15 (some 36) rfl rfl (by kernel_rfl) (by kernel_rfl) (by kernel_rfl) (fun _ _ _ h => h) (by rfl) hH ?_
      simp only [Act.put, zX, zY, zZ]
      refine take_skipH 16 (some 37) rfl rfl (by kernel_rfl) (by kernel_rfl) (by kernel_rfl) (fun _ _ _ h => h) (by rfl) hH ?_
      simp only [Act.put, zX, zY, zZ]
      refine take_skipH 17 (some 38) rfl rfl (by kernel_rfl) (by kernel_rfl) (by kernel_rfl) (fun _ _ _ h => h) (by rfl) hH ?_
      simp only [Act.put, zX, zY, zZ]
      refine take_skipH 18 (some 39) rfl rfl (by kernel_rfl) (by kernel_rfl) (by kernel_rfl) (fun _ _ _ h => h) (by rfl) hH ?_
      simp only [Act.put, zX, zY, zZ]
      refine take_skipH 19 (some 40) rfl rfl (by kernel_rfl) (by kernel_rfl) (by kernel_rfl) (fun _ _ _ h => h) (by rfl) hH ?_
      simp only [Act.put, zX, zY, zZ]
      refine take_skipH 20 (some 41) rfl rfl (by kernel_rfl) (by kernel_rfl) (by kernel_rfl) (fun _ _ _ h => h) (by rfl) hH ?_
      simp only [Act.put, zX, zY, zZ]
      refine take_skipH 21 (some 42) rfl rfl (by kernel_rfl) (by kernel_rfl) (by kernel_rfl) (fun _ _ _ h => h) (by rfl) hH ?_
      simp only [Act.put, zX, zY, zZ]
      refine take_skipH 22 (some 43) rfl rfl (by kernel_rfl) (by kernel_rfl) (by kernel_rfl) (fun _ _ _ h => h) (by rfl) hH ?_
      simp only [Act.put, zX, zY, zZ]
      refine take_skipH 23 (some 44) rfl rfl (by kernel_rfl) (by kernel_rfl) (by kernel_rfl) (fun _ _ _ h => h) (by rfl) hH ?_
      simp only [Act.put, zX, zY, zZ]
      refine take_skipH 24 (some 45) rfl rfl (by kernel_rfl) (by kernel_rfl) (by kernel_rfl) (fun _ _ _ h => h) (by rfl) hH ?_
      simp only [Act.put, zX, zY, zZ]
      refine take_skipH 25 (some 46) rfl rfl (by kernel_rfl) (by kernel_rfl) (by kernel_rfl) (fun _ _ _ h => h) (by rfl) hH ?_
      simp only [Act.put, zX, zY, zZ]
      refine take_skipH 26 (some 47) rfl rfl (by kernel_rfl) (by kernel_rfl) (by kernel_rfl) (fun _ _ _ h => h) (by rfl) hH ?_
      simp only [Act.put, zX, zY, zZ]
      refine zTk 27 48 (.bool true) rfl (fun w hS => by obtain ⟨s0, s1, s2, s3, s4⟩ := hS; go_simp <;> omega) hH ?_; simp only [Act.put, zX, zY, zZ]
      refine wpAnyH_done (by kernel_rfl) ?_ _
      have B1 : Hid (Below w.heap.size w w1) := (HB'.out.drew).trans (b1.mono HB'.out.size)
      go_wp2
      go_ret
      exact NO.out _ B1.out fun h => hgood ⟨h.1, h.2.1⟩
    ·obtain rfl : k = ss.length := by omega
     go_wp2
     go_ret
     exact SaysB.mk true ⟨fun _ => ⟨hin, by omega, fun j s hs => HC.out j s (by rw [List.getElem?_eq_some_iff] at hs; exact hs.1) hs⟩, fun _ => rfl⟩ HB'.out
 ·have hcl : inB now 0 1000000 = false := by
   unfold inB
   by_cases h : 0 ≤ now
   ·simp [h]; omega
   ·simp [h]
  rw [hcl] at KC
  go_enter Tryz.func20, Tryz.ntmps20
  go_wp2_with (go_at_call 56; (with_reducible refine (KC.out _).mono ?_); rintro e w1 ⟨rfl, hw1⟩; subst hw1)
  go_ret
  exact (SaysB.mk false ⟨fun h => by simp at h, fun h => (hin h.1).elim⟩ (zBa _ _))
end Go.Proofs.YtjbkgmbakjnlhaaGreatDoor
