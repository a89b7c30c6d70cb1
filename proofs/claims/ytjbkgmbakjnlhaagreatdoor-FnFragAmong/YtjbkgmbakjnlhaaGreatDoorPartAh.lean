import Derived.Test.YtjbkgmbakjnlhaaGreatDoorPartAd
import Derived.Test.YtjbkgmbakjnlhaaGreatDoorJoinI
import Derived.Test.YtjbkgmbakjnlhaaGreatDoorPartAe
import Derived.Deep.RegionHeld3
import Derived.Deep.QuietTactic
import Derived.BigQuiet
import Derived.Test.YtjbkgmbakjnlhaaGreatDoorPartAf
namespace Go.Proofs.YtjbkgmbakjnlhaaGreatDoor
set_option maxRecDepth 100000
open Go.RowKit
theorem JoinPost.code {L : List PB} {w w' : World} {e : Ending} (h : JoinPost L w e w') : ∃ (p : Pk) (a : Option Addr) (n c : Nat), e = .returned (.tuple #[p.val (.slice a n c), .int .i64 (joinL L).1]) ∧ Below w.heap.size w w' := by
 obtain ⟨a, c, h1, _, h3⟩ := h
 exact ⟨_, a, _, c, h1, h3⟩
set_option maxHeartbeats 3200000 in
theorem allWait_any (g cl : Nat) (ss : List SV) (w : World) (hL : SL w g ss) (hm : ss.length ≤ 4) :
  Calls Tryz.prog 39 #[.slice (some ⟨g, 0, none⟩) ss.length cl] w (SaysB (∀ (j : Nat) s, ss[j]? = some s → waits s) w) := by
 have HL : Hid (SL w g ss) := hL
 clear hL
 go_enter Tryz.func39, Tryz.ntmps39
 go_wp2
 go_loopw [9] (fun i wr => ∃ k : Nat, k ≤ ss.length ∧ i = .int .i64 k ∧ Hid (∀ j s, j < k → ss[j]? = some s → waits s) ∧ Hid (Below w.heap.size w wr)) (fun i _ => ss.length - (intOf i).toNat)
 case atStart => exact ⟨0, by omega, rfl, fun j s h => by omega, Below.refl _ _⟩
 case round =>
  obtain ⟨k, hk, rfl, HC, HB⟩ := hrel
  by_cases hlt : k < ss.length
  ·obtain ⟨x, hx⟩ := get_of_lt hlt
   have hi : (k : Int) < (ss.length : Int) := by omega
   have Lr := HL.out.below HB.out
   obtain ⟨c0, c1, c2⟩ := Lr.elem k x hx
   have hgr := Lr.lt
   have HX : Hid (ss[k]? = some x) := hx
   have HO : Hid (SOk wr x) := Lr.each x (List.mem_of_getElem? hx)
   clear hx Lr
   have KJ : Hid (∀ W : World, Below wr.heap.size wr W → Calls Tryz.prog 15 #[.slice x.a x.xs.length x.c] W fun e w' => ∃ (p : Pk) (a : Option Addr) (n c : Nat), e = .returned (.tuple #[p.val (.slice a n c), .int .i64 (joinL (x.xs.map RV.key)).1]) ∧ Below W.heap.size W w') := fun W h => by
    obtain ⟨gL, h1, h2⟩ := HO.out.at_
    rw [h1]
    exact (implJoin_any gL x.c x.xs W (h2.below h) (by have := HO.out.len; omega)).mono fun e w' h => h.code
   obtain ⟨jc, hjc⟩ : ∃ jc, (joinL (x.xs.map RV.key)).1 = jc := ⟨_, rfl⟩
   rw [hjc] at KJ
   have HJ : Hid ((joinL (x.xs.map RV.key)).1 = jc) := hjc
   clear hjc
   go_wp2_with fail
   refine (KJ.out _ (zBa _ _)).mono ?_
   rintro e w1 ⟨p, ja, jn, jl, rfl, b1⟩
   unfold Pk.val
   obtain ⟨hc, hf⟩ := bcell b1
   have z0 : w1.cell? ⟨wr.heap.size, 0, none⟩ = some (.slice x.a x.xs.length x.c) := (hc _ _ (by simp)).trans (by go_simp)
   have z2 : w1.cell? ⟨wr.heap.size, 2, none⟩ = some (.bool x.bad) := (hc _ _ (by simp)).trans (by go_simp)
   have B1 : Hid (Below w.heap.size w w1) := (HB.out.alloc HB.out.size _).trans (b1.mono (by have := HB.out.size; simp; omega))
   have hxl := HO.out.len
   have s1 : wr.heap.size < w1.heap.size := by have := b1.size; simp at this; omega
   clear hc hf b1 KJ c0 c1 c2
   have NO : Hid (¬ waits x → SaysB (∀ (j : Nat) s, ss[j]? = some s → waits s) w (.returned (.bool false)) (w1.alloc (.cells #[.int .i64 p.src, .int .i64 p.dst, .int .i64 p.kind, .int .i64 p.id, .int .i64 p.hops, .bool p.whole, .int .i64 p.off, .bool p.more, .slice ja jn jl] 29))) := fun h => (SaysB.mk false ⟨fun h => by simp at h, fun h' => (h (h' k x HX.out)).elim⟩ (B1.out.alloc B1.out.size _))
   have YES : Hid (waits x → ∀ j s, j < k + 1 → ss[j]? = some s → waits s) := fun h j s hj hs => by
    rcases Nat.lt_or_ge j k with h' | h'
    ·exact HC.out j s h' hs
    ·obtain rfl : j = k := by omega
     rw [HX.out] at hs
     obtain rfl := Option.some.inj hs
     exact h
   by_cases h3 : jc = 3
   ·subst h3
    obtain ⟨bd, hbd⟩ : ∃ bd, x.bad = bd := ⟨_, rfl⟩
    rw [hbd] at z2
    have HD : Hid (x.bad = bd) := hbd
    clear hbd
    cases bd
    ·go_wp2
     go_roundw
     case rel => exact ⟨k + 1, by omega, by go_num, YES.out ⟨HJ.out, fun h => by rw [HD.out] at h; cases h⟩, B1.out.alloc B1.out.size _⟩
     case measure => simp [intOf]; omega
    ·by_cases h1 : x.xs.length = 1
     ·have h1' : ((x.xs.length : Int) != 1) = false := by simp [h1]
      have H1 : Hid (x.xs.length = 1) := h1
      clear h1
      go_wp2
      go_roundw
      case rel => exact ⟨k + 1, by omega, by go_num, YES.out ⟨HJ.out, fun _ => H1.out⟩, B1.out.alloc B1.out.size _⟩
      case measure => simp [intOf]; omega
     ·have h1' : ((x.xs.length : Int) != 1) = true := by rw [bne_iff_ne]; omega
      go_wp2
      go_ret
      exact NO.out fun h => h1 (h.2 HD.out)
   ·have h3' : (jc != 3) = true := by simp [h3]
    go_wp2
    go_ret
    exact NO.out fun h => h3 (HJ.out.symm.trans h.1)
  ·obtain rfl : k = ss.length := by omega
   go_wp2
   go_ret
   refine (SaysB.mk true ⟨fun _ j s hs => HC.out j s (by rw [List.getElem?_eq_some_iff] at hs; exact hs.1) hs, fun _ => rfl⟩ (HB.out))
set_option maxHeartbeats 6400000 in
theorem allOther_any (g cl : Nat) (ss : List SV) (w : World) (hL : SL w g ss) (hm : ss.length ≤ 4) (hc : ss.length ≤ cl) (hcm : cl ≤ 9223372036854775807) (hW : ∀ (j : Nat) s, ss[j]? = some s → ∃ x, s.xs[0]? = some x) :
  Calls Tryz.prog 40 #[.slice (some ⟨g, 0, none⟩) ss.length cl] w (SaysB (∀ (j : Nat) s, ss[j]? = some s → lone ss j s) w) := by
 have HL : Hid (SL w g ss) := hL
 have HW : Hid (∀ (j : Nat) s, ss[j]? = some s → ∃ x, s.xs[0]? = some x) := hW
 clear hL hW
 go_enter Tryz.func40, Tryz.ntmps40
 go_wp2
 go_loopw [9] (fun i wr => ∃ k : Nat, k ≤ ss.length ∧ i = .int .i64 k ∧ Hid (∀ j s, j < k → ss[j]? = some s → lone ss j s) ∧ Hid (Below w.heap.size w wr)) (fun i _ => ss.length - (intOf i).toNat)
 case atStart => exact ⟨0, by omega, rfl, fun j s h => by omega, Below.refl _ _⟩
 case round =>
  obtain ⟨k, hk, rfl, HC, HB⟩ := hrel
  by_cases hlt : k < ss.length
  ·obtain ⟨x, hx⟩ := get_of_lt hlt
   have hi : (k : Int) < (ss.length : Int) := by omega
   have Lr := HL.out.below HB.out
   obtain ⟨c0, c1, c2⟩ := Lr.elem k x hx
   have hgr := Lr.lt
   have HX : Hid (ss[k]? = some x) := hx
   have HO : Hid (SOk wr x) := Lr.each x (List.mem_of_getElem? hx)
   have hkc : k ≤ cl := by omega
   have hkl : (k : Int) ≤ (cl : Int) := by omega
   obtain ⟨p, hp⟩ := HW.out k x hx
   obtain ⟨gx, hxa, RX⟩ := HO.out.at_
   rw [hxa] at c0
   have HP : Hid (x.xs[0]? = some p) := hp
   have HRX : Hid (RL wr gx x.xs) := RX
   have hxl := HO.out.len
   obtain ⟨nx, hnx⟩ : ∃ nx, x.xs.length = nx := ⟨_, rfl⟩
   have hx0 : (0 : Int) < (nx : Int) := by
    rw [List.getElem?_eq_some_iff] at hp
    have := hp.1
    omega
   rw [hnx] at c0 hxl
   have hnx0 : 0 < nx := by omega
   clear hnx
   clear hx Lr hp RX
   obtain ⟨ws, hws⟩ : ∃ ws, ws = wr := ⟨_, rfl⟩
   subst hws
   go_wp2
   go_loopw [18] (fun i wr => ∃ j : Nat, j ≤ k ∧ i = .int .i64 j ∧ Hid (∀ i r, i < j → ss[i]? = some r → ¬ firstAlike r x) ∧ Hid (Below ws.heap.size ws wr) ∧ Hid (wr.cell? ⟨ws.heap.size, 0, none⟩ = some (.slice (some ⟨gx, 0, none⟩) nx x.c) ∧ ws.heap.size < wr.heap.size)) (fun i _ => k - (intOf i).toNat)
   case atStart => exact ⟨0, by omega, rfl, fun j s h => by omega, zBa _ _, by go_simp, by simp⟩
   case round =>
    obtain ⟨j, hj, rfl, HA, HI, HN⟩ := hrel
    obtain ⟨n0, n1⟩ := HN.out
    by_cases hjk : j < k
    ·have hjk' : (j : Int) < (k : Int) := by omega
     obtain ⟨y, hy⟩ := get_of_lt (show j < ss.length by omega)
     have HBI : Below w.heap.size w wr := HB.out.trans (HI.out.mono HB.out.size)
     have Lr := HL.out.below HBI
     obtain ⟨d0, d1, d2⟩ := Lr.elem j y hy
     have hgr' := Lr.lt
     have HY : Hid (ss[j]? = some y) := hy
     have HOY := Lr.each y (List.mem_of_getElem? hy)
     obtain ⟨gy, hya, RY⟩ := HOY.at_
     rw [hya] at d0
     obtain ⟨q, hq⟩ := HW.out j y hy
     have HQ : Hid (y.xs[0]? = some q) := hq
     have hyl := HOY.len
     obtain ⟨ny, hny⟩ : ∃ ny, y.xs.length = ny := ⟨_, rfl⟩
     have hy0 : (0 : Int) < (ny : Int) := by
      rw [List.getElem?_eq_some_iff] at hq
      have := hq.1
      omega
     rw [hny] at d0 hyl
     have hny0 : 0 < ny := by omega
     clear hny
     have RX := HRX.out.below HI.out
     obtain ⟨p0, p1, p2, p3, p4, p5, p6, p7, p8⟩ := (RX.elem 0 p HP.out).head
     obtain ⟨q0, q1, q2, q3, q4, q5, q6, q7, q8⟩ := (RY.elem 0 q hq).head
     have lgx := RX.lt
     have lgy := RY.lt
     have lp := (RX.each p (List.mem_of_getElem? HP.out)).len
     have lq := (RY.each q (List.mem_of_getElem? hq)).len
     have KA : Hid (∀ W : World, Calls Tryz.prog 73 #[.agg #[.int .i64 p.p.src, .int .i64 p.p.dst, .int .i64 p.p.kind, .int .i64 p.p.id, .int .i64 p.p.hops, .bool p.p.whole, .int .i64 p.p.off, .bool p.p.more, .slice p.a p.zs.length p.c], .agg #[.int .i64 q.p.src, .int .i64 q.p.dst, .int .i64 q.p.kind, .int .i64 q.p.id, .int .i64 q.p.hops, .bool q.p.whole, .int .i64 q.p.off, .bool q.p.more, .slice q.a q.zs.length q.c]] W fun e w' => e = .returned (.bool (alikeB (p.p, p.zs) (q.p, q.zs))) ∧ Below W.heap.size W w') := fun W => implAlike_any p.p q.p p.a q.a p.zs q.zs p.c q.c W lp lq
     obtain ⟨al, hal⟩ : ∃ al, alikeB (p.p, p.zs) (q.p, q.zs) = al := ⟨_, rfl⟩
     rw [hal] at KA
     have HAL : Hid (alikeB (p.p, p.zs) (q.p, q.zs) = al) := hal
     have HF : Hid (al = true ↔ firstAlike y x) := by
      constructor
      ·intro h
       exact firstAlike_symm ⟨p, q, HP.out, HQ.out, HAL.out.trans h⟩
      ·intro h
       obtain ⟨u, v, h1, h2, h3⟩ := firstAlike_symm h
       rw [HP.out] at h1
       rw [HQ.out] at h2
       obtain rfl := Option.some.inj h1
       obtain rfl := Option.some.inj h2
       exact HAL.out.symm.trans h3
     clear hal hq hy Lr HBI HOY RX RY
     go_wp2
     go_region_held3 (fun w' => w'.cell? ⟨ws.heap.size, 0, none⟩ = some (.slice (some ⟨gx, 0, none⟩) nx x.c) ∧ w'.cell? ⟨wr.heap.size, 0, none⟩ = some (.slice (some ⟨gy, 0, none⟩) ny y.c) ∧ w'.cell? ⟨gx, 0, none⟩ = some (.int .i64 p.p.src) ∧ w'.cell? ⟨gx, 1, none⟩ = some (.int .i64 p.p.dst) ∧ w'.cell? ⟨gx, 2, none⟩ = some (.int .i64 p.p.kind) ∧ w'.cell? ⟨gx, 3, none⟩ = some (.int .i64 p.p.id) ∧ w'.cell? ⟨gx, 4, none⟩ = some (.int .i64 p.p.hops) ∧ w'.cell? ⟨gx, 5, none⟩ = some (.bool p.p.whole) ∧ w'.cell? ⟨gx, 6, none⟩ = some (.int .i64 p.p.off) ∧ w'.cell? ⟨gx, 7, none⟩ = some (.bool p.p.more) ∧ w'.cell? ⟨gx, 8, none⟩ = some (.slice p.a p.zs.length p.c) ∧ w'.cell? ⟨gy, 0, none⟩ = some (.int .i64 q.p.src) ∧ w'.cell? ⟨gy, 1, none⟩ = some (.int .i64 q.p.dst) ∧ w'.cell? ⟨gy, 2, none⟩ = some (.int .i64 q.p.kind) ∧ w'.cell? ⟨gy, 3, none⟩ = some (.int .i64 q.p.id) ∧ w'.cell? ⟨gy, 4, none⟩ = some (.int .i64 q.p.hops) ∧ w'.cell? ⟨gy, 5, none⟩ = some (.bool q.p.whole) ∧ w'.cell? ⟨gy, 6, none⟩ = some (.int .i64 q.p.off) ∧ w'.cell? ⟨gy, 7, none⟩ = some (.bool q.p.more) ∧ w'.cell? ⟨gy, 8, none⟩ = some (.slice q.a q.zs.length q.c)) (go_keep)
      (first
       | (go_at_call 73; (with_reducible refine (KA.out _).mono ?_); rintro e w1 ⟨rfl, b1⟩; have hc1 : ∀ b o, b < wr.heap.size → w1.cell? ⟨b, o, none⟩ = wr.cell? ⟨b, o, none⟩ := fun b o h => (b1.cell (p := ⟨b, o, none⟩) (by simp; omega)).trans (((zBa wr _).drew).cell (p := ⟨b, o, none⟩) h); have hc2 : w1.cell? ⟨wr.heap.size, 0, none⟩ = some (.slice (some ⟨gy, 0, none⟩) ny y.c) := (b1.cell (p := ⟨wr.heap.size, 0, none⟩) (by simp)).trans (by go_simp)))
     have BI1 : Hid (Below ws.heap.size ws w1) := ((HI.out.alloc HI.out.size _).drew).trans (b1.mono (by have := HI.out.size; simp; omega))
     have N1 : Hid (w1.cell? ⟨ws.heap.size, 0, none⟩ = some (.slice (some ⟨gx, 0, none⟩) nx x.c) ∧ ws.heap.size < w1.heap.size) := ⟨(hc1 _ _ n1).trans n0, by have := b1.size; simp at this; omega⟩
     clear hc1 hc2 b1
     cases al
     ·go_wp2
      go_roundw
      case rel =>
       refine ⟨j + 1, by omega, by go_num, fun i r hi hr => ?_, BI1.out, N1.out⟩
       rcases Nat.lt_or_ge i j with h' | h'
       ·exact HA.out i r h' hr
       ·obtain rfl : i = j := by omega
        rw [HY.out] at hr
        obtain rfl := Option.some.inj hr
        exact fun h => by have := HF.out.2 h; cases this
      case measure => simp [intOf]; omega
     ·go_wp2
      go_ret
      exact (SaysB.mk false ⟨fun h => by simp at h, fun h => (h k x HX.out j y hjk HY.out (HF.out.1 (by trivial))).elim⟩ (HB.out.trans (BI1.out.mono HB.out.size)))
    ·have hjk' : ¬ ((j : Int) < (k : Int)) := by omega
     have HJK : Hid (j = k) := (show _ = _ by omega)
     clear hjk
     go_wp2
     refine ⟨⟨k + 1, by omega, by go_num, fun i s hi hs => ?_, HB.out.trans (HI.out.mono HB.out.size)⟩, by simp [intOf]; omega⟩
     rcases Nat.lt_or_ge i k with h' | h'
     ·exact HC.out i s h' hs
     ·obtain rfl : i = k := by omega
      rw [HX.out] at hs
      obtain rfl := Option.some.inj hs
      rw [← HJK.out]
      exact fun i r hi hr => HA.out i r hi hr
  ·obtain rfl : k = ss.length := by omega
   go_wp2
   go_ret
   refine (SaysB.mk true ⟨fun _ j s hs => HC.out j s (by rw [List.getElem?_eq_some_iff] at hs; exact hs.1) hs, fun _ => rfl⟩ (HB.out))
set_option maxHeartbeats 6400000 in
theorem implBenchOk_any (now : Int) (g cl : Nat) (ss : List SV) (w : World) (hL : SL w g ss) (hm : ss.length ≤ 1048576) (hc : ss.length ≤ cl) (hcm : cl ≤ 9223372036854775807) :
  Calls Tryz.prog 13 #[.agg #[.int .i64 now, .slice (some ⟨g, 0, none⟩) ss.length cl]] w (SaysB (benchOk now ss) w) := by
 have HL : Hid (SL w g ss) := hL
 clear hL
 have KC : Hid (∀ (W : World), Calls Tryz.prog 37 #[.int .i64 now, .int .i64 0, .int .i64 1000000] W fun e w' => e = .returned (.int .i64 (clampI now 0 1000000)) ∧ w' = W) := fun W => clamp_any now 0 1000000 W
 by_cases hin : 0 ≤ now ∧ now ≤ 1000000
 ·have hcl : clampI now 0 1000000 = now := by unfold clampI; split <;> split <;> omega
  rw [hcl] at KC
  have hne : (now != now) = false := by simp
  by_cases h4 : 4 < ss.length
  ·have h4' : (4 : Int) < (ss.length : Int) := by omega
   go_enter Tryz.func13, Tryz.ntmps13
   go_wp2
   go_quiet ((go_at_call 37; refine Calls.quiet_of_same (KC.out _)))
   go_wp2_with fail
   go_ret
   exact (SaysB.mk false ⟨fun h => by simp at h, fun h => by have := h.2.1; omega⟩ ((zBa _ _).trans (Joins.below_draws _ _ _)))
  ·have h4' : ¬ ((4 : Int) < (ss.length : Int)) := by omega
   have K1 : Hid (∀ W : World, Below w.heap.size w W → Calls Tryz.prog 38 #[.agg #[.int .i64 now, .slice (some ⟨g, 0, none⟩) ss.length cl]] W (SaysB (∀ (j : Nat) s, ss[j]? = some s → sinceOk now s ∧ rises ss j s) W)) := fun W h => sincesHold_any now g cl ss W (HL.out.below h) hin.1 hin.2 (by omega)
   have K2 : Hid (∀ W : World, Below w.heap.size w W → Calls Tryz.prog 39 #[.slice (some ⟨g, 0, none⟩) ss.length cl] W (SaysB (∀ (j : Nat) s, ss[j]? = some s → waits s) W)) := fun W h => allWait_any g cl ss W (HL.out.below h) (by omega)
   have K3 : Hid (∀ W : World, Below w.heap.size w W → (∀ (j : Nat) s, ss[j]? = some s → waits s) → Calls Tryz.prog 40 #[.slice (some ⟨g, 0, none⟩) ss.length cl] W (SaysB (∀ (j : Nat) s, ss[j]? = some s → lone ss j s) W)) := fun W h hw => allOther_any g cl ss W (HL.out.below h) (by omega) hc hcm (fun j s hs => waits_first (hw j s hs))
   go_enter Tryz.func13, Tryz.ntmps13
   go_wp2
   go_quiet ((go_at_call 37; refine Calls.quiet_of_same (KC.out _)))
   go_wp2_with fail
   have BQ : Hid (Below w.heap.size w ((w.alloc (.cells #[.int .i64 now, .slice (some ⟨g, 0, none⟩) ss.length cl] 27)).drewN nq)) := (zBa _ _).trans (Joins.below_draws _ _ _)
   have ZQ : Hid (((w.alloc (.cells #[.int .i64 now, .slice (some ⟨g, 0, none⟩) ss.length cl] 27)).drewN nq).cell? ⟨w.heap.size, 1, none⟩ = some (.slice (some ⟨g, 0, none⟩) ss.length cl)) := (show _ = _ by go_simp)
   refine (K1.out _ BQ.out).mono ?_
   rintro e w1 ⟨r1, rfl, hr1, b1⟩
   have sq : ((w.alloc (.cells #[.int .i64 now, .slice (some ⟨g, 0, none⟩) ss.length cl] 27)).drewN nq).heap.size = w.heap.size + 1 := by simp
   have B1 : Hid (Below w.heap.size w w1) := BQ.out.trans (b1.mono (by omega))
   have z1 : w1.cell? ⟨w.heap.size, 1, none⟩ = some (.slice (some ⟨g, 0, none⟩) ss.length cl) := (b1.cell (p := ⟨w.heap.size, 1, none⟩) (by simp only; omega)).trans ZQ.out
   have s1 : w.heap.size < w1.heap.size := by have := b1.size; omega
   have H1 : Hid (r1 = true ↔ ∀ (j : Nat) s, ss[j]? = some s → sinceOk now s ∧ rises ss j s) := hr1
   clear b1 sq ZQ BQ hr1
   cases r1
   ·go_wp2
    go_ret
    refine SaysB.mk false ⟨fun h => by simp at h, fun h => ?_⟩ B1.out
    have := H1.out.2 fun j s hs => ⟨(h.2.2 j s hs).1, (h.2.2 j s hs).2.2.1⟩
    cases this
   go_wp2_with fail
   refine (K2.out _ B1.out).mono ?_
   rintro e w2 ⟨r2, rfl, hr2, b2⟩
   have B2 : Hid (Below w.heap.size w w2) := B1.out.trans (b2.mono B1.out.size)
   have z2 : w2.cell? ⟨w.heap.size, 1, none⟩ = some (.slice (some ⟨g, 0, none⟩) ss.length cl) := (b2.cell (p := ⟨w.heap.size, 1, none⟩) s1).trans z1
   have H2 : Hid (r2 = true ↔ ∀ (j : Nat) s, ss[j]? = some s → waits s) := hr2
   clear b2 hr2
   cases r2
   ·go_wp2
    go_ret
    refine SaysB.mk false ⟨fun h => by simp at h, fun h => ?_⟩ B2.out
    have := H2.out.2 fun j s hs => (h.2.2 j s hs).2.1
    cases this
   go_wp2_with fail
   refine (K3.out _ B2.out (H2.out.1 (by trivial))).mono ?_
   rintro e w3 ⟨r3, rfl, hr3, b3⟩
   have B3 : Hid (Below w.heap.size w w3) := B2.out.trans (b3.mono B2.out.size)
   have H3 : Hid (r3 = true ↔ ∀ (j : Nat) s, ss[j]? = some s → lone ss j s) := hr3
   clear b3 hr3
   go_wp2
   go_ret
   refine SaysB.mk r3 ⟨fun h => ⟨hin, by omega, fun j s hs => ⟨(H1.out.1 (by trivial) j s hs).1, H2.out.1 (by trivial) j s hs, (H1.out.1 (by trivial) j s hs).2, H3.out.1 h j s hs⟩⟩, fun h => H3.out.2 fun j s hs => (h.2.2 j s hs).2.2.2⟩ B3.out
 ·have hcl : (now != clampI now 0 1000000) = true := by
   rw [bne_iff_ne]
   unfold clampI
   split <;> split <;> omega
  go_enter Tryz.func13, Tryz.ntmps13
  go_wp2
  go_quiet ((go_at_call 37; refine Calls.quiet_of_same (KC.out _)))
  go_wp2
  go_ret
  exact (SaysB.mk false ⟨fun h => by simp at h, fun h => (hin h.1).elim⟩ ((zBa _ _).trans (Joins.below_draws _ _ _)))
set_option maxHeartbeats 800000 in
theorem l3Has_any (p : Pk) (a : Option Addr) (zs : List Int) (c : Nat) (at_ : Int) (w : World) (h0 : 0 ≤ p.off) (h1 : p.off ≤ 128) (hl : zs.length ≤ 1048576) :
  Calls Tryz.prog 103 #[p.val (.slice a zs.length c), .int .i64 at_] w fun e w' => e = .returned (.bool (hasB (p, zs) at_)) ∧ Below w.heap.size w w' := by
 have HB : Hid (hasB (p, zs) at_ = (decide (p.off ≤ at_) && decide (at_ < p.off + (zs.length : Int)))) := rfl
 unfold Pk.val
 by_cases h : p.off ≤ at_
 all_goals
  go_enter Tryz.func103, Tryz.ntmps103
  go_wp2
  go_ret
  refine ⟨ret_bool ?_, zBa _ _⟩
  rw [HB.out]
  first | (simp [h]; done) | (simp; omega)
set_option maxHeartbeats 3200000 in
theorem l3Alike_any (g cl : Nat) (xs : List RV) (w : World) (hL : RL w g xs) (hm : xs.length ≤ 9223372036854775807) :
  Calls Tryz.prog 80 #[.slice (some ⟨g, 0, none⟩) xs.length cl] w fun e w' => e = .returned (.bool (alikeL (xs.map RV.key))) ∧ Below w.heap.size w w' := by
 by_cases hin : 1 ≤ xs.length ∧ xs.length ≤ 40
 ·obtain ⟨hi1, hi2⟩ := hin
  have HIN : Hid (inB (xs.length : Int) 1 40 = true) := (show inB (xs.length : Int) 1 40 = true by simp [inB]; omega)
  obtain ⟨x0, hx0⟩ := get_of_lt (show 0 < xs.length by omega)
  have HX0 : Hid (xs[0]? = some x0) := hx0
  have HL : Hid (RL w g xs) := hL
  have hp0 := (hL.each x0 (List.mem_of_getElem? hx0)).len
  have hpos : (0 : Int) < (xs.length : Int) := by omega
  have hposn : 0 < xs.length := by omega
  have hne : xs ≠ [] := fun e => by rw [e] at hposn; simp at hposn
  clear hx0 hL
  go_enter Tryz.func80, Tryz.ntmps80
  go_wp2_with (go_at_call 56; refine (l1In_any _ _ _ _).mono ?_; rw [HIN.out]; rintro e w' ⟨rfl, hw⟩; rw [hw]; clear hw)
  go_loopw [3] (fun i wr => ∃ k : Nat, k ≤ xs.length ∧ i = .int .i64 k ∧ Hid (∀ j x, j < k → xs[j]? = some x → alikeB x0.key x.key = true) ∧ Hid (Below w.heap.size w wr)) (fun i _ => xs.length - (intOf i).toNat)
  case atStart => exact ⟨0, by omega, rfl, fun j x hj => by omega, Below.refl _ _⟩
  case round =>
   obtain ⟨k, hk, rfl, HC, HB⟩ := hrel
   have hsz := HB.out.size
   by_cases hlt : k < xs.length
   ·obtain ⟨x, hx⟩ := get_of_lt hlt
    have HX : Hid (xs[k]? = some x) := hx
    have Lr := HL.out.below HB.out
    have hp := (Lr.each x (List.mem_of_getElem? hx)).len
    have hgr := Lr.lt
    have H0 := (Lr.elem 0 x0 HX0.out).head
    have Hk := Lr.elem k x hx
    have hi : (k : Int) < (xs.length : Int) := by omega
    clear hx Lr
    obtain ⟨e0, e1, e2, e3, e4, e5, e6, e7, e8⟩ := id H0
    obtain ⟨c0, c1, c2, c3, c4, c5, c6, c7, c8⟩ := id Hk
    have KA : Hid (∀ W : World, Calls Tryz.prog 16 #[.agg #[.int .i64 x0.p.src, .int .i64 x0.p.dst, .int .i64 x0.p.kind, .int .i64 x0.p.id, .int .i64 x0.p.hops, .bool x0.p.whole, .int .i64 x0.p.off, .bool x0.p.more, .slice x0.a x0.zs.length x0.c], .agg #[.int .i64 x.p.src, .int .i64 x.p.dst, .int .i64 x.p.kind, .int .i64 x.p.id, .int .i64 x.p.hops, .bool x.p.whole, .int .i64 x.p.off, .bool x.p.more, .slice x.a x.zs.length x.c]] W fun e w' => e = .returned (.bool (alikeB x0.key x.key)) ∧ Below W.heap.size W w') := fun W => specAlike_any x0.p x.p x0.a x.a x0.zs x.zs x0.c x.c W hp0 hp
    cases hal : alikeB x0.key x.key
    ·have HN : Hid (alikeL (xs.map RV.key) = false) := alikeL_no (map_get HX0.out) (map_get HX.out) hal
     rw [hal] at KA
     clear hal
     go_wp2
     go_region_held3 (fun w' => w'.cell? ⟨g, 0, none⟩ = some (.int .i64 x0.p.src) ∧ w'.cell? ⟨g, 1, none⟩ = some (.int .i64 x0.p.dst) ∧ w'.cell? ⟨g, 2, none⟩ = some (.int .i64 x0.p.kind) ∧ w'.cell? ⟨g, 3, none⟩ = some (.int .i64 x0.p.id) ∧ w'.cell? ⟨g, 4, none⟩ = some (.int .i64 x0.p.hops) ∧ w'.cell? ⟨g, 5, none⟩ = some (.bool x0.p.whole) ∧ w'.cell? ⟨g, 6, none⟩ = some (.int .i64 x0.p.off) ∧ w'.cell? ⟨g, 7, none⟩ = some (.bool x0.p.more) ∧ w'.cell? ⟨g, 8, none⟩ = some (.slice x0.a x0.zs.length x0.c) ∧ w'.cell? ⟨g, k * 9, none⟩ = some (.int .i64 x.p.src) ∧ w'.cell? ⟨g, k * 9 + 1, none⟩ = some (.int .i64 x.p.dst) ∧ w'.cell? ⟨g, k * 9 + 2, none⟩ = some (.int .i64 x.p.kind) ∧ w'.cell? ⟨g, k * 9 + 3, none⟩ = some (.int .i64 x.p.id) ∧ w'.cell? ⟨g, k * 9 + 4, none⟩ = some (.int .i64 x.p.hops) ∧ w'.cell? ⟨g, k * 9 + 5, none⟩ = some (.bool x.p.whole) ∧ w'.cell? ⟨g, k * 9 + 6, none⟩ = some (.int .i64 x.p.off) ∧ w'.cell? ⟨g, k * 9 + 7, none⟩ = some (.bool x.p.more) ∧ w'.cell? ⟨g, k * 9 + 8, none⟩ = some (.slice x.a x.zs.length x.c)) (go_keep)
      (first
       | (go_at_call 16; with_reducible refine (KA.out _).mono ?_; rintro e w1 ⟨rfl, b1⟩; have hc1 : ∀ b o, b < wr.heap.size → w1.cell? ⟨b, o, none⟩ = _ := fun b o h => b1.cell (p := ⟨b, o, none⟩) (by simpa using h)))
     go_wp2
     go_ret
     exact ⟨ret_bool HN.out.symm, HB.out.drew.trans (b1.mono hsz)⟩
    ·have HY : Hid (alikeB x0.key x.key = true) := hal
     rw [hal] at KA
     clear hal
     go_wp2
     go_region_held3 (fun w' => w'.cell? ⟨g, 0, none⟩ = some (.int .i64 x0.p.src) ∧ w'.cell? ⟨g, 1, none⟩ = some (.int .i64 x0.p.dst) ∧ w'.cell? ⟨g, 2, none⟩ = some (.int .i64 x0.p.kind) ∧ w'.cell? ⟨g, 3, none⟩ = some (.int .i64 x0.p.id) ∧ w'.cell? ⟨g, 4, none⟩ = some (.int .i64 x0.p.hops) ∧ w'.cell? ⟨g, 5, none⟩ = some (.bool x0.p.whole) ∧ w'.cell? ⟨g, 6, none⟩ = some (.int .i64 x0.p.off) ∧ w'.cell? ⟨g, 7, none⟩ = some (.bool x0.p.more) ∧ w'.cell? ⟨g, 8, none⟩ = some (.slice x0.a x0.zs.length x0.c) ∧ w'.cell? ⟨g, k * 9, none⟩ = some (.int .i64 x.p.src) ∧ w'.cell? ⟨g, k * 9 + 1, none⟩ = some (.int .i64 x.p.dst) ∧ w'.cell? ⟨g, k * 9 + 2, none⟩ = some (.int .i64 x.p.kind) ∧ w'.cell? ⟨g, k * 9 + 3, none⟩ = some (.int .i64 x.p.id) ∧ w'.cell? ⟨g, k * 9 + 4, none⟩ = some (.int .i64 x.p.hops) ∧ w'.cell? ⟨g, k * 9 + 5, none⟩ = some (.bool x.p.whole) ∧ w'.cell? ⟨g, k * 9 + 6, none⟩ = some (.int .i64 x.p.off) ∧ w'.cell? ⟨g, k * 9 + 7, none⟩ = some (.bool x.p.more) ∧ w'.cell? ⟨g, k * 9 + 8, none⟩ = some (.slice x.a x.zs.length x.c)) (go_keep)
      (first
       | (go_at_call 16; with_reducible refine (KA.out _).mono ?_; rintro e w1 ⟨rfl, b1⟩; have hc1 : ∀ b o, b < wr.heap.size → w1.cell? ⟨b, o, none⟩ = _ := fun b o h => b1.cell (p := ⟨b, o, none⟩) (by simpa using h)))
     go_wp2
     go_roundw
     case rel =>
      refine ⟨k + 1, by omega, by go_num, fun j y hj hy => ?_, HB.out.drew.trans (b1.mono hsz)⟩
      rcases Nat.lt_or_ge j k with h | h
      ·exact HC.out j y h hy
      ·obtain rfl : j = k := by omega
       rw [HX.out] at hy
       obtain rfl := Option.some.inj hy
       exact HY.out
     case measure => simp [intOf]; omega
   ·go_wp2
    go_ret
    have ek : k = xs.length := by omega
    subst ek
    refine ⟨ret_bool (alikeL_yes (x0 := x0.key) (map_get HX0.out) (by simp; omega) fun j y hj => ?_).symm, HB.out⟩
    obtain ⟨z, hxj, rfl⟩ := get_key hj
    refine HC.out j z ?_ hxj
    rcases Nat.lt_or_ge j xs.length with h | h
    ·exact h
    ·rw [List.getElem?_eq_none h] at hxj; cases hxj
 ·have HIN : Hid (inB (xs.length : Int) 1 40 = false) := (show inB (xs.length : Int) 1 40 = false by
   rw [← Bool.not_eq_true]
   intro h
   simp [inB] at h
   omega)
  have HA : Hid (alikeL (xs.map RV.key) = false) := by
   rcases Nat.lt_or_ge 40 xs.length with h | h
   ·exact alikeL_many (by simpa using h)
   ·exact alikeL_none (by simp only [List.length_map]; omega)
  clear hin hL
  go_enter Tryz.func80, Tryz.ntmps80
  go_wp2_with (go_at_call 56; refine (l1In_any _ _ _ _).mono ?_; rw [HIN.out]; rintro e w' ⟨rfl, hw⟩; rw [hw]; clear hw)
  go_ret
  exact ⟨ret_bool HA.out.symm, Below.refl _ _⟩
end Go.Proofs.YtjbkgmbakjnlhaaGreatDoor
