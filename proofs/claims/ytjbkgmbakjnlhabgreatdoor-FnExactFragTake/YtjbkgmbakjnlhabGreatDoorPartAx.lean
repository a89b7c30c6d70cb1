/- The specification's l4Same: packets compared. -/
import Derived.Test.YtjbkgmbakjnlhabGreatDoorSCopyO
import Derived.Test.YtjbkgmbakjnlhabGreatDoorPartAv
namespace Go.Proofs.YtjbkgmbakjnlhabGreatDoor
set_option maxRecDepth 100000
open Go.RowKit

def sameHead (p0 : Int) (p1 : Int) (p2 : Int) (p3 : Int) (p4 : Int) (p5 : Bool) (p6 : Int) (p7 : Bool) (q0 : Int) (q1 : Int) (q2 : Int) (q3 : Int) (q4 : Int) (q5 : Bool) (q6 : Int) (q7 : Bool) (zs ys : List Int) : Prop := p0 = q0 ∧ p1 = q1 ∧ p2 = q2 ∧ p3 = q3 ∧ p4 = q4 ∧ p5 = q5 ∧ p6 = q6 ∧ p7 = q7 ∧ zs = ys
set_option maxRecDepth 100000 in
set_option maxHeartbeats 6400000 in
theorem l4Same_raw (p0 : Int) (p1 : Int) (p2 : Int) (p3 : Int) (p4 : Int) (p5 : Bool) (p6 : Int) (p7 : Bool) (q0 : Int) (q1 : Int) (q2 : Int) (q3 : Int) (q4 : Int) (q5 : Bool) (q6 : Int) (q7 : Bool) (a1 a2 : Option Addr) (zs ys : List Int) (c1 c2 : Nat) (w : World) (hr1 : RdB w a1 zs.length zs) (hr2 : RdB w a2 ys.length ys) (hl1 : zs.length ≤ 1048576) (hl2 : ys.length ≤ 1048576) :
    Calls Tryz.prog 65 #[.agg #[.int .i64 p0, .int .i64 p1, .int .i64 p2, .int .i64 p3, .int .i64 p4, .bool p5, .int .i64 p6, .bool p7, .slice a1 zs.length c1], .agg #[.int .i64 q0, .int .i64 q1, .int .i64 q2, .int .i64 q3, .int .i64 q4, .bool q5, .int .i64 q6, .bool q7, .slice a2 ys.length c2]] w (SaysB (sameHead p0 p1 p2 p3 p4 p5 p6 p7 q0 q1 q2 q3 q4 q5 q6 q7 zs ys) w) := by
  have hn : ∀ x : Int, (x != x) = false := fun x => by simp
  have hb : ∀ x : Bool, (x != x) = false := fun x => by simp
  by_cases h0 : p0 = q0
  case neg =>
    have hne : (p0 != q0) = true := by simp [h0]
    have FIN : Hid (¬ sameHead p0 p1 p2 p3 p4 p5 p6 p7 q0 q1 q2 q3 q4 q5 q6 q7 zs ys) := fun h => h0 (by unfold sameHead at h; simp_all)
    clear hr1 hr2 h0
    go_enter Tryz.func65, Tryz.ntmps65
    go_wp2
    go_ret
    exact SaysB.mk false ⟨(fun h => by cases h), fun h => absurd h FIN.out⟩ (Joins.below_alloc2 _ _ _)
  subst h0
  by_cases h1 : p1 = q1
  case neg =>
    have hne : (p1 != q1) = true := by simp [h1]
    have FIN : Hid (¬ sameHead p0 p1 p2 p3 p4 p5 p6 p7 p0 q1 q2 q3 q4 q5 q6 q7 zs ys) := fun h => h1 (by unfold sameHead at h; simp_all)
    clear hr1 hr2 h1
    go_enter Tryz.func65, Tryz.ntmps65
    go_wp2
    go_ret
    exact SaysB.mk false ⟨(fun h => by cases h), fun h => absurd h FIN.out⟩ (Joins.below_alloc2 _ _ _)
  subst h1
  by_cases h2 : p2 = q2
  case neg =>
    have hne : (p2 != q2) = true := by simp [h2]
    have FIN : Hid (¬ sameHead p0 p1 p2 p3 p4 p5 p6 p7 p0 p1 q2 q3 q4 q5 q6 q7 zs ys) := fun h => h2 (by unfold sameHead at h; simp_all)
    clear hr1 hr2 h2
    go_enter Tryz.func65, Tryz.ntmps65
    go_wp2
    go_ret
    exact SaysB.mk false ⟨(fun h => by cases h), fun h => absurd h FIN.out⟩ (Joins.below_alloc2 _ _ _)
  subst h2
  by_cases h3 : p3 = q3
  case neg =>
    have hne : (p3 != q3) = true := by simp [h3]
    have FIN : Hid (¬ sameHead p0 p1 p2 p3 p4 p5 p6 p7 p0 p1 p2 q3 q4 q5 q6 q7 zs ys) := fun h => h3 (by unfold sameHead at h; simp_all)
    clear hr1 hr2 h3
    go_enter Tryz.func65, Tryz.ntmps65
    go_wp2
    go_ret
    exact SaysB.mk false ⟨(fun h => by cases h), fun h => absurd h FIN.out⟩ (Joins.below_alloc2 _ _ _)
  subst h3
  by_cases h4 : p4 = q4
  case neg =>
    have hne : (p4 != q4) = true := by simp [h4]
    have FIN : Hid (¬ sameHead p0 p1 p2 p3 p4 p5 p6 p7 p0 p1 p2 p3 q4 q5 q6 q7 zs ys) := fun h => h4 (by unfold sameHead at h; simp_all)
    clear hr1 hr2 h4
    go_enter Tryz.func65, Tryz.ntmps65
    go_wp2
    go_ret
    exact SaysB.mk false ⟨(fun h => by cases h), fun h => absurd h FIN.out⟩ (Joins.below_alloc2 _ _ _)
  subst h4
  by_cases h5 : p5 = q5
  case neg =>
    have FIN : Hid (¬ sameHead p0 p1 p2 p3 p4 p5 p6 p7 p0 p1 p2 p3 p4 q5 q6 q7 zs ys) := fun h => h5 (by unfold sameHead at h; simp_all)
    clear hr1 hr2
    cases p5 <;> cases q5
    · exact absurd rfl h5
    · clear h5
      go_enter Tryz.func65, Tryz.ntmps65
      go_wp2
      go_ret
      exact SaysB.mk false ⟨(fun h => by cases h), fun h => absurd h FIN.out⟩ (Joins.below_alloc2 _ _ _)
    · clear h5
      go_enter Tryz.func65, Tryz.ntmps65
      go_wp2
      go_ret
      exact SaysB.mk false ⟨(fun h => by cases h), fun h => absurd h FIN.out⟩ (Joins.below_alloc2 _ _ _)
    · exact absurd rfl h5
  subst h5
  by_cases h6 : p6 = q6
  case neg =>
    have hne : (p6 != q6) = true := by simp [h6]
    have FIN : Hid (¬ sameHead p0 p1 p2 p3 p4 p5 p6 p7 p0 p1 p2 p3 p4 p5 q6 q7 zs ys) := fun h => h6 (by unfold sameHead at h; simp_all)
    clear hr1 hr2 h6
    go_enter Tryz.func65, Tryz.ntmps65
    go_wp2
    go_ret
    exact SaysB.mk false ⟨(fun h => by cases h), fun h => absurd h FIN.out⟩ (Joins.below_alloc2 _ _ _)
  subst h6
  by_cases h7 : p7 = q7
  case neg =>
    have FIN : Hid (¬ sameHead p0 p1 p2 p3 p4 p5 p6 p7 p0 p1 p2 p3 p4 p5 p6 q7 zs ys) := fun h => h7 (by unfold sameHead at h; simp_all)
    clear hr1 hr2
    cases p7 <;> cases q7
    · exact absurd rfl h7
    · clear h7
      go_enter Tryz.func65, Tryz.ntmps65
      go_wp2
      go_ret
      exact SaysB.mk false ⟨(fun h => by cases h), fun h => absurd h FIN.out⟩ (Joins.below_alloc2 _ _ _)
    · clear h7
      go_enter Tryz.func65, Tryz.ntmps65
      go_wp2
      go_ret
      exact SaysB.mk false ⟨(fun h => by cases h), fun h => absurd h FIN.out⟩ (Joins.below_alloc2 _ _ _)
    · exact absurd rfl h7
  subst h7
  obtain ⟨_, hc1⟩ := hr1
  obtain ⟨_, hc2⟩ := hr2
  have HS : Hid (sameHead p0 p1 p2 p3 p4 p5 p6 p7 p0 p1 p2 p3 p4 p5 p6 p7 zs ys ↔ zs = ys) := (show _ ↔ _ from ⟨fun h => h.2.2.2.2.2.2.2.2, fun h => ⟨rfl, rfl, rfl, rfl, rfl, rfl, rfl, rfl, h⟩⟩)
  by_cases hlen : zs.length = ys.length
  case neg =>
    have hne : ((zs.length : Int) != (ys.length : Int)) = true := by simp; omega
    have FIN : Hid (¬ sameHead p0 p1 p2 p3 p4 p5 p6 p7 p0 p1 p2 p3 p4 p5 p6 p7 zs ys) := fun h => hlen (by rw [HS.out.1 h])
    clear hc1 hc2 hlen HS
    go_enter Tryz.func65, Tryz.ntmps65
    go_wp2
    go_ret
    exact SaysB.mk false ⟨(fun h => by cases h), fun h => absurd h FIN.out⟩ (Joins.below_alloc2 _ _ _)
  obtain ⟨n, hzn⟩ : ∃ n, zs.length = n := ⟨_, rfl⟩
  have hyn : ys.length = n := by omega
  rw [hzn] at hc1 hl1
  rw [hyn] at hc2 hl2
  rw [hzn, hyn]
  clear hlen
  have HZN : Hid (zs.length = n ∧ ys.length = n) := ⟨hzn, hyn⟩
  by_cases h0 : n = 0
  · subst h0
    have FIN : Hid (sameHead p0 p1 p2 p3 p4 p5 p6 p7 p0 p1 p2 p3 p4 p5 p6 p7 zs ys) := HS.out.2 ((List.length_eq_zero_iff.1 hzn).trans (List.length_eq_zero_iff.1 hyn).symm)
    clear hc1 hc2 hzn hyn HS
    go_enter Tryz.func65, Tryz.ntmps65
    go_wp2
    refine wp_loop_rounds 1 ?_
    rw [rounds_succ]
    go_wp2
    go_ret
    exact SaysB.mk true ⟨fun _ => FIN.out, fun _ => rfl⟩ (Joins.below_alloc2 _ _ _)
  · obtain ⟨b1, off1, rfl, hb1, hc1⟩ := hc1.resolve_left h0
    obtain ⟨b2, off2, rfl, hb2, hc2⟩ := hc2.resolve_left h0
    clear hzn hyn
    have W2 : Hid (Below w.heap.size w ((w.alloc (.cells #[.int .i64 p0, .int .i64 p1, .int .i64 p2, .int .i64 p3, .int .i64 p4, .bool p5, .int .i64 p6, .bool p7, .slice (some ⟨b1, off1, none⟩) n c1] 33)).alloc (.cells #[.int .i64 p0, .int .i64 p1, .int .i64 p2, .int .i64 p3, .int .i64 p4, .bool p5, .int .i64 p6, .bool p7, .slice (some ⟨b2, off2, none⟩) n c2] 33))) := Joins.below_alloc2 _ _ _
    go_enter Tryz.func65, Tryz.ntmps65
    go_wp2
    go_loopw [5] (fun i wr => ∃ k : Nat, k ≤ n ∧ i = .int .i64 k ∧ Hid (Below w.heap.size w wr ∧ w.heap.size + 2 ≤ wr.heap.size) ∧ Hid (wr.cell? ⟨w.heap.size, 8, none⟩ = some (.slice (some ⟨b1, off1, none⟩) n c1) ∧ wr.cell? ⟨w.heap.size + 1, 8, none⟩ = some (.slice (some ⟨b2, off2, none⟩) n c2)) ∧ Hid (∀ j, j < k → zs.getD j 0 = ys.getD j 0)) (fun i _ => n - (intOf i).toNat)
    case atStart => exact ⟨0, Nat.zero_le _, rfl, ⟨Joins.below_alloc2 _ _ _, by simp⟩, ⟨by go_simp, by go_simp⟩, fun j h => by omega⟩
    case round =>
      obtain ⟨k, hk, rfl, HW, HX, HE⟩ := hrel
      obtain ⟨x8, y8⟩ := HX.out
      have hsz := HW.out.2
      by_cases hlt : k < n
      · have hcell1 := (HW.out.1.cell (p := ⟨b1, off1 + k, none⟩) hb1).trans (hc1 k hlt)
        have hcell2 := (HW.out.1.cell (p := ⟨b2, off2 + k, none⟩) hb2).trans (hc2 k hlt)
        have hi : (k : Int) < (n : Int) := by omega
        have HC : Hid (zs[k]? = some (zs.getD k 0) ∧ ys[k]? = some (ys.getD k 0)) := ⟨by rw [List.getD_eq_getElem?_getD, List.getElem?_eq_getElem (by have := HZN.out.1; omega)]; rfl, by rw [List.getD_eq_getElem?_getD, List.getElem?_eq_getElem (by have := HZN.out.2; omega)]; rfl⟩
        obtain ⟨z, hz⟩ : ∃ z, zs.getD k 0 = z := ⟨_, rfl⟩
        obtain ⟨y, hy⟩ : ∃ y, ys.getD k 0 = y := ⟨_, rfl⟩
        have HZY : Hid (zs.getD k 0 = z ∧ ys.getD k 0 = y) := ⟨hz, hy⟩
        rw [hz] at hcell1
        rw [hy] at hcell2
        clear hc1 hc2 hz hy
        by_cases hzy : z = y
        · subst hzy
          go_wp2
          go_quiet (fail)
          go_wp2
          go_roundw
          case rel =>
            refine ⟨k + 1, by omega, by go_num, ⟨HW.out.1.trans (Joins.below_draws _ _ _), by simp; omega⟩, ⟨by simpa using x8, by simpa using y8⟩, fun j hj => ?_⟩
            by_cases e : j = k
            · subst e
              exact HZY.out.1.trans HZY.out.2.symm
            · exact HE.out j (by omega)
          case measure => simp [intOf]; omega
        · have hne : (z != y) = true := by simp [hzy]
          have FIN : Hid (¬ sameHead p0 p1 p2 p3 p4 p5 p6 p7 p0 p1 p2 p3 p4 p5 p6 p7 zs ys) := fun h => hzy (by rw [← HZY.out.1, ← HZY.out.2, HS.out.1 h])
          clear hzy
          go_wp2
          go_quiet (fail)
          go_wp2
          go_ret
          exact SaysB.mk false ⟨(fun h => by cases h), fun h => absurd h FIN.out⟩ (HW.out.1.trans (Joins.below_draws _ _ _))
      · have FIN : Hid (sameHead p0 p1 p2 p3 p4 p5 p6 p7 p0 p1 p2 p3 p4 p5 p6 p7 zs ys) := HS.out.2 (by
          refine List.ext_getElem (by have := HZN.out; omega) fun j h1 h2 => ?_
          have := HE.out j (by have := HZN.out.1; omega)
          rw [List.getD_eq_getElem?_getD, List.getD_eq_getElem?_getD, List.getElem?_eq_getElem h1, List.getElem?_eq_getElem h2] at this
          exact this)
        clear hc1 hc2
        go_wp2
        go_ret
        exact SaysB.mk true ⟨fun _ => FIN.out, fun _ => rfl⟩ HW.out.1
theorem l4Same_any (x y : RV) (w : World) (hx : ROk w x) (hy : ROk w y) : Calls Tryz.prog 65 #[x.p.val (.slice x.a x.zs.length x.c), y.p.val (.slice y.a y.zs.length y.c)] w (SaysB (x.key = y.key) w) := by
  have h := l4Same_raw x.p.src x.p.dst x.p.kind x.p.id x.p.hops x.p.whole x.p.off x.p.more y.p.src y.p.dst y.p.kind y.p.id y.p.hops y.p.whole y.p.off y.p.more x.a y.a x.zs y.zs x.c y.c w hx.rd hy.rd hx.len hy.len
  have e : sameHead x.p.src x.p.dst x.p.kind x.p.id x.p.hops x.p.whole x.p.off x.p.more y.p.src y.p.dst y.p.kind y.p.id y.p.hops y.p.whole y.p.off y.p.more x.zs y.zs ↔ x.key = y.key := by
    unfold sameHead RV.key
    rcases x with ⟨⟨_, _, _, _, _, _, _, _⟩, _, _, _⟩
    rcases y with ⟨⟨_, _, _, _, _, _, _, _⟩, _, _, _⟩
    simp only [Prod.mk.injEq, Pk.mk.injEq]
    constructor
    · rintro ⟨h0, h1, h2, h3, h4, h5, h6, h7, h8⟩
      exact ⟨⟨h0, h1, h2, h3, h4, h5, h6, h7⟩, h8⟩
    · rintro ⟨⟨h0, h1, h2, h3, h4, h5, h6, h7⟩, h8⟩
      exact ⟨h0, h1, h2, h3, h4, h5, h6, h7, h8⟩
  refine h.mono ?_
  rintro e1 w' ⟨b, h1, h2, h3⟩
  exact ⟨b, h1, h2.trans e, h3⟩
end Go.Proofs.YtjbkgmbakjnlhabGreatDoor

/- The specification's l4Told: whether a piece is there already. -/
namespace Go.Proofs.YtjbkgmbakjnlhabGreatDoor
set_option maxRecDepth 100000
open Go.RowKit

def isIn (p : RV) (xs : List RV) : Prop := p.key ∈ xs.map RV.key
set_option maxRecDepth 100000 in
set_option maxHeartbeats 6400000 in
theorem l4Told_raw (g cl : Nat) (xs : List RV) (p : RV) (w : World) (hL : RL w g xs) (hm : xs.length ≤ 1048576) (hp : ROk w p) :
    Calls Tryz.prog 46 #[.slice (some ⟨g, 0, none⟩) xs.length cl, .agg #[.int .i64 p.p.src, .int .i64 p.p.dst, .int .i64 p.p.kind, .int .i64 p.p.id, .int .i64 p.p.hops, .bool p.p.whole, .int .i64 p.p.off, .bool p.p.more, .slice p.a p.zs.length p.c]] w (SaysB (isIn p xs) w) := by
  have HL : Hid (RL w g xs) := hL
  have HP : Hid (ROk w p) := hp
  clear hL hp
  go_enter Tryz.func46, Tryz.ntmps46
  go_wp2
  go_loopw [5] (fun i wr => ∃ k : Nat, k ≤ xs.length ∧ i = .int .i64 k ∧ Hid (∀ (i : Nat) r, i < k → xs[i]? = some r → r.key ≠ p.key) ∧ Hid (Below (w.heap.size + 1) (w.alloc (.cells (pcells p.p (.slice p.a p.zs.length p.c)) 33)) wr)) (fun i _ => xs.length - (intOf i).toNat)
  case atStart => exact ⟨0, by omega, rfl, fun j s h => by omega, Below.refl _ _⟩
  case round =>
    obtain ⟨k, hj, rfl, HA, HB⟩ := hrel
    have HB' : Hid (Below w.heap.size w wr) := (Joins.below_alloc1 _ _).trans (HB.out.mono (by omega))
    by_cases hjk : k < xs.length
    · have hjk' : (k : Int) < (xs.length : Int) := by omega
      obtain ⟨q, hq⟩ := get_of_lt hjk
      have Lr := HL.out.below HB'.out
      obtain ⟨q0, q1, q2, q3, q4, q5, q6, q7, q8⟩ := Lr.elem k q hq
      have hgr := Lr.lt
      have HQ : Hid (xs[k]? = some q) := hq
      have HQO : Hid (ROk wr q) := Lr.each q (List.mem_of_getElem? hq)
      have HPO : Hid (ROk wr p) := HP.out.below HB'.out
      have XP : wr.heap[w.heap.size]? = some (.cells (pcells p.p (.slice p.a p.zs.length p.c)) 33 (0, 0)) := (HB.out.block _ (by omega)).trans (heap_new _ _ _ rfl)
      obtain ⟨lx, p0, p1, p2, p3, p4, p5, p6, p7, p8⟩ := Boxed.of_block XP
      have KA : Hid (∀ W : World, Below wr.heap.size wr W → Calls Tryz.prog 65 #[.agg #[.int .i64 q.p.src, .int .i64 q.p.dst, .int .i64 q.p.kind, .int .i64 q.p.id, .int .i64 q.p.hops, .bool q.p.whole, .int .i64 q.p.off, .bool q.p.more, .slice q.a q.zs.length q.c], .agg #[.int .i64 p.p.src, .int .i64 p.p.dst, .int .i64 p.p.kind, .int .i64 p.p.id, .int .i64 p.p.hops, .bool p.p.whole, .int .i64 p.p.off, .bool p.p.more, .slice p.a p.zs.length p.c]] W (SaysB (q.key = p.key) W)) := fun W h => by
        have h := l4Same_any q p W (HQO.out.below h) (HPO.out.below h)
        unfold Pk.val at h
        exact h
      unfold SaysB at KA
      clear hq Lr XP
      go_wp2
      go_region_held3 (fun w' => w'.cell? ⟨w.heap.size, 0, none⟩ = some (.int .i64 p.p.src) ∧ w'.cell? ⟨w.heap.size, 1, none⟩ = some (.int .i64 p.p.dst) ∧ w'.cell? ⟨w.heap.size, 2, none⟩ = some (.int .i64 p.p.kind) ∧ w'.cell? ⟨w.heap.size, 3, none⟩ = some (.int .i64 p.p.id) ∧ w'.cell? ⟨w.heap.size, 4, none⟩ = some (.int .i64 p.p.hops) ∧ w'.cell? ⟨w.heap.size, 5, none⟩ = some (.bool p.p.whole) ∧ w'.cell? ⟨w.heap.size, 6, none⟩ = some (.int .i64 p.p.off) ∧ w'.cell? ⟨w.heap.size, 7, none⟩ = some (.bool p.p.more) ∧ w'.cell? ⟨w.heap.size, 8, none⟩ = some (.slice p.a p.zs.length p.c) ∧ w'.cell? ⟨g, k * 9, none⟩ = some (.int .i64 q.p.src) ∧ w'.cell? ⟨g, k * 9 + 1, none⟩ = some (.int .i64 q.p.dst) ∧ w'.cell? ⟨g, k * 9 + 2, none⟩ = some (.int .i64 q.p.kind) ∧ w'.cell? ⟨g, k * 9 + 3, none⟩ = some (.int .i64 q.p.id) ∧ w'.cell? ⟨g, k * 9 + 4, none⟩ = some (.int .i64 q.p.hops) ∧ w'.cell? ⟨g, k * 9 + 5, none⟩ = some (.bool q.p.whole) ∧ w'.cell? ⟨g, k * 9 + 6, none⟩ = some (.int .i64 q.p.off) ∧ w'.cell? ⟨g, k * 9 + 7, none⟩ = some (.bool q.p.more) ∧ w'.cell? ⟨g, k * 9 + 8, none⟩ = some (.slice q.a q.zs.length q.c)) (go_keep)
        (first
          | (go_at_call 65; (with_reducible refine (KA.out _ ((Below.refl _ wr).drew)).mono ?_); rintro e w1 ⟨b, rfl, hb, b1⟩; have hc1 : ∀ b o, b < wr.heap.size → w1.cell? ⟨b, o, none⟩ = wr.cell? ⟨b, o, none⟩ := fun b o h => b1.cell (p := ⟨b, o, none⟩) (by simpa using h)))
      have B1 : Hid (Below (w.heap.size + 1) (w.alloc (.cells (pcells p.p (.slice p.a p.zs.length p.c)) 33)) w1) := (HB.out.drew).trans (b1.mono (by simp; omega))
      have HBq : Hid (b = true ↔ q.key = p.key) := hb
      clear hc1 b1 hb
      cases b
      · go_wp2
        go_roundw
        case rel =>
          refine ⟨k + 1, by omega, by go_num, fun i r hi hr => ?_, B1.out⟩
          rcases Nat.lt_or_ge i k with h' | h'
          · exact HA.out i r h' hr
          · obtain rfl : i = k := by omega
            rw [HQ.out] at hr
            obtain rfl := Option.some.inj hr
            exact fun h => by have := HBq.out.2 h; cases this
        case measure => simp [intOf]; omega
      · go_wp2
        go_ret
        exact SaysB.mk true ⟨fun _ => (show isIn p xs from List.mem_map.2 ⟨q, List.mem_of_getElem? HQ.out, HBq.out.1 (by trivial)⟩), fun _ => rfl⟩ ((Joins.below_alloc1 _ _).trans (B1.out.mono (by omega)))
    · have hjk' : ¬ ((k : Int) < (xs.length : Int)) := by omega
      go_wp2
      go_ret
      refine SaysB.mk false ⟨(fun h => by cases h), fun h => ?_⟩ HB'.out
      obtain ⟨r, hr, hk⟩ := List.mem_map.1 (show p.key ∈ xs.map RV.key from h)
      obtain ⟨i, hi⟩ := List.getElem?_of_mem hr
      have := (List.getElem?_eq_some_iff.1 hi).1
      exact absurd hk (HA.out i r (by omega) hi)
theorem l4Told_any (g cl : Nat) (xs : List RV) (p : RV) (w : World) (hL : RL w g xs) (hm : xs.length ≤ 1048576) (hp : ROk w p) :
    Calls Tryz.prog 46 #[.slice (some ⟨g, 0, none⟩) xs.length cl, .agg #[.int .i64 p.p.src, .int .i64 p.p.dst, .int .i64 p.p.kind, .int .i64 p.p.id, .int .i64 p.p.hops, .bool p.p.whole, .int .i64 p.p.off, .bool p.p.more, .slice p.a p.zs.length p.c]] w (SaysB (p.key ∈ xs.map RV.key) w) := l4Told_raw g cl xs p w hL hm hp
end Go.Proofs.YtjbkgmbakjnlhabGreatDoor

/- FragTake, plain: what the specification looks for and what the program keeps are the same. -/
namespace Go.Proofs.YtjbkgmbakjnlhabGreatDoor
set_option maxRecDepth 100000
open Go.RowKit

theorem k4_eq (p q : Pk) : k4of p = k4of q ↔ p.src = q.src ∧ p.dst = q.dst ∧ p.kind = q.kind ∧ p.id = q.id := by
  unfold k4of
  simp only [Prod.mk.injEq]
theorem alike_hit {s : SV} {x : RV} (hw : waits s) (hok : okB x.p x.zs.length = true) : alikeTo s x ↔ keyS s.key = some (k4of x.p) := by
  obtain ⟨y, hy⟩ := waits_first hw
  have hoy := okB_of_waits hw hy
  have hk : keyS s.key = some (k4of y.p) := by
    unfold keyS SV.key
    simp only
    cases hx : s.xs with
    | nil => rw [hx] at hy; simp at hy
    | cons z r =>
      rw [hx] at hy
      simp at hy
      subst hy
      rfl
  rw [hk, Option.some.injEq, k4_eq]
  constructor
  · rintro ⟨z, hz, ha⟩
    obtain rfl := Option.some.inj (hy.symm.trans hz)
    exact ((alikeB_iff _ _).1 ha).2.2
  · intro h
    exact ⟨y, hy, (alikeB_iff _ _).2 ⟨hoy, hok, h⟩⟩
/-- one more piece that is alike: never the code 1 -/
theorem put_code {s : SV} {x : RV} (hw : waits s) (ha : alikeTo s x) (hl : s.key.1.length ≠ 40) : s.key.1.length < 40 ∧ ((joinL (s.key.1 ++ [x.key])).1 = 0 ∨ (joinL (s.key.1 ++ [x.key])).1 = 2 ∨ (joinL (s.key.1 ++ [x.key])).1 = 3) := by
  have h3 : (joinL s.key.1).1 = 3 := hw.1
  have hal : alikeL s.key.1 = true := by
    cases e : alikeL s.key.1 with
    | true => rfl
    | false =>
      have := (join_one s.key.1).2 e
      omega
  obtain ⟨_, h40, hall⟩ := (alikeL_iff _).1 hal
  have hlt : s.key.1.length < 40 := by omega
  obtain ⟨y, hy, hyx⟩ := ha
  have hym : y.key ∈ s.key.1 := List.mem_map.2 ⟨y, List.mem_of_getElem? hy, rfl⟩
  have hz : ∀ z ∈ s.key.1, alikeB z x.key = true := fun z hz => by
    have h1 := (alikeB_iff _ _).1 (hall z hz y.key hym)
    have h2 := (alikeB_iff _ _).1 hyx
    exact (alikeB_iff _ _).2 ⟨h1.1, h2.2.1, h1.2.2.1.trans h2.2.2.1, h1.2.2.2.1.trans h2.2.2.2.1, h1.2.2.2.2.1.trans h2.2.2.2.2.1, h1.2.2.2.2.2.trans h2.2.2.2.2.2⟩
  refine ⟨hlt, ?_⟩
  rcases join_next (by omega) hz hlt with ⟨h, _⟩ | ⟨_, h⟩ | ⟨h, _⟩
  · omega
  · exact h
  · omega
/-- what FragTake answers -/
def TakeP (now : Int) (ss : List SV) (x : PB) (now' : Int) (ks : List SK) (y : PB) (c : Int) : Prop :=
  (¬ benchOk now ss ∧ now' = 0 ∧ ks = [] ∧ y = zeroPB ∧ c = 1) ∨ (benchOk now ss ∧ now' = now ∧ takeK now (ss.map SV.key) x = (ks, y, c))
theorem TakeP.same {now : Int} {ss ss' : List SV} {x x' : PB} {a a' : Int} {ks ks' : List SK} {y y' : PB} {c c' : Int} (h : TakeP now ss x a ks y c) (h' : TakeP now ss' x' a' ks' y' c') (hk : ss'.map SV.key = ss.map SV.key) (hx : x' = x) : a = a' ∧ ks = ks' ∧ y = y' ∧ c = c' := by
  have hb := benchOk_iff (now := now) hk
  unfold TakeP at h'
  rw [hb, hk, hx] at h'
  rcases h with ⟨n, h1, h2, h3, h4⟩ | ⟨n, h1, h2⟩ <;> rcases h' with ⟨n', h1', h2', h3', h4'⟩ | ⟨n', h1', h2'⟩
  · exact ⟨h1.trans h1'.symm, h2.trans h2'.symm, h3.trans h3'.symm, h4.trans h4'.symm⟩
  · exact absurd n' n
  · exact absurd n n'
  · have e := h2.symm.trans h2'
    simp only [Prod.mk.injEq] at e
    exact ⟨h1.trans h1'.symm, e.1, e.2.1, e.2.2⟩
end Go.Proofs.YtjbkgmbakjnlhabGreatDoor
