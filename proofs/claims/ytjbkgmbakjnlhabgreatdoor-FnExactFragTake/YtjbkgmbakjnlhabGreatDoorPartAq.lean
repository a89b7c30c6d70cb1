/- Marks of a bench: found again; slots, the bench. -/
import Derived.Test.YtjbkgmbakjnlhabGreatDoorBMark
namespace Go.Proofs.YtjbkgmbakjnlhabGreatDoor
set_option maxRecDepth 100000
open Go.RowKit

set_option maxRecDepth 100000 in
set_option maxHeartbeats 6400000 in
theorem heldList_raw (gL cl : Nat) (ys : List RV) (k : Int) (w : World) (hS : SkL w gL ys) (hU : MkU w gL ys k ys.length) (h0 : 0 ≤ k) (h1 : k + 8 * (ys.length : Int) + (sumLen ys : Int) ≤ 4611686018427387904) :
    Calls Tryz.prog 61 #[.slice (some ⟨gL, 0, none⟩) ys.length cl, .int .i64 k] w fun e w' => e = .returned (.int .i64 (k + koff ys ys.length)) ∧ w' = w := by
  have HS : Hid (SkL w gL ys) := hS
  have HU : Hid (MkU w gL ys k ys.length) := hU
  clear hS hU
  have H1 : Hid (k + 8 * (ys.length : Int) + (sumLen ys : Int) ≤ 4611686018427387904) := h1
  have hlen : (ys.length : Int) ≤ 4611686018427387904 := by omega
  have hne : ∀ x : Int, (x != x) = false := fun x => by simp
  have hnb : ∀ x : Bool, (x != x) = false := fun x => by simp
  clear h1
  go_enter Tryz.func61, Tryz.ntmps61
  go_wp2
  go_loop [1, 5] (fun l i => ∃ (m : Nat), m ≤ ys.length ∧ i = .int .i64 m ∧ l = .int .i64 (k + koff ys m)) (fun _ i => ys.length - (intOf i).toNat)
  case atStart => exact ⟨0, by omega, rfl, by simp [koff, sumLen]⟩
  case round =>
    obtain ⟨m, hmn, rfl, rfl⟩ := hrel
    by_cases hlt : m < ys.length
    · obtain ⟨y, hy⟩ := get_of_lt hlt
      have hi : (m : Int) < (ys.length : Int) := by omega
      have HK : Hid (koff ys (m + 1) = koff ys m + 8 + y.zs.length) := koff_succ hy
      have hb1 : k + koff ys m + 8 + (y.zs.length : Int) ≤ 4611686018427387904 := by
        have := koff_le ys (show m + 1 ≤ ys.length by omega)
        rw [HK.out] at this
        have := H1.out
        omega
      have hb0 := koff_nn ys m
      obtain ⟨cur, hc, hcs, r⟩ := HS.out.blk
      have q8 := (cell_of_row _ _ _ _ _ _ hc).trans (r m y hy)
      obtain ⟨hM, hY⟩ := HU.out m y hlt hy
      have HY : Hid (MkY w y.a y.zs.length (k + koff ys m + 8)) := hY
      have HE : Hid (SkY w y.a y.zs.length) := HS.out.each y (List.mem_of_getElem? hy)
      obtain ⟨kk, hkk⟩ : ∃ kk, k + koff ys m = kk := ⟨_, rfl⟩
      have HKK : Hid (k + koff ys m = kk) := hkk
      rw [hkk] at hb1 hM
      have hb2 : 0 ≤ kk := by omega
      rw [hkk]
      obtain ⟨q0, q1, q2, q3, q4, q5, q6, q7⟩ := hM
      clear hc hcs r hy hkk hb0 hY
      go_wp2_with fail
      have Y9 : MkY w y.a y.zs.length (kk + 1 + 1 + 1 + 1 + 1 + 1 + 1 + 1) := by
        have := HY.out
        rw [HKK.out] at this
        rw [show kk + 1 + 1 + 1 + 1 + 1 + 1 + 1 + 1 = kk + 8 by omega]
        exact this
      refine (heldByteS_raw y.a y.zs.length y.c (kk + 1 + 1 + 1 + 1 + 1 + 1 + 1 + 1) w HE.out Y9 (by omega) (by omega)).mono ?_
      rintro e w9 ⟨rfl, e9⟩
      subst e9
      clear Y9 q0 q1 q2 q3 q4 q5 q6 q7 q8
      go_wp2
      go_round
      case rel => exact ⟨m + 1, by omega, by go_num, by rw [HK.out]; have := HKK.out; congr 1; omega⟩
      case measure => simp [intOf]; omega
    · obtain rfl : m = ys.length := by omega
      go_wp2
      go_ret
      exact ⟨rfl, rfl⟩

/-- slots that can be marked -/
structure SkS (w : World) (gS : Nat) (ss : List SV) : Prop where
  blk : ∃ cur : Array Value, w.heap[gS]? = some (.cells cur 71 (0, 0)) ∧ ss.length * 3 ≤ cur.size ∧ ∀ (i : Nat) s, ss[i]? = some s → cur[i * 3]? = some (.slice s.a s.xs.length s.c)
  each : ∀ s ∈ ss, ∃ gL, s.a = some ⟨gL, 0, none⟩ ∧ SkL w gL s.xs
theorem SkS.mkd {F : List Nat} {w w' : World} {gS : Nat} {ss : List SV} (h : SkS w gS ss) (hm : Mk F w w') : SkS w' gS ss := by
  refine ⟨?_, fun s hs => ?_⟩
  · obtain ⟨cur, h1, h2, h3⟩ := h.blk
    obtain ⟨c', k1, k2, _, k3⟩ := hm.shape _ _ _ h1
    exact ⟨c', k1, by omega, fun i y hy => (k3 rfl _ (by omega)).trans (h3 i y hy)⟩
  · obtain ⟨gL, h1, h2⟩ := h.each s hs
    exact ⟨gL, h1, h2.mkd hm⟩
def sneed (s : SV) : Nat := 8 * s.xs.length + sumLen s.xs + 2
def soff (ss : List SV) (i : Nat) : Nat := ((ss.take i).map sneed).sum
theorem soff_succ {ss : List SV} {m : Nat} {s : SV} (hs : ss[m]? = some s) : soff ss (m + 1) = soff ss m + sneed s := by
  unfold soff
  rw [List.take_add_one, hs]
  simp
theorem soff_mono (ss : List SV) {i j : Nat} (h : i ≤ j) : soff ss i ≤ soff ss j := by
  induction h with
  | refl => exact Nat.le_refl _
  | @step j _ ih =>
    refine Nat.le_trans ih ?_
    unfold soff
    rw [List.take_add_one, List.map_append, List.sum_append]
    exact Nat.le_add_right _ _
/-- a slot's blocks, the pieces' first -/
theorem SV.blks_of {s : SV} {gL : Nat} (h : s.a = some ⟨gL, 0, none⟩) : s.blks = lblk gL s.xs := by
  unfold SV.blks lblk
  rw [h]
  rfl
structure MkS1 (w : World) (gS i : Nat) (s : SV) (k : Int) : Prop where
  c1 : w.cell? ⟨gS, i * 3 + 1, none⟩ = some (.int .i64 (k + koff s.xs s.xs.length))
  c2 : w.cell? ⟨gS, i * 3 + 2, none⟩ = some (.bool ((k + koff s.xs s.xs.length + 1) % 3 == 0))
  pcs : ∀ gL, s.a = some ⟨gL, 0, none⟩ → MkU w gL s.xs k s.xs.length
/-- the first slots marked -/
def MkT (w : World) (gS : Nat) (ss : List SV) (k : Int) (m : Nat) : Prop := ∀ (i : Nat) s, i < m → ss[i]? = some s → MkS1 w gS i s (k + soff ss i)
theorem MkT.kept {w w' : World} {gS : Nat} {ss : List SV} {k : Int} {m : Nat} (h : MkT w gS ss k m) (hS : SkS w gS ss) (hb : Below w.heap.size w w') : MkT w' gS ss k m := by
  intro i s hi hs
  obtain ⟨h1, h2, h3⟩ := h i s hi hs
  obtain ⟨cur, hc, _⟩ := hS.blk
  have hl := lt_of_block hc
  refine ⟨(cell_kept (hb.block gS hl)).trans h1, (cell_kept (hb.block gS hl)).trans h2, fun gL ha => (h3 gL ha).kept fun b hb' => hb.block b ?_⟩
  obtain ⟨gL', ha', hK⟩ := hS.each s (List.mem_of_getElem? hs)
  rw [ha] at ha'
  cases ha'
  rcases List.mem_cons.1 hb' with rfl | hb'
  · obtain ⟨cu, hcu, _⟩ := hK.blk
    exact lt_of_block hcu
  · obtain ⟨y, hy, hyb⟩ := List.mem_flatMap.1 hb'
    rcases hK.each y hy with ⟨e, _⟩ | ⟨g, cu, e, hg, _⟩
    · simp [ablk, e] at hyb
    · simp [ablk, e] at hyb
      rw [hyb]
      exact lt_of_block hg
theorem SkL.lts {w : World} {gL : Nat} {ys : List RV} (hK : SkL w gL ys) : ∀ b ∈ lblk gL ys, b < w.heap.size ∧ ∃ cur t, w.heap[b]? = some (.cells cur t (0, 0)) ∧ (t = 33 ∨ t = 5) := by
  intro b hb'
  rcases List.mem_cons.1 hb' with rfl | hb'
  · obtain ⟨cu, hcu, _⟩ := hK.blk
    exact ⟨lt_of_block hcu, cu, _, hcu, Or.inl rfl⟩
  · obtain ⟨y, hy, hyb⟩ := List.mem_flatMap.1 hb'
    rcases hK.each y hy with ⟨e, _⟩ | ⟨g, cu, e, hg, _⟩
    · simp [ablk, e] at hyb
    · simp [ablk, e] at hyb
      rw [hyb]
      exact ⟨lt_of_block hg, cu, _, hg, Or.inr rfl⟩
theorem cell_set_self {w : World} {g o : Nat} {cur : Array Value} {t : TypeId} {v : Value} (hc : w.heap[g]? = some (.cells cur t (0, 0))) (ho : o < cur.size) : (w.setCell ⟨g, o, none⟩ v).cell? ⟨g, o, none⟩ = some v := by
  rw [cell_of_row _ _ _ _ _ _ (set_at hc), Array.getElem?_setIfInBounds_self_of_lt ho]
theorem cell_set_ne {w : World} {g o q : Nat} {cur : Array Value} {t : TypeId} {v : Value} (hc : w.heap[g]? = some (.cells cur t (0, 0))) (ho : o ≠ q) : (w.setCell ⟨g, o, none⟩ v).cell? ⟨g, q, none⟩ = w.cell? ⟨g, q, none⟩ := by
  rw [cell_of_row _ _ _ _ _ _ (set_at hc), cell_of_row _ _ _ _ _ _ hc, Array.getElem?_setIfInBounds_ne ho]

set_option maxRecDepth 100000 in
set_option maxHeartbeats 6400000 in
theorem markSlots_raw (gS cl : Nat) (ss : List SV) (k : Int) (w : World) (hS : SkS w gS ss) (h0 : 0 ≤ k) (h1 : k + (soff ss ss.length : Int) ≤ 4611686018427387904) :
    Calls Tryz.prog 36 #[.slice (some ⟨gS, 0, none⟩) ss.length cl, .int .i64 k] w fun e w' => e = .returned (.int .i64 (k + soff ss ss.length)) ∧ Mk (gS :: ss.flatMap SV.blks) w w' ∧ ((ss.flatMap SV.blks).Nodup → MkT w' gS ss k ss.length) := by
  have HS : Hid (SkS w gS ss) := hS
  clear hS
  have H1 : Hid (k + (soff ss ss.length : Int) ≤ 4611686018427387904) := h1
  have hlen : ss.length ≤ 4611686018427387904 := by
    have : ∀ l : List SV, l.length ≤ (l.map sneed).sum := fun l => by
      induction l with
      | nil => simp
      | cons x r ih => simp only [List.map_cons, List.sum_cons, List.length_cons, sneed]; omega
    have := this ss
    unfold soff at h1
    rw [List.take_length] at h1
    omega
  clear h1
  go_enter Tryz.func36, Tryz.ntmps36
  go_wp2
  go_loopw [1, 5] (fun l i wr => ∃ (m : Nat), m ≤ ss.length ∧ i = .int .i64 m ∧ l = .int .i64 (k + soff ss m) ∧ Hid (Mk (gS :: ss.flatMap SV.blks) w wr) ∧ Hid ((ss.flatMap SV.blks).Nodup → MkT wr gS ss k m)) (fun _ i _ => ss.length - (intOf i).toNat)
  case atStart => exact ⟨0, by omega, rfl, by simp [soff], Mk.refl _ _, fun _ i y h => absurd h (Nat.not_lt_zero _)⟩
  case round =>
    obtain ⟨m, hmn, rfl, rfl, HF, HU⟩ := hrel
    by_cases hlt : m < ss.length
    · obtain ⟨s, hs⟩ := get_of_lt hlt
      have hi : (m : Int) < (ss.length : Int) := by omega
      have SB0 : SkS wr gS ss := HS.out.mkd HF.out
      have HB : Hid (SkS wr gS ss) := SB0
      have HK : Hid (soff ss (m + 1) = soff ss m + sneed s) := soff_succ hs
      have hb1 : k + soff ss m + (8 * (s.xs.length : Int) + (sumLen s.xs : Int) + 2) ≤ 4611686018427387904 := by
        have := soff_mono ss (show m + 1 ≤ ss.length by omega)
        rw [HK.out] at this
        unfold sneed at this
        have := H1.out
        omega
      obtain ⟨cur, hc, hcs, r⟩ := SB0.blk
      obtain ⟨gL, hsa, hSL⟩ := SB0.each s (List.mem_of_getElem? hs)
      have q0 := (cell_of_row _ _ _ _ _ _ hc).trans (r m s hs)
      rw [hsa] at q0
      have hgl := lt_of_block hc
      have HY : Hid (ss[m]? = some s) := hs
      have HA : Hid (s.a = some ⟨gL, 0, none⟩) := hsa
      have HL : Hid (SkL wr gL s.xs) := hSL
      obtain ⟨kk, hkk⟩ : ∃ kk, k + (soff ss m : Int) = kk := ⟨_, rfl⟩
      have HKK : Hid (k + (soff ss m : Int) = kk) := hkk
      rw [hkk] at hb1
      have hb2 : 0 ≤ kk := by omega
      rw [hkk]
      clear hc hcs r hs hkk hsa hSL SB0
      go_wp2_with fail
      refine (markList_raw gL s.c s.xs kk wr HL.out hb2 (by omega)).mono ?_
      rintro e w8 ⟨rfl, g8, o8⟩
      have S8 : SkS w8 gS ss := HB.out.mkd g8
      obtain ⟨c8, hc8, hs8, r8⟩ := S8.blk
      have hbl : s.blks = lblk gL s.xs := SV.blks_of HA.out
      have hin : ∀ b ∈ lblk gL s.xs, b ∈ gS :: ss.flatMap SV.blks := fun b hb => List.mem_cons_of_mem _ (List.mem_flatMap.2 ⟨s, List.mem_of_getElem? HY.out, by rw [hbl]; exact hb⟩)
      have F8 : Mk (gS :: ss.flatMap SV.blks) w w8 := HF.out.trans g8 (fun _ h => h) hin
      have n3 : (71 : TypeId) = 33 → False := by intro h; cases h
      have hk1 : 0 ≤ koff s.xs s.xs.length := koff_nn _ _
      have hk2 : koff s.xs s.xs.length = 8 * (s.xs.length : Int) + (sumLen s.xs : Int) := by unfold koff; rw [List.take_length]
      obtain ⟨kf, hkf⟩ : ∃ kf, kk + koff s.xs s.xs.length = kf := ⟨_, rfl⟩
      have F9 : Hid (Mk (gS :: ss.flatMap SV.blks) w ((w8.setCell ⟨gS, m * 3 + 1, none⟩ (.int .i64 kf)).setCell ⟨gS, m * 3 + 2, none⟩ (.bool ((kf + 1) % 3 == 0)))) := (F8.set hc8 (List.mem_cons_self ..) (fun e => (n3 e).elim) (fun _ => by omega)).set (set_at hc8) (List.mem_cons_self ..) (fun e => (n3 e).elim) (fun _ => by omega)
      have U9 : Hid ((ss.flatMap SV.blks).Nodup → MkT ((w8.setCell ⟨gS, m * 3 + 1, none⟩ (.int .i64 kf)).setCell ⟨gS, m * 3 + 2, none⟩ (.bool ((kf + 1) % 3 == 0))) gS ss k (m + 1)) := by
        intro nd i t hi ht
        have hnS : ∀ (t : SV) (gL : Nat), t ∈ ss → t.a = some ⟨gL, 0, none⟩ → ∀ b ∈ lblk gL t.xs, b ≠ gS := fun t gL ht ha b hb e => by
          obtain ⟨gL', ha', hK⟩ := S8.each t ht
          rw [ha] at ha'
          cases ha'
          obtain ⟨_, cu, ty, h1, h2⟩ := hK.lts b hb
          rw [e, hc8] at h1
          cases h1
          rcases h2 with h2 | h2 <;> cases h2
        have far : ∀ b, b ≠ gS → ((w8.setCell ⟨gS, m * 3 + 1, none⟩ (.int .i64 kf)).setCell ⟨gS, m * 3 + 2, none⟩ (.bool ((kf + 1) % 3 == 0))).heap[b]? = w8.heap[b]? := fun b hb => (Below.heap_setCell _ _ _ _ hb).trans (Below.heap_setCell _ _ _ _ hb)
        by_cases e : i = m
        · subst e
          have ex : s = t := Option.some.inj (HY.out.symm.trans ht)
          subst ex
          rw [HKK.out]
          refine ⟨?_, ?_, fun gL' ha => ?_⟩
          · rw [hkf, cell_set_ne (set_at hc8) (by omega)]
            exact cell_set_self hc8 (by omega)
          · rw [hkf]
            exact cell_set_self (set_at hc8) (by rw [Array.size_setIfInBounds]; omega)
          · rw [HA.out] at ha
            cases ha
            have hsub : List.Sublist (s.xs.flatMap (fun y => ablk y.a)) s.blks := by rw [hbl]; exact List.sublist_cons_self ..
            have nd' : s.blks.Nodup := nd.sublist (by
              have : List.Sublist [s] ss := List.singleton_sublist.2 (List.mem_of_getElem? HY.out)
              simpa using sub_flat (f := SV.blks) this)
            exact (o8 (nd'.sublist hsub)).kept fun b hb => far b (hnS s gL (List.mem_of_getElem? HY.out) HA.out b hb)
        · have him : i < m := by omega
          obtain ⟨a1, a2, a3⟩ := HU.out nd i t him ht
          have kS : w8.heap[gS]? = wr.heap[gS]? := g8.block gS hgl (fun h => hnS s gL (List.mem_of_getElem? HY.out) HA.out gS h rfl)
          refine ⟨?_, ?_, fun gT ha => (a3 gT ha).kept fun b hb => ?_⟩
          · rw [cell_set_ne (set_at hc8) (by omega), cell_set_ne hc8 (by omega), cell_kept kS]
            exact a1
          · rw [cell_set_ne (set_at hc8) (by omega), cell_set_ne hc8 (by omega), cell_kept kS]
            exact a2
          · have hne := hnS t gT (List.mem_of_getElem? ht) ha b hb
            obtain ⟨gT', ha', hKt⟩ := HB.out.each t (List.mem_of_getElem? ht)
            rw [ha] at ha'
            cases ha'
            have hbt : b ∈ t.blks := by rw [SV.blks_of ha]; exact hb
            have hnb : b ∉ lblk gL s.xs := by
              rw [← hbl]
              exact nd_apart nd ht HY.out him b hbt
            exact (far b hne).trans (g8.block b (hKt.lts b hb).1 hnb)
      obtain ⟨u1, hu1⟩ := cells_there (cur := c8) (o := m * 3 + 1) (by omega)
      obtain ⟨u2, hu2⟩ := cells_there (cur := c8) (o := m * 3 + 2) (by omega)
      have q1 := (cell_of_row _ _ _ _ _ _ hc8).trans hu1
      have q2 := (cell_of_row _ _ _ _ _ _ hc8).trans hu2
      have fz : ∀ o, w8.frozen? ⟨gS, o, none⟩ = false := fun o => Joins.unfrozen_of_block hc8 o
      have hg8 := lt_of_block hc8
      rw [hkf]
      rw [hk2] at hkf
      clear hc8 hs8 r8 S8 F8 g8 o8 hin hbl hu1 hu2 hk1 n3 q0
      go_wp2
      go_roundw
      case rel => exact ⟨m + 1, by omega, by go_num, by rw [HK.out]; have := HKK.out; unfold sneed; congr 1; omega, F9.out, U9.out⟩
      case measure => simp [intOf]; omega
    · obtain rfl : m = ss.length := by omega
      go_wp2
      go_ret
      exact ⟨rfl, HF.out, HU.out⟩

set_option maxRecDepth 100000 in
set_option maxHeartbeats 6400000 in
theorem heldSlots_raw (gS cl : Nat) (ss : List SV) (k : Int) (w : World) (hS : SkS w gS ss) (hU : MkT w gS ss k ss.length) (h0 : 0 ≤ k) (h1 : k + (soff ss ss.length : Int) ≤ 4611686018427387904) :
    Calls Tryz.prog 38 #[.slice (some ⟨gS, 0, none⟩) ss.length cl, .int .i64 k] w fun e w' => e = .returned (.int .i64 (k + soff ss ss.length)) ∧ w' = w := by
  have HS : Hid (SkS w gS ss) := hS
  have HU : Hid (MkT w gS ss k ss.length) := hU
  clear hS hU
  have H1 : Hid (k + (soff ss ss.length : Int) ≤ 4611686018427387904) := h1
  have hlen : ss.length ≤ 4611686018427387904 := by
    have : ∀ l : List SV, l.length ≤ (l.map sneed).sum := fun l => by
      induction l with
      | nil => simp
      | cons x r ih => simp only [List.map_cons, List.sum_cons, List.length_cons, sneed]; omega
    have := this ss
    unfold soff at h1
    rw [List.take_length] at h1
    omega
  have hne : ∀ x : Int, (x != x) = false := fun x => by simp
  have hnb : ∀ x : Bool, (x != x) = false := fun x => by simp
  clear h1
  go_enter Tryz.func38, Tryz.ntmps38
  go_wp2
  go_loop [1, 5] (fun l i => ∃ (m : Nat), m ≤ ss.length ∧ i = .int .i64 m ∧ l = .int .i64 (k + soff ss m)) (fun _ i => ss.length - (intOf i).toNat)
  case atStart => exact ⟨0, by omega, rfl, by simp [soff]⟩
  case round =>
    obtain ⟨m, hmn, rfl, rfl⟩ := hrel
    by_cases hlt : m < ss.length
    · obtain ⟨s, hs⟩ := get_of_lt hlt
      have hi : (m : Int) < (ss.length : Int) := by omega
      have HK : Hid (soff ss (m + 1) = soff ss m + sneed s) := soff_succ hs
      have hb1 : k + soff ss m + (8 * (s.xs.length : Int) + (sumLen s.xs : Int) + 2) ≤ 4611686018427387904 := by
        have := soff_mono ss (show m + 1 ≤ ss.length by omega)
        rw [HK.out] at this
        unfold sneed at this
        have := H1.out
        omega
      obtain ⟨cur, hc, hcs, r⟩ := HS.out.blk
      obtain ⟨gL, hsa, hSL⟩ := HS.out.each s (List.mem_of_getElem? hs)
      have q0 := (cell_of_row _ _ _ _ _ _ hc).trans (r m s hs)
      rw [hsa] at q0
      have HL : Hid (SkL w gL s.xs) := hSL
      obtain ⟨q1, q2, hp⟩ := HU.out m s hlt hs
      have hp' := hp gL hsa
      obtain ⟨kk, hkk⟩ : ∃ kk, k + (soff ss m : Int) = kk := ⟨_, rfl⟩
      have HKK : Hid (k + (soff ss m : Int) = kk) := hkk
      rw [hkk] at hb1 hp' q1 q2
      have HP : Hid (MkU w gL s.xs kk s.xs.length) := hp'
      have hb2 : 0 ≤ kk := by omega
      have hk2 : koff s.xs s.xs.length = 8 * (s.xs.length : Int) + (sumLen s.xs : Int) := by unfold koff; rw [List.take_length]
      obtain ⟨kf, hkf⟩ : ∃ kf, kk + koff s.xs s.xs.length = kf := ⟨_, rfl⟩
      have HKF : Hid (kk + koff s.xs s.xs.length = kf) := hkf
      have hb3 : 0 ≤ kf := by omega
      have hb4 : kf + 2 ≤ 4611686018427387904 := by omega
      rw [hkf] at q1 q2
      rw [hk2] at hkf
      rw [hkk]
      clear hc hcs r hs hkk hsa hSL hp hp' hk2
      go_wp2_with fail
      refine (heldList_raw gL s.c s.xs kk w HL.out HP.out hb2 (by omega)).mono ?_
      rintro e w9 ⟨rfl, e9⟩
      subst e9
      rw [HKF.out]
      go_wp2
      go_round
      case rel => exact ⟨m + 1, by omega, by go_num, by rw [HK.out]; have := HKK.out; unfold sneed; congr 1; omega⟩
      case measure => simp [intOf]; omega
    · obtain rfl : m = ss.length := by omega
      go_wp2
      go_ret
      exact ⟨rfl, rfl⟩
end Go.Proofs.YtjbkgmbakjnlhabGreatDoor

/- Benches of the law: marked, held, compared, whatever their slots. -/
namespace Go.Proofs.YtjbkgmbakjnlhabGreatDoor
set_option maxRecDepth 100000
open Go.RowKit

theorem RowB.big {w : World} {T : TypeId} {g : Nat} {cs : List Value} (h : RowB w T g cs) : ∃ cur : Array Value, w.heap[g]? = some (.cells cur T (0, 0)) ∧ cs.length ≤ cur.size ∧ ∀ (k : Nat) v, cs[k]? = some v → cur[k]? = some v := by
  obtain ⟨cur, h1, h2⟩ := h
  have hl : cs.length ≤ cur.size := by
    have e : (cur.toList.take cs.length).length = cs.length := by rw [h2]
    rw [List.length_take] at e
    have e2 : cur.toList.length = cur.size := Array.length_toList
    omega
  refine ⟨cur, h1, hl, fun k v hk => ?_⟩
  have hlt := (List.getElem?_eq_some_iff.1 hk).1
  rw [← h2, List.getElem?_take_of_lt hlt, Array.getElem?_toList] at hk
  exact hk
theorem DataB.sky {w : World} {lo : Nat} {y : RV} (h : DataB w lo y) : SkY w y.a y.zs.length := by
  rcases h.at_ with ⟨h1, h2, _⟩ | ⟨g, h1, _, h3, _⟩
  · exact Or.inl ⟨h1, by rw [h2]; rfl⟩
  · obtain ⟨cur, e1, e2, _⟩ := h3.big
    exact Or.inr ⟨g, cur, h1, e1, by simpa using e2⟩
theorem SlotB.skl {w : World} {lo : Nat} {s : SV} (h : SlotB w lo s) : ∃ gL, s.a = some ⟨gL, 0, none⟩ ∧ SkL w gL s.xs := by
  obtain ⟨gL, h1, _, h3⟩ := h.at_
  obtain ⟨cur, e1, e2, e3⟩ := h3.big
  rw [flatR_len] at e2
  exact ⟨gL, h1, ⟨cur, e1, e2, fun i y hy => e3 _ _ ((flatR_at s.xs i 8 y hy (by omega)).trans rfl)⟩, fun y hy => (h.each y hy).sky⟩
theorem AnsB.sks {w : World} {lo gS : Nat} {ts : List SV} (h : AnsB w lo gS ts) : SkS w gS ts := by
  obtain ⟨cur, e1, e2, e3⟩ := h.row.big
  rw [flatS_len] at e2
  exact ⟨⟨cur, e1, e2, fun i y hy => e3 _ _ ((flatS_at ts i 0 y hy (by omega)).trans rfl)⟩, fun s hs => (h.forest.each s hs).skl⟩
theorem LB.skl {w : World} {lo gL n : Nat} {ys : List RV} (h : LB w lo gL n ys) (hn : ys.length = n) : SkL w gL ys := by
  obtain ⟨cur, h1, h2, h3⟩ := h.blk
  refine ⟨⟨cur, h1, by omega, fun i y hy => (h3 i y hy 8 (by omega)).trans rfl⟩, fun y hy => ?_⟩
  obtain ⟨gy, a1, _, _, a4, _⟩ := h.each y hy
  exact Or.inr ⟨gy, _, a1, a4, by simp [cellsOf]⟩
theorem SB.sks {w : World} {lo gS n : Nat} {ts : List SV} (h : SB w lo gS n ts) (hn : ts.length = n) : SkS w gS ts := by
  obtain ⟨cur, h1, h2, h3⟩ := h.blk
  refine ⟨⟨cur, h1, by omega, fun i y hy => (h3 i y hy 0 (by omega)).trans rfl⟩, fun t ht => ?_⟩
  obtain ⟨gL, a1, _, a3, _⟩ := h.each t ht
  exact ⟨gL, a1, a3.skl rfl⟩
theorem sumLen_bound {ys : List RV} (h : ∀ y ∈ ys, y.zs.length ≤ 1048576) : sumLen ys ≤ ys.length * 1048576 := by
  induction ys with
  | nil => simp [sumLen]
  | cons x r ih =>
    have h1 := h x (List.mem_cons_self ..)
    have h2 := ih fun y hy => h y (List.mem_cons_of_mem _ hy)
    have e : sumLen (x :: r) = x.zs.length + sumLen r := by simp [sumLen]
    rw [e, List.length_cons]
    omega
theorem sneed_bound {s : SV} (h : ∀ y ∈ s.xs, y.zs.length ≤ 1048576) (hl : s.xs.length ≤ 1048576) : sneed s ≤ 1099520016386 := by
  have h1 := sumLen_bound h
  have h2 : s.xs.length * 1048576 ≤ 1048576 * 1048576 := Nat.mul_le_mul_right _ hl
  unfold sneed
  omega
theorem soff_bound {ss : List SV} (h : ∀ s ∈ ss, sneed s ≤ 1099520016386) : soff ss ss.length ≤ ss.length * 1099520016386 := by
  unfold soff
  rw [List.take_length]
  induction ss with
  | nil => simp
  | cons x r ih =>
    have h1 := h x (List.mem_cons_self ..)
    have h2 := ih fun y hy => h y (List.mem_cons_of_mem _ hy)
    rw [List.map_cons, List.sum_cons, List.length_cons]
    omega
theorem AnsB.need {w : World} {lo gS : Nat} {ts : List SV} (h : AnsB w lo gS ts) (hl : ts.length ≤ 1048576) : (1 : Int) + (soff ts ts.length : Int) ≤ 4611686018427387904 := by
  have := soff_bound fun s hs => sneed_bound (fun y hy => ((h.forest.each s hs).each y hy).len) (h.forest.each s hs).len
  omega
theorem SB.need {w : World} {lo gS n : Nat} {ts : List SV} (h : SB w lo gS n ts) (hl : ts.length ≤ 1048576) : (1 : Int) + (soff ts ts.length : Int) ≤ 4611686018427387904 := by
  have := soff_bound (ss := ts) fun s hs => by
    obtain ⟨gL, _, _, a3, a4⟩ := h.each s hs
    refine sneed_bound (fun y hy => ?_) a4
    obtain ⟨gy, _, _, _, _, a5, _⟩ := a3.each y hy
    exact a5
  omega
/-- slots that can be marked, also none -/
def SkQ (w : World) (oa : Option Addr) (ss : List SV) : Prop := (oa = none ∧ ss = []) ∨ ∃ gS, oa = some ⟨gS, 0, none⟩ ∧ SkS w gS ss
theorem SkQ.below {w w' : World} {oa : Option Addr} {ss : List SV} (h : SkQ w oa ss) (hb : Below w.heap.size w w') : SkQ w' oa ss := by
  refine h.imp id ?_
  rintro ⟨g, h1, h2⟩
  exact ⟨g, h1, h2.mkd (Mk.below (F := []) hb)⟩
theorem SkQ.mkd {F : List Nat} {w w' : World} {oa : Option Addr} {ss : List SV} (h : SkQ w oa ss) (hb : Mk F w w') : SkQ w' oa ss := by
  refine h.imp id ?_
  rintro ⟨g, h1, h2⟩
  exact ⟨g, h1, h2.mkd hb⟩
/-- marked slots -/
def MkQ (w : World) (oa : Option Addr) (ss : List SV) : Prop := ∀ gS, oa = some ⟨gS, 0, none⟩ → MkT w gS ss 1 ss.length
theorem MkQ.below {w w' : World} {oa : Option Addr} {ss : List SV} (h : MkQ w oa ss) (hS : SkQ w oa ss) (hb : Below w.heap.size w w') : MkQ w' oa ss := by
  intro gS e
  rcases hS with ⟨e', _⟩ | ⟨g, e', h2⟩
  · rw [e] at e'; cases e'
  · rw [e] at e'; cases e'
    exact (h gS e).kept h2 hb
def qblk (oa : Option Addr) (ss : List SV) : List Nat := ablk oa ++ ss.flatMap SV.blks

set_option maxHeartbeats 800000 in
theorem markSlots_q (oa : Option Addr) (cl : Nat) (ss : List SV) (w : World) (hS : SkQ w oa ss) (h1 : (1 : Int) + (soff ss ss.length : Int) ≤ 4611686018427387904) :
    Calls Tryz.prog 36 #[.slice oa ss.length cl, .int .i64 1] w fun e w' => e = .returned (.int .i64 (1 + soff ss ss.length)) ∧ Mk (qblk oa ss) w w' ∧ ((ss.flatMap SV.blks).Nodup → MkQ w' oa ss) := by
  rcases hS with ⟨rfl, rfl⟩ | ⟨g, rfl, hS⟩
  · clear h1
    go_enter Tryz.func36, Tryz.ntmps36
    go_wp2
    refine wp_loop_rounds 1 ?_
    rw [rounds_succ]
    go_wp2
    go_ret
    exact ⟨ret_int (by simp [soff]), Mk.refl _ _, fun _ g h => by cases h⟩
  · refine (markSlots_raw g cl ss 1 w hS (by omega) h1).mono ?_
    rintro e w' ⟨h1, h2, h3⟩
    exact ⟨h1, h2, fun nd gS e => by cases e; exact h3 nd⟩
set_option maxHeartbeats 800000 in
theorem heldSlots_q (oa : Option Addr) (cl : Nat) (ss : List SV) (w : World) (hS : SkQ w oa ss) (hM : MkQ w oa ss) (h1 : (1 : Int) + (soff ss ss.length : Int) ≤ 4611686018427387904) :
    Calls Tryz.prog 38 #[.slice oa ss.length cl, .int .i64 1] w fun e w' => e = .returned (.int .i64 (1 + soff ss ss.length)) ∧ w' = w := by
  rcases hS with ⟨rfl, rfl⟩ | ⟨g, rfl, hS⟩
  · clear h1 hM
    go_enter Tryz.func38, Tryz.ntmps38
    go_wp2
    refine wp_loop_rounds 1 ?_
    rw [rounds_succ]
    go_wp2
    go_ret
    exact ⟨ret_int (by simp [soff]), rfl⟩
  · exact heldSlots_raw g cl ss 1 w hS (hM g rfl) (by omega) h1

set_option maxHeartbeats 800000 in
theorem markBench_q (now : Int) (oa : Option Addr) (cl : Nat) (ss : List SV) (w : World) (hS : SkQ w oa ss) (h1 : (1 : Int) + (soff ss ss.length : Int) ≤ 4611686018427387904) :
    Calls Tryz.prog 13 #[.agg #[.int .i64 now, .slice oa ss.length cl], .int .i64 1] w fun e w' => e = .returned (.int .i64 (1 + soff ss ss.length)) ∧ Mk (qblk oa ss) w w' ∧ ((ss.flatMap SV.blks).Nodup → MkQ w' oa ss) := by
  have KM : Hid (∀ W : World, Below w.heap.size w W → Calls Tryz.prog 36 #[.slice oa ss.length cl, .int .i64 1] W fun e w' => e = .returned (.int .i64 (1 + soff ss ss.length)) ∧ Mk (qblk oa ss) W w' ∧ ((ss.flatMap SV.blks).Nodup → MkQ w' oa ss)) := fun W h => markSlots_q oa cl ss W (hS.below h) h1
  clear hS
  go_enter Tryz.func13, Tryz.ntmps13
  go_wp2_with fail
  refine (KM.out _ (Joins.below_alloc1 _ _)).mono ?_
  rintro e w1 ⟨rfl, m1, n1⟩
  have M1 : Hid (Mk (qblk oa ss) w w1) := (Mk.below (Joins.below_alloc1 _ _)).trans m1 (fun _ h => h) (fun _ h => h)
  have N1 : Hid ((ss.flatMap SV.blks).Nodup → MkQ w1 oa ss) := n1
  clear m1 n1
  go_wp2
  go_ret
  exact ⟨rfl, M1.out, N1.out⟩
set_option maxHeartbeats 800000 in
theorem heldBench_q (now : Int) (oa : Option Addr) (cl : Nat) (ss : List SV) (w : World) (hS : SkQ w oa ss) (hM : MkQ w oa ss) (h1 : (1 : Int) + (soff ss ss.length : Int) ≤ 4611686018427387904) :
    Calls Tryz.prog 15 #[.agg #[.int .i64 now, .slice oa ss.length cl], .int .i64 1] w fun e w' => e = .returned (.int .i64 (1 + soff ss ss.length)) ∧ Below w.heap.size w w' := by
  have KM : Hid (∀ W : World, Below w.heap.size w W → Calls Tryz.prog 38 #[.slice oa ss.length cl, .int .i64 1] W fun e w' => e = .returned (.int .i64 (1 + soff ss ss.length)) ∧ w' = W) := fun W h => heldSlots_q oa cl ss W (hS.below h) (hM.below hS h) h1
  clear hS hM
  go_enter Tryz.func15, Tryz.ntmps15
  go_wp2_with fail
  refine (KM.out _ (Joins.below_alloc1 _ _)).mono ?_
  rintro e w1 ⟨rfl, rfl⟩
  go_wp2
  go_ret
  exact ⟨rfl, Joins.below_alloc1 _ _⟩

set_option maxHeartbeats 800000 in
theorem eqSlots_q (oa ob : Option Addr) (cl cl' : Nat) (xs ys : List SV) (w : World) (hL : SLq w oa xs) (hL' : SLq w ob ys) (hk : ys.map SV.key = xs.map SV.key) (hm : xs.length ≤ 1048576) :
    Calls Tryz.prog 34 #[.slice oa xs.length cl, .slice ob ys.length cl'] w fun e w' => e = .returned (.bool true) ∧ Below w.heap.size w w' := by
  have hl : ys.length = xs.length := map_len hk
  by_cases h0 : xs = []
  · subst h0
    have h0' : ys = [] := List.length_eq_zero_iff.1 (hl.trans rfl)
    subst h0'
    clear hL hL' hk hl
    go_enter Tryz.func34, Tryz.ntmps34
    go_wp2
    refine wp_loop_rounds 1 ?_
    rw [rounds_succ]
    go_wp2
    go_ret
    exact ⟨rfl, Below.refl _ _⟩
  · rcases hL with h | ⟨g, rfl, h1⟩
    · exact absurd h h0
    · rcases hL' with h | ⟨g', rfl, h2⟩
      · subst h
        exact absurd (List.length_eq_zero_iff.1 hl.symm) h0
      · rw [hl]
        exact eqFragSlotS_same g g' cl cl' xs ys w h1 h2 hk hm
set_option maxHeartbeats 800000 in
theorem eqBench_q (now : Int) (oa ob : Option Addr) (cl cl' : Nat) (xs ys : List SV) (w : World) (hL : SLq w oa xs) (hL' : SLq w ob ys) (hk : ys.map SV.key = xs.map SV.key) (hm : xs.length ≤ 1048576) :
    Calls Tryz.prog 11 #[.agg #[.int .i64 now, .slice oa xs.length cl], .agg #[.int .i64 now, .slice ob ys.length cl']] w fun e w' => e = .returned (.bool true) ∧ Below w.heap.size w w' := by
  have KE : Hid (∀ W : World, Below w.heap.size w W → Calls Tryz.prog 34 #[.slice oa xs.length cl, .slice ob ys.length cl'] W fun e w' => e = .returned (.bool true) ∧ Below W.heap.size W w') := fun W h => eqSlots_q oa ob cl cl' xs ys W (hL.below h) (hL'.below h) hk hm
  have hne : ∀ z : Int, (z != z) = false := fun z => by simp
  clear hL hL' hk
  go_enter Tryz.func11, Tryz.ntmps11
  go_wp2_with fail
  refine (KE.out _ (Joins.below_alloc2 _ _ _)).mono ?_
  rintro e w1 ⟨rfl, b1⟩
  have B1 : Hid (Below w.heap.size w w1) := (Joins.below_alloc2 _ _ _).trans (b1.mono (by simp; omega))
  clear b1
  go_wp2
  go_ret
  exact ⟨rfl, B1.out⟩
end Go.Proofs.YtjbkgmbakjnlhabGreatDoor
