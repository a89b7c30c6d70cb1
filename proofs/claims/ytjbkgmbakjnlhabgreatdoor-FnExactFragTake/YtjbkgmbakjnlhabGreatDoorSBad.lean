/- The specification's l4Bad: a slot that is spoilt. -/
import Derived.Test.YtjbkgmbakjnlhabGreatDoorPartAx
import Derived.Test.YtjbkgmbakjnlhabGreatDoorPartAu
import Derived.Test.YtjbkgmbakjnlhabGreatDoorPartAq
namespace Go.Proofs.YtjbkgmbakjnlhabGreatDoor
set_option maxRecDepth 100000
open Go.RowKit

def badS (s : SV) : SV := { a := s.a, c := s.c, xs := s.xs.take 1, since := s.since, bad := true }
theorem badS_key (s : SV) : (badS s).key = spoilK s.key := by
  unfold SV.key badS spoilK
  simp [List.map_take]
/-- one slot is put anew -/
theorem SLf.put {w w' : World} {g i : Nat} {ts : List SV} {t : SV} {cur cur' : Array Value} (h : SL w g ts) (hb : w.heap[g]? = some (.cells cur 71 (0, 0))) (hb' : w'.heap[g]? = some (.cells cur' 71 (0, 0)))
    (hf : ∀ o, o / 3 ≠ i → cur'[o]? = cur[o]?) (e0 : cur'[i * 3]? = some (.slice t.a t.xs.length t.c)) (e1 : cur'[i * 3 + 1]? = some (.int .i64 t.since)) (e2 : cur'[i * 3 + 2]? = some (.bool t.bad)) (ho : ∀ s ∈ ts, SOk w' s) (ht : SOk w' t) : SLf w' g 0 (ts.set i t) := by
  refine ⟨lt_of_block hb', fun k x hx => ?_, fun x hx => ?_⟩
  · have hc : ∀ o, w'.cell? ⟨g, o, none⟩ = cur'[o]? := fun o => cell_of_row _ _ _ _ _ _ hb'
    have hc0 : ∀ o, w.cell? ⟨g, o, none⟩ = cur[o]? := fun o => cell_of_row _ _ _ _ _ _ hb
    by_cases e : i = k
    · subst e
      have hl : i < ts.length := by
        have := (List.getElem?_eq_some_iff.1 hx).1
        rw [List.length_set] at this
        exact this
      rw [List.getElem?_set_self hl] at hx
      obtain rfl := Option.some.inj hx
      exact ⟨by rw [Nat.zero_add, hc]; exact e0, by rw [Nat.zero_add, hc]; exact e1, by rw [Nat.zero_add, hc]; exact e2⟩
    · rw [List.getElem?_set_ne e] at hx
      obtain ⟨a, b, c⟩ := h.elem k x hx
      rw [hc0] at a b c
      exact ⟨by rw [Nat.zero_add, hc, hf _ (by omega)]; exact a, by rw [Nat.zero_add, hc, hf _ (by omega)]; exact b, by rw [Nat.zero_add, hc, hf _ (by omega)]; exact c⟩
  · rcases List.mem_or_eq_of_mem_set hx with h1 | h1
    · exact ho x h1
    · rw [h1]; exact ht
theorem SOk.take1 {w : World} {s : SV} (h : SOk w s) : SOk w (badS s) := by
  obtain ⟨gL, h1, h2⟩ := h.at_
  refine ⟨⟨gL, h1, h2.lt, fun k x hx => ?_, fun x hx => h2.each x (List.mem_of_mem_take hx)⟩, ?_, ?_, h.capM⟩
  · have hx' : (s.xs.take 1)[k]? = some x := hx
    rw [List.getElem?_take] at hx'
    split at hx'
    · exact h2.elem k x hx'
    · cases hx'
  · have := h.len
    show (s.xs.take 1).length ≤ _
    rw [List.length_take]; omega
  · have := h.cap
    show (s.xs.take 1).length ≤ _
    rw [List.length_take]
    show min 1 s.xs.length ≤ s.c
    omega
/-- slots' pieces are left alone where only a block of slots is written -/
theorem CAns.soks {w w' : World} {lo g c : Nat} {ts : List SV} (h : CAns w lo g c ts) (hk : ∀ b, b < w.heap.size → b ≠ g → w'.heap[b]? = w.heap[b]?) : ∀ s ∈ ts, SOk w' s := by
  intro s hs
  have F : Forest w' lo ts := h.forest.kept fun b hb => by
    obtain ⟨_, h2, cur, t, h3, h4⟩ := h.forest.blk b hb
    refine hk b h2 fun e => ?_
    obtain ⟨cu, hcu⟩ := own_at h.own g rfl
    rw [e, hcu] at h3
    cases h3
    rcases h4 with h4 | h4 <;> cases h4
  exact (F.each s hs).sok
theorem CAns.soksB {w w' : World} {lo g c : Nat} {ts : List SV} (h : CAns w lo g c ts) (hk : ∀ b ∈ ts.flatMap SV.blks, w'.heap[b]? = w.heap[b]?) : ∀ s ∈ ts, SOk w' s :=
  fun s hs => ((h.forest.kept hk).each s hs).sok
theorem CAns.noG {w : World} {lo g c : Nat} {ts : List SV} (h : CAns w lo g c ts) : ∀ b ∈ ts.flatMap SV.blks, b ≠ g ∧ b < w.heap.size := fun b hb => by
  obtain ⟨_, h2, cur, t, h3, h4⟩ := h.forest.blk b hb
  refine ⟨fun e => ?_, h2⟩
  obtain ⟨cu, hcu⟩ := own_at h.own g rfl
  rw [e, hcu] at h3
  cases h3
  rcases h4 with h4 | h4 <;> cases h4

set_option maxRecDepth 100000 in
set_option maxHeartbeats 6400000 in
theorem l4Bad_any (now : Int) (g c i lo : Nat) (ts : List SV) (s : SV) (w : World) (hC : CAns w lo g c ts) (hi : ts[i]? = some s) (hx : 1 ≤ s.xs.length) (hm : ts.length ≤ 1048576) :
    Calls Tryz.prog 47 #[.agg #[.int .i64 now, .slice (some ⟨g, 0, none⟩) ts.length c], .int .i64 i] w fun e w' => e = .returned (.agg #[.int .i64 now, .slice (some ⟨g, 0, none⟩) ts.length c]) ∧ (∀ W', (∀ b, b = g ∨ b ∈ ts.flatMap SV.blks → W'.heap[b]? = w'.heap[b]?) → SLf W' g 0 (ts.set i (badS s))) ∧ Only (fun b => b = g) w w' := by
  have HC : Hid (CAns w lo g c ts) := hC
  have HI : Hid (ts[i]? = some s) := hi
  have hlt := (List.getElem?_eq_some_iff.1 hi).1
  have hli : (i : Int) < (ts.length : Int) := by omega
  have hm' : i ≤ 1048576 := by omega
  have hS := hC.ans.sl
  obtain ⟨c0, c1, c2⟩ := hS.elem i s hi
  have HSo : Hid (SOk w s) := hS.each s (List.mem_of_getElem? hi)
  obtain ⟨gL, hgL, _⟩ := HSo.out.at_
  have hc1 := HSo.out.cap
  have hc2 := HSo.out.capM
  obtain ⟨n, hn⟩ : ∃ n, s.xs.length = n := ⟨_, rfl⟩
  have HN : Hid (s.xs.length = n) := hn
  have HG : Hid (s.a = some ⟨gL, 0, none⟩) := hgL
  rw [hgL, hn] at c0
  rw [hn] at hc1 hx
  obtain ⟨gz, hgz, _, hcap, hcm, hown⟩ : ∃ cur : Array Value, w.heap[g]? = some (.cells cur 71 (0, 0)) ∧ lo ≤ g ∧ ts.length ≤ c ∧ c ≤ 9223372036854775807 ∧ cur.size = c * 3 := by
    rcases hC.own.2 with ⟨hv, _⟩ | ⟨g', cap, cur, hv, h1, h2, h3, h4, h5, _⟩
    · cases hv
    · cases hv
      exact ⟨cur, h2, h1, h3, by unfold maxLen at h4; omega, h5⟩
  have fz : ∀ o, w.frozen? ⟨g, o, none⟩ = false := fun o => Joins.unfrozen_of_block hgz o
  have lg := lt_of_block hgz
  have HB : Hid (∀ W', (∀ b ∈ ts.flatMap SV.blks, W'.heap[b]? = w.heap[b]?) → W'.heap[g]? = some (.cells ((gz.setIfInBounds (i * 3 + 2) (.bool true)).setIfInBounds (i * 3) (.slice (some ⟨gL, 0, none⟩) 1 s.c)) 71 (0, 0)) → SLf W' g 0 (ts.set i (badS s))) := fun W' h1 h2 => by
    have hso := HC.out.soksB (w' := W') h1
    have hgs : ∀ o v, w.cell? ⟨g, o, none⟩ = some v → gz[o]? = some v := fun o v hv => (cell_of_row _ _ _ _ _ _ hgz).symm.trans hv
    refine SLf.put hS hgz h2 (fun o ho => ?_) ?_ ?_ ?_ hso (hso s (List.mem_of_getElem? HI.out)).take1
    · rw [Array.getElem?_setIfInBounds_ne (by omega), Array.getElem?_setIfInBounds_ne (by omega)]
    · rw [Array.getElem?_setIfInBounds_self_of_lt (by rw [Array.size_setIfInBounds]; omega)]
      show _ = some (Value.slice s.a (s.xs.take 1).length s.c)
      rw [HG.out, List.length_take, HN.out, show min 1 n = 1 by omega]
    · rw [Array.getElem?_setIfInBounds_ne (by omega), Array.getElem?_setIfInBounds_ne (by omega)]
      exact hgs _ _ c1
    · rw [Array.getElem?_setIfInBounds_ne (by omega), Array.getElem?_setIfInBounds_self_of_lt (by omega)]
      rfl
  have HGZ : Hid (w.heap[g]? = some (.cells gz 71 (0, 0))) := hgz
  clear hS hC hi hgz hn hgL c1 hown hcap
  obtain ⟨W, hW⟩ : ∃ W, ((w.alloc (.cells #[.int .i64 now, .slice (some ⟨g, 0, none⟩) ts.length c] 32)).alloc (.cells #[.int .i64 0, .slice none 0 0] 32)).setCell ⟨g, i * 3 + 2, none⟩ (.bool true) = W := ⟨_, rfl⟩
  have sW : W.heap.size = w.heap.size + 2 := by rw [← hW]; simp [World.setCell]
  have kW : ∀ b, b ≠ g → b < w.heap.size → W.heap[b]? = w.heap[b]? := fun b hb hl => by
    rw [← hW]
    exact (Below.heap_setCell _ _ _ _ hb).trans ((Joins.below_alloc2 _ _ _).block b hl)
  have fW : W.os = w.os ∧ W.tape = w.tape ∧ W.output = w.output := by rw [← hW]; exact ⟨rfl, rfl, rfl⟩
  have a0 : W.heap[w.heap.size]? = some (.cells #[.int .i64 now, .slice (some ⟨g, 0, none⟩) ts.length c] 32 (0, 0)) := by
    rw [← hW]
    exact (Below.heap_setCell _ _ _ _ (by simp only; omega)).trans ((Below.heap_alloc _ _ _ (by simp)).trans (heap_new _ _ _ rfl))
  have a1 : W.heap[w.heap.size + 1]? = some (.cells #[.int .i64 0, .slice none 0 0] 32 (0, 0)) := by
    rw [← hW]
    exact (Below.heap_setCell _ _ _ _ (by simp only; omega)).trans (heap_new _ _ _ (by simp))
  have ag : W.heap[g]? = some (.cells (gz.setIfInBounds (i * 3 + 2) (.bool true)) 71 (0, 0)) := by
    rw [← hW]
    exact set_at (((Joins.below_alloc2 _ _ _).block g lg).trans HGZ.out)
  have v0 : W.cell? ⟨g, i * 3, none⟩ = some (.slice (some ⟨gL, 0, none⟩) n s.c) := by
    rw [cell_of_row _ _ _ _ _ _ ag, Array.getElem?_setIfInBounds_ne (by omega)]
    exact (cell_of_row _ _ _ _ _ _ HGZ.out).symm.trans c0
  go_enter Tryz.func47, Tryz.ntmps47
  go_upto_region 2 with fail
  (first | rw [hW] | skip)
  clear hW c0 c2 fz
  have SK : Hid (∀ U : World, U.heap[w.heap.size]? = W.heap[w.heap.size]? → U.cell? ⟨w.heap.size, 1, none⟩ = some (.slice (some ⟨g, 0, none⟩) ts.length c)) := fun U h0 => cell_of_row _ _ _ _ _ _ (h0.trans a0)
  refine wp_region_held_drew (S := fun U => U.cell? ⟨w.heap.size, 1, none⟩ = some (.slice (some ⟨g, 0, none⟩) ts.length c)) (by kernel_rfl) (SK.out _ rfl) (fun hH => ?_)
  refine take_held 0 (some 10) (.pointer (some ⟨w.heap.size, 1, none⟩)) rfl rfl (by kernel_rfl) (by kernel_rfl) (by kernel_rfl) (fun _ _ _ h => h) (by rfl) (fun w hS => by go_simp) hH ?_
  simp only [Act.put, List.setIfInBounds_toArray, List.set_cons_zero, List.set_cons_succ]
  refine take_held 1 (some 11) (.slice (some ⟨g, 0, none⟩) ts.length c) rfl rfl (by kernel_rfl) (by kernel_rfl) (by kernel_rfl) (fun _ _ _ h => h) (by rfl) (fun w hS => by have s0 := hS; go_simp) hH ?_
  simp only [Act.put, List.setIfInBounds_toArray, List.set_cons_zero, List.set_cons_succ]
  refine take_held 2 (some 12) (.int .i64 i) rfl rfl (by kernel_rfl) (by kernel_rfl) (by kernel_rfl) (fun _ _ _ h => h) (by rfl) (fun w hS => by go_simp) hH ?_
  simp only [Act.put, List.setIfInBounds_toArray, List.set_cons_zero, List.set_cons_succ]
  refine take_held 3 (some 13) (.pointer (some ⟨w.heap.size, 1, none⟩)) rfl rfl (by kernel_rfl) (by kernel_rfl) (by kernel_rfl) (fun _ _ _ h => h) (by rfl) (fun w hS => by go_simp) hH ?_
  simp only [Act.put, List.setIfInBounds_toArray, List.set_cons_zero, List.set_cons_succ]
  refine take_held 4 (some 14) (.slice (some ⟨g, 0, none⟩) ts.length c) rfl rfl (by kernel_rfl) (by kernel_rfl) (by kernel_rfl) (fun _ _ _ h => h) (by rfl) (fun w hS => by have s0 := hS; go_simp) hH ?_
  simp only [Act.put, List.setIfInBounds_toArray, List.set_cons_zero, List.set_cons_succ]
  refine take_held 5 (some 15) (.int .i64 i) rfl rfl (by kernel_rfl) (by kernel_rfl) (by kernel_rfl) (fun _ _ _ h => h) (by rfl) (fun w hS => by go_simp) hH ?_
  simp only [Act.put, List.setIfInBounds_toArray, List.set_cons_zero, List.set_cons_succ]
  refine take_held 6 (some 16) (.pointer (some ⟨g, i * 3, none⟩)) rfl rfl (by kernel_rfl) (by kernel_rfl) (by kernel_rfl) (fun _ _ _ h => h) (by rfl) (fun w hS => by go_simp) hH ?_
  simp only [Act.put, List.setIfInBounds_toArray, List.set_cons_zero, List.set_cons_succ]
  refine take_held 7 (some 17) (.pointer (some ⟨g, i * 3, none⟩)) rfl rfl (by kernel_rfl) (by kernel_rfl) (by kernel_rfl) (fun _ _ _ h => h) (by rfl) (fun w hS => by go_simp) hH ?_
  simp only [Act.put, List.setIfInBounds_toArray, List.set_cons_zero, List.set_cons_succ]
  have vd : W.drew.cell? ⟨g, i * 3, none⟩ = some (.slice (some ⟨gL, 0, none⟩) n s.c) := v0
  refine wpAnyH_ready (rs := [8]) (by kernel_rfl) (by simp) ?_
  refine AllReadyH.cons rfl (fun K hK => ?_) AllReadyH.nil
  go_simp
  refine hK.out _ _ (SK.out _ rfl) (fun hH => ?_)
  clear hK K
  (first | (simp only [Act.put, List.setIfInBounds_toArray, List.set_cons_zero, List.set_cons_succ]) | skip)
  refine take_held 9 (some 19) (.slice (some ⟨gL, 0, none⟩) 1 s.c) rfl rfl (by kernel_rfl) (by kernel_rfl) (by kernel_rfl) (fun _ _ _ h => h) (by rfl) (fun w hS => by go_simp; intro h; omega) hH ?_
  simp only [Act.put, List.setIfInBounds_toArray, List.set_cons_zero, List.set_cons_succ]
  refine take_held 10 (some 20) (.pointer (some ⟨g, i * 3, none⟩)) rfl rfl (by kernel_rfl) (by kernel_rfl) (by kernel_rfl) (fun _ _ _ h => h) (by rfl) (fun w hS => by go_simp) hH ?_
  simp only [Act.put, List.setIfInBounds_toArray, List.set_cons_zero, List.set_cons_succ]
  refine take_held 11 (some 21) (.pointer (some ⟨g, i * 3, none⟩)) rfl rfl (by kernel_rfl) (by kernel_rfl) (by kernel_rfl) (fun _ _ _ h => h) (by rfl) (fun w hS => by go_simp) hH ?_
  simp only [Act.put, List.setIfInBounds_toArray, List.set_cons_zero, List.set_cons_succ]
  have fzg : ∀ o, W.frozen? ⟨g, o, none⟩ = false := fun o => Joins.unfrozen_of_block ag o
  refine wpAnyH_ready (rs := [12]) (by kernel_rfl) (by simp) ?_
  refine AllReadyH.cons rfl (fun K hK => ?_) AllReadyH.nil
  go_simp
  refine hK.out _ _ (SK.out _ (Below.heap_setCell _ _ _ _ (by simp only; omega))) (fun hH => ?_)
  clear hK K
  refine wpAnyH_done (by kernel_rfl) ?_ _
  clear hH vd
  obtain ⟨W2, hW2⟩ : ∃ W2, (W.setCell ⟨g, i * 3, none⟩ (.slice (some ⟨gL, 0, none⟩) 1 s.c)).drew = W2 := ⟨_, rfl⟩
  have k2 : ∀ b, b ≠ g → W2.heap[b]? = W.heap[b]? := fun b hb => by rw [← hW2]; exact Below.heap_setCell _ _ _ _ hb
  have s2 : W2.heap.size = W.heap.size := by rw [← hW2]; simp [World.setCell]
  have f2 : W2.os = W.os ∧ W2.tape = W.tape ∧ W2.output = W.output := by
    have hd := draw1 (W.setCell ⟨g, i * 3, none⟩ (.slice (some ⟨gL, 0, none⟩) 1 s.c))
    rw [← hW2]
    exact ⟨hd.os, hd.tape, hd.output⟩
  have g2 : W2.heap[g]? = some (.cells ((gz.setIfInBounds (i * 3 + 2) (.bool true)).setIfInBounds (i * 3) (.slice (some ⟨gL, 0, none⟩) 1 s.c)) 71 (0, 0)) := by
    rw [← hW2]
    exact set_at ag
  have q0 := (k2 (w.heap.size) (by omega)).trans a0
  have q1 := (k2 (w.heap.size + 1) (by omega)).trans a1
  have z0 : W2.cell? ⟨w.heap.size, 0, none⟩ = some (.int .i64 now) := cell_of_row _ _ _ _ _ _ q0
  have z1 : W2.cell? ⟨w.heap.size, 1, none⟩ = some (.slice (some ⟨g, 0, none⟩) ts.length c) := cell_of_row _ _ _ _ _ _ q0
  have z2 : W2.cell? ⟨w.heap.size + 1, 0, none⟩ = some (.int .i64 0) := cell_of_row _ _ _ _ _ _ q1
  have z3 : W2.cell? ⟨w.heap.size + 1, 1, none⟩ = some (.slice none 0 0) := cell_of_row _ _ _ _ _ _ q1
  have fz2 : ∀ o, W2.frozen? ⟨w.heap.size + 1, o, none⟩ = false := fun o => Joins.unfrozen_of_block q1 o
  have FIN : Hid (∀ W', (∀ b, b ≠ w.heap.size + 1 → W'.heap[b]? = W2.heap[b]?) → W'.os = W2.os → W'.tape = W2.tape → W'.output = W2.output → W'.heap.size = W2.heap.size → (∀ W'', (∀ b, b = g ∨ b ∈ ts.flatMap SV.blks → W''.heap[b]? = W'.heap[b]?) → SLf W'' g 0 (ts.set i (badS s))) ∧ Only (fun b => b = g) w W') := fun W' hk h1 h2 h3 h5 => by
    have hk' : ∀ b, b ≠ g → b < w.heap.size → W'.heap[b]? = w.heap[b]? := fun b hb hl => (hk b (by omega)).trans ((k2 b hb).trans (kW b hb hl))
    refine ⟨fun W'' hk2 => HB.out W'' (fun b hb => (hk2 b (Or.inr hb)).trans (hk' b (HC.out.noG b hb).1 (HC.out.noG b hb).2)) ((hk2 g (Or.inl rfl)).trans ((hk g (by omega)).trans g2)), ⟨h1.trans (f2.1.trans fW.1), h2.trans (f2.2.1.trans fW.2.1), h3.trans (f2.2.2.trans fW.2.2), by omega, fun b hb hne => hk' b hne hb⟩⟩
  (first | rw [hW2] | skip)
  clear hW2 HB k2 q0 q1 a0 a1 ag g2 SK v0
  have l1 : w.heap.size + 1 < W2.heap.size := by omega
  go_wp2
  (first | rw [hW2] | skip)
  refine bodyPost_ret (v := .agg #[.int .i64 now, .slice (some ⟨g, 0, none⟩) ts.length c]) (by simp [results, Tryz.results47, go_sem, z2, z3]) rfl ⟨rfl, FIN.out _ (fun b hb => (Below.heap_setCell _ _ _ _ hb).trans (Below.heap_setCell _ _ _ _ hb)) ?_ ?_ ?_ ?_⟩
  all_goals simp [World.setCell]
end Go.Proofs.YtjbkgmbakjnlhabGreatDoor
