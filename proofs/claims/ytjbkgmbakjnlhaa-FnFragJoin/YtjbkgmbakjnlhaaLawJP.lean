/- The law FnFragJoin: what pieces join to hangs neither on their order nor on one of them being there twice; what disagrees stays so. -/
import Derived.Test.YtjbkgmbakjnlhaaPartAs
import Derived.Test.YtjbkgmbakjnlhaaAppInv
namespace Go.Proofs.Ytjbkgmbakjnlhaa
open Go.RowKit

/-- what DrawFragJoin leaves -/
def DrawnPost (w : World) (e : Ending) (w' : World) : Prop :=
  ∃ (g n c : Nat) (qs : List PV), e = .returned (.slice (some ⟨g, 0, none⟩) n c) ∧ PL w' w.heap.size (.slice (some ⟨g, 0, none⟩) n c) qs ∧ qs.length = n ∧ Fine qs ∧ n ≤ 3000 ∧ Below w.heap.size w w'
theorem fine_rev {qs : List PV} (h : Fine qs) : Fine qs.reverse := fun y hy => h y (List.mem_reverse.1 hy)

theorem snoc_pl {W u : World} {lo gq n cq g3 c3 : Nat} {qs : List PV} {y : PV} (h : PL W lo (.slice (some ⟨gq, 0, none⟩) n cq) qs) (hn : qs.length = n) (hlo : lo ≤ W.heap.size) (hu : Below W.heap.size W u) (hy : y.own W lo)
    (ho : u.ownsRow W.heap.size 24 9 (.slice (some ⟨g3, 0, none⟩) (n + 1) c3) (n + 1) (qs.flatMap PV.cells ++ PV.cells y)) : PL u lo (.slice (some ⟨g3, 0, none⟩) (n + 1) c3) (qs ++ [y]) := by
  refine ⟨?_, fun x hx => ?_⟩
  · rw [List.length_append, hn, List.flatMap_append]
    simpa using Joins.ownsRow_le ho hlo
  · rcases List.mem_append.1 hx with h1 | h1
    · exact own_below (h.each x h1) hu
    · rw [List.mem_singleton.1 h1]
      exact own_below hy hu
theorem fine_snoc {qs : List PV} {y : PV} (h : Fine qs) (hy : y.zs.length ≤ 1048576 ∧ ∀ z ∈ y.zs, 0 ≤ z ∧ z ≤ 255) : Fine (qs ++ [y]) := fun x hx => by
  rcases List.mem_append.1 hx with h1 | h1
  · exact h x h1
  · rw [List.mem_singleton.1 h1]
    exact hy
theorem own_box_ne {w : World} {lo n z : Nat} {v : Value} {xs : List Value} {cs : Array Value} {fr : Nat × Nat} (h : w.ownsRow lo 5 1 v n xs) (hz : w.heap[z]? = some (.cells cs 24 fr)) : ∀ k, v.ownBlock = some k → k ≠ z := by
  rintro k hk rfl
  rcases h.2 with ⟨e, _⟩ | ⟨g, cap, cur, e, _, hh, _⟩
  · rw [e] at hk; cases hk
  · rw [e] at hk
    cases hk
    rw [hh] at hz
    cases hz
theorem box_set {W v : World} {z lo n : Nat} {zc cs : Array Value} {val : Value} {xs : List Value} (hB : Below W.heap.size W v) (hz : v.heap[z]? = some (.cells zc 24 (0, 0))) (hW : W.heap.size ≤ z) (ho : v.ownsRow lo 5 1 val n xs) :
    (v.setRow z cs).heap[z]? = some (.cells cs 24 (0, 0)) ∧ (v.setRow z cs).ownsRow lo 5 1 val n xs ∧ Below W.heap.size W (v.setRow z cs) :=
  ⟨setRow_heap _ _ _ _ _ _ hz, own_kept ho fun k hk => setRow_other _ _ _ _ (own_box_ne ho hz k hk), below_setRow hB hW cs⟩
theorem JoinPost.ret {L : List PB} {w w' : World} {e : Ending} (h : JoinPost L w e w') : ∃ r, e = .returned r ∧ JoinPost L w (.returned r) w' ∧ Below w.heap.size w w' := by
  obtain ⟨a, c, h1, h2, h3⟩ := h
  exact ⟨_, h1, ⟨a, c, rfl, h2, h3⟩, h3⟩
theorem next_codes {qs : List PV} {x0 y : PV} {jc kc : Int} {jp kp : Pk} {jd kd : List Int} (h1 : jc ≠ 1) (hl : (qs.map PV.key).length < 40) (h0 : qs[0]? = some x0) (hJ : joinL (qs.map PV.key) = (jc, (jp, jd))) (hK : joinL ((qs ++ [y]).map PV.key) = (kc, (kp, kd)))
    (hok : okB y.p y.zs.length = true) (e1 : y.p.src = x0.p.src) (e2 : y.p.dst = x0.p.dst) (e3 : y.p.kind = x0.p.kind) (e4 : y.p.id = x0.p.id) :
    (jc = 2 ∧ kc = 2) ∨ (jc = 3 ∧ (kc = 0 ∨ kc = 2 ∨ kc = 3)) ∨ (jc = 0 ∧ (kc = 2 ∨ (kc = 0 ∧ kd = jd ∧ kp = ⟨jp.src, jp.dst, jp.kind, jp.id, kp.hops, kp.whole, jp.off, jp.more⟩))) := by
  have ha : alikeL (qs.map PV.key) = true := by
    cases e : alikeL (qs.map PV.key) with
    | true => rfl
    | false =>
      have := (join_one _).2 e
      rw [hJ] at this
      exact absurd this h1
  have hz : ∀ x ∈ qs.map PV.key, alikeB x y.key = true := by
    match qs, h0 with
    | x :: r, h0 =>
      have : x = x0 := by simpa using h0
      subst this
      rw [List.map_cons] at ha ⊢
      exact alike_first ha hok e1 e2 e3 e4
  have h := join_next (L := qs.map PV.key) (z := y.key) (by rw [hJ]; exact h1) hz hl
  rw [List.map_append] at hK
  rw [hJ] at h
  rw [show [y.key] = List.map PV.key [y] from rfl, hK] at h
  exact h
theorem pcells_all (p : Pk) (a : Option Addr) (n c : Nat) : (pcells p (.slice a n c)).all (·.oneCell') = true := by simp [pcells, Value.oneCell']
theorem info9 : (Try.prog.info? 24).map (·.size) = some 9 := by kernel_rfl

set_option maxRecDepth 100000 in
set_option maxHeartbeats 12800000 in
theorem joinLaw_any (a : Option Addr) (len cap : Nat) (am : Option Addr) (lm cm : Nat) (w : World) (hlen : (len : Int) ≤ 1048576) (hlm : (lm : Int) ≤ 1048576) (hd : Hid (Calls Try.prog 15 #[.slice a len cap] w (DrawnPost w)))
    (hd2 : Hid (∀ w', Below w.heap.size w w' → Calls Try.prog 17 #[.slice am lm cm] w' fun e w'' => ∃ (p : Pk) (g c : Nat) (ys : List Int), e = .returned (p.val (.slice (some ⟨g, 0, none⟩) ys.length c)) ∧ w''.ownsRow w'.heap.size 5 1 (.slice (some ⟨g, 0, none⟩) ys.length c) ys.length (ys.map (.int .u8)) ∧ ys.length ≤ 200 ∧ Below w'.heap.size w' w'' ∧ ∀ z ∈ ys, 0 ≤ z ∧ z ≤ 255)) :
    Calls Try.prog 4 #[.slice a len cap, .slice am lm cm] w fun e w' => e = .returned (.bool true) ∧ Below w.heap.size w w' := by
  have hne : ∀ x : Int, (x != x) = false := fun x => by simp
  obtain ⟨ti, hti, hy0, hy1, hy2⟩ := info_parts Try.info24
  go_enter Try.func4, Try.ntmps4
  go_wp2_with fail
  refine hd.out.mono ?_
  rintro e w1 ⟨gq, n, cq, qs, rfl, P1, hqn, hF, hn, B1⟩
  clear hd
  have HF : Hid (Fine qs) := hF
  have HN : Hid (qs.length = n) := hqn
  obtain ⟨jc, jp, jd, hJ⟩ : ∃ jc jp jd, joinL (qs.map PV.key) = (jc, (jp, jd)) := ⟨_, _, _, rfl⟩
  have HJ : Hid (joinL (qs.map PV.key) = (jc, (jp, jd))) := hJ
  have hjl : jd.length ≤ 128 := by have h := join_small (qs.map PV.key); rw [hJ] at h; exact h
  have HR : Hid (joinL (qs.reverse.map PV.key) = (jc, (jp, jd))) := (show _ = _ by rw [List.map_reverse, join_rev]; exact hJ)
  have HC : Hid (jc = 0 ∨ jc = 1 ∨ jc = 2 ∨ jc = 3) := (by have h := join_code (qs.map PV.key); rw [hJ] at h; exact h)
  have s1 := B1.size
  clear hJ hF hqn
  go_wp2_with fail
  refine (implJoin_pl P1 HN.out HF.out (by omega)).mono ?_
  intro e w2 hj2
  obtain ⟨aQ, cQ, rfl, oQ, b2⟩ := hj2.at HJ.out
  clear hj2
  have B2 : Below w.heap.size w w2 := B1.trans (b2.mono s1)
  have P2 := P1.below b2
  have oQ2 := Joins.ownsRow_le oQ s1
  clear b2 P1 B1 oQ
  go_wp2_with fail
  refine (specJoin_pl (P2.below (Joins.below_alloc1 _ _)) HN.out HF.out (by omega)).mono ?_
  intro e w3 hj3
  obtain ⟨aW, cW, rfl, oW, b3⟩ := hj3.at HJ.out
  clear hj3
  have b3' : Below w2.heap.size w2 w3 := (Joins.below_alloc1 _ _).trans (b3.mono (by simp))
  have B3 : Below w.heap.size w w3 := B2.trans (b3'.mono B2.size)
  have P3 := P2.below b3'
  have Q3 : w3.heap[w2.heap.size]? = some (.cells (pcells jp (.slice aQ jd.length cQ)) 24 (0, 0)) := (b3.block _ (by simp)).trans (heap_new _ _ _ rfl)
  have oQ3 := own_below oQ2 b3'
  have s2 := B2.size
  clear b3 b3' P2 B2 oQ2
  obtain ⟨lq, q0, q1, q2, q3, q4, q5, q6, q7, q8⟩ := Boxed.of_block Q3
  go_wp2_with fail
  refine (wfSame_same jp aQ aW jd.length cQ cW jd _ ((RdB.of_own rfl oQ3).below (Joins.below_alloc1 _ _)) ((RdB.of_own rfl oW).below (Joins.below_alloc1 _ _)) (by omega)).mono ?_
  rintro e w4 ⟨rfl, b4⟩
  have b4' : Below w3.heap.size w3 w4 := (Joins.below_alloc1 _ _).trans (b4.mono (by simp))
  have B4 : Below w.heap.size w w4 := B3.trans (b4'.mono B3.size)
  have P4 := P3.below b4'
  have Q4 := (b4'.block _ (lt_of_block Q3)).trans Q3
  have oQ4 := own_below oQ3 b4'
  have s4 := B4.size
  clear b4 b4' P3 B3 oQ3 Q3 oW q0 q1 q2 q3 q4 q5 q6 q7 q8 lq
  go_wp2_with fail
  refine (wfBack_any w.heap.size gq cq n qs _ HN.out P4 s4 hn).mono ?_
  rintro e w5 ⟨gb, cb, rfl, T5, b5⟩
  have B5 : Below w.heap.size w w5 := B4.trans (b5.mono s4)
  have P5 := P4.below b5
  have Q5 := (b5.block _ (lt_of_block Q4)).trans Q4
  have oQ5 := own_below oQ4 b5
  clear b5 P4 B4 oQ4 Q4
  go_wp2_with fail
  refine (implJoin_pl T5 (by rw [List.length_reverse]; exact HN.out) (fine_rev HF.out) (by omega)).mono ?_
  intro e w6 hj6
  obtain ⟨aX, cX, rfl, oX, b6⟩ := hj6.at HR.out
  clear hj6
  have B6 : Below w.heap.size w w6 := B5.trans (b6.mono B5.size)
  have P6 := P5.below b6
  have Q6 := (b6.block _ (lt_of_block Q5)).trans Q5
  have oQ6 := own_below oQ5 b6
  clear b6 P5 B5 oQ5 Q5 T5 HR
  obtain ⟨lq, q0, q1, q2, q3, q4, q5, q6, q7, q8⟩ := Boxed.of_block Q6
  go_wp2_with fail
  refine (wfSame_same jp aX aQ jd.length cX cQ jd _ ((RdB.of_own rfl oX).below (Joins.below_alloc1 _ _)) ((RdB.of_own rfl oQ6).below (Joins.below_alloc1 _ _)) (by omega)).mono ?_
  rintro e w7 ⟨rfl, b7⟩
  have b7' : Below w6.heap.size w6 w7 := (Joins.below_alloc1 _ _).trans (b7.mono (by simp))
  have B7 : Hid (Below w.heap.size w w7) := B6.trans (b7'.mono B6.size)
  have P7 : Hid (PL w7 w.heap.size (.slice (some ⟨gq, 0, none⟩) n cq) qs) := P6.below b7'
  have Q7 : Hid (w7.heap[w2.heap.size]? = some (.cells (pcells jp (.slice aQ jd.length cQ)) 24 (0, 0))) := (b7'.block _ (lt_of_block Q6)).trans Q6
  have oQ7 : Hid (w7.ownsRow w.heap.size 5 1 (.slice aQ jd.length cQ) jd.length (jd.map (.int .u8))) := own_below oQ6 b7'
  have s7 := B7.out.size
  have sq7 := lt_of_block Q7.out
  clear b7 b7' P6 B6 oQ6 Q6 oX q0 q1 q2 q3 q4 q5 q6 q7 q8 lq
  by_cases hn0 : n = 0
  · have hj1 : jc = 1 := by
      have hq : qs = [] := List.eq_nil_of_length_eq_zero (by rw [HN.out]; exact hn0)
      have h := HJ.out
      rw [hq] at h
      exact (congrArg Prod.fst h).symm
    subst hj1
    have hn0' : ((n : Int) == 0) = true := by simp [hn0]
    clear hn0
    go_wp2
    go_ret
    exact ⟨rfl, B7.out⟩
  have hn0' : ((n : Int) == 0) = false := by rw [beq_eq_false_iff_ne]; omega
  by_cases hn40 : 40 ≤ n
  · have hn40' : (40 : Int) ≤ (n : Int) := by omega
    by_cases hj0 : jc = 0
    · subst hj0
      have HO : Hid (okB jp jd.length = true) := join_ok HJ.out
      obtain ⟨lq, q0, q1, q2, q3, q4, q5, q6, q7, q8⟩ := Boxed.of_block Q7.out
      go_wp2_with fail
      refine (implOk_any jp aQ jd.length cQ _ (by omega)).mono ?_
      rintro e w8 ⟨rfl, b8⟩
      rw [HO.out]
      have B8 : Hid (Below w.heap.size w w8) := B7.out.trans (b8.mono s7)
      clear b8
      go_wp2
      go_ret
      exact ⟨rfl, B8.out⟩
    · have hj0' : (jc != 0) = true := by simp [hj0]
      have hj0'' : (jc == 0) = false := by simp [hj0]
      go_wp2
      go_ret
      exact ⟨rfl, B7.out⟩
  have hn40' : (n : Int) < 40 := by omega
  by_cases hj1 : jc = 1
  · subst hj1
    go_wp2
    go_ret
    exact ⟨rfl, B7.out⟩
  have hj1' : (jc == 1) = false := by simp [hj1]
  have hk' : ((lm : Int) % (n : Int)) = ((lm % n : Nat) : Int) := by omega
  have hkn : lm % n < n := Nat.mod_lt _ (by omega)
  obtain ⟨k, hk⟩ : ∃ k, lm % n = k := ⟨_, rfl⟩
  rw [hk] at hk' hkn
  have HK : Hid (((lm : Int) % (n : Int)) = (k : Int)) := hk'
  clear hk hk'
  obtain ⟨y, hy⟩ := get_of_lt (show k < qs.length by rw [HN.out]; exact hkn)
  have HY : Hid (qs[k]? = some y) := hy
  have HYM : Hid (y ∈ qs) := List.mem_of_getElem? hy
  obtain ⟨c0, c1, c2, c3, c4, c5, c6, c7, c8⟩ := id (P7.out.elemI HN.out hy)
  have hgL : gq < w7.heap.size := (own_lt P7.out.row gq rfl).2
  have KW : Hid (∀ W : World, Below w7.heap.size w7 W → W.cell? ⟨gq, k * 9, none⟩ = some (.int .i64 y.p.src) ∧ W.cell? ⟨gq, k * 9 + 1, none⟩ = some (.int .i64 y.p.dst) ∧ W.cell? ⟨gq, k * 9 + 2, none⟩ = some (.int .i64 y.p.kind) ∧ W.cell? ⟨gq, k * 9 + 3, none⟩ = some (.int .i64 y.p.id) ∧ W.cell? ⟨gq, k * 9 + 4, none⟩ = some (.int .i64 y.p.hops) ∧ W.cell? ⟨gq, k * 9 + 5, none⟩ = some (.bool y.p.whole) ∧ W.cell? ⟨gq, k * 9 + 6, none⟩ = some (.int .i64 y.p.off) ∧ W.cell? ⟨gq, k * 9 + 7, none⟩ = some (.bool y.p.more) ∧ W.cell? ⟨gq, k * 9 + 8, none⟩ = some (.slice (some ⟨y.g, 0, none⟩) y.zs.length y.c)) := fun W h =>
    have e : ∀ o, W.cell? ⟨gq, o, none⟩ = w7.cell? ⟨gq, o, none⟩ := fun o => h.cell (p := ⟨gq, o, none⟩) hgL
    ⟨(e _).trans c0, (e _).trans c1, (e _).trans c2, (e _).trans c3, (e _).trans c4, (e _).trans c5, (e _).trans c6, (e _).trans c7, (e _).trans c8⟩
  have JT : Hid (joinL ((qs ++ [y]).map PV.key) = (jc, (jp, jd))) := (show _ = _ by rw [List.map_append]; exact (join_twice (List.mem_map_of_mem HYM.out) (by rw [List.length_map, HN.out]; omega)).trans HJ.out)
  clear hy c0 c1 c2 c3 c4 c5 c6 c7 c8
  go_upto_region 13 with fail
  go_cut [12, 13] from 20 (fun s12 s13 wx => ∃ (zb : Nat) (aY : Option Addr) (cY : Nat), s12 = .pointer (some ⟨zb, 0, none⟩) ∧ s13 = .int .i64 jc ∧ w7.heap.size ≤ zb ∧ Hid (wx.heap[zb]? = some (.cells (pcells jp (.slice aY jd.length cY)) 24 (0, 0))) ∧ Hid (wx.ownsRow w7.heap.size 5 1 (.slice aY jd.length cY) jd.length (jd.map (.int .u8))) ∧ Hid (Below w7.heap.size w7 wx))
  case first =>
    go_wp2
    refine wp_region_held_drew (S := fun u => Below w7.heap.size w7 u) (by kernel_rfl) (draw1 _) (fun hH => ?_)
    refine take_held 1 (some 81) (.slice (some ⟨gq, 0, none⟩) n cq) rfl rfl (by kernel_rfl) (by kernel_rfl) (by kernel_rfl) (fun _ _ _ h => h) (by rfl) (fun w hS => by go_simp) hH ?_
    simp only [Act.put, List.setIfInBounds_toArray, List.set_cons_zero, List.set_cons_succ]
    refine take_held 3 (some 83) (.slice (some ⟨gq, 0, none⟩) n cq) rfl rfl (by kernel_rfl) (by kernel_rfl) (by kernel_rfl) (fun _ _ _ h => h) (by rfl) (fun w hS => by go_simp) hH ?_
    simp only [Act.put, List.setIfInBounds_toArray, List.set_cons_zero, List.set_cons_succ]
    refine take_held 4 (some 84) (.slice am lm cm) rfl rfl (by kernel_rfl) (by kernel_rfl) (by kernel_rfl) (fun _ _ _ h => h) (by rfl) (fun w hS => by go_simp) hH ?_
    simp only [Act.put, List.setIfInBounds_toArray, List.set_cons_zero, List.set_cons_succ]
    refine take_held 5 (some 85) (.int .i64 lm) rfl rfl (by kernel_rfl) (by kernel_rfl) (by kernel_rfl) (fun _ _ _ h => h) (by rfl) (fun w hS => by go_simp) hH ?_
    simp only [Act.put, List.setIfInBounds_toArray, List.set_cons_zero, List.set_cons_succ]
    refine take_held 6 (some 86) (.slice (some ⟨gq, 0, none⟩) n cq) rfl rfl (by kernel_rfl) (by kernel_rfl) (by kernel_rfl) (fun _ _ _ h => h) (by rfl) (fun w hS => by go_simp) hH ?_
    simp only [Act.put, List.setIfInBounds_toArray, List.set_cons_zero, List.set_cons_succ]
    refine take_held 7 (some 87) (.int .i64 n) rfl rfl (by kernel_rfl) (by kernel_rfl) (by kernel_rfl) (fun _ _ _ h => h) (by rfl) (fun w hS => by go_simp) hH ?_
    simp only [Act.put, List.setIfInBounds_toArray, List.set_cons_zero, List.set_cons_succ]
    refine take_held 8 (some 88) (.int .i64 k) rfl rfl (by kernel_rfl) (by kernel_rfl) (by kernel_rfl) (fun _ _ _ h => h) (by rfl) (fun w hS => by go_simp; exact (Int.tmod_eq_emod_of_nonneg (by omega)).trans HK.out) hH ?_
    simp only [Act.put, List.setIfInBounds_toArray, List.set_cons_zero, List.set_cons_succ]
    refine take_held 9 (some 89) (.pointer (some ⟨gq, k * 9, none⟩)) rfl rfl (by kernel_rfl) (by kernel_rfl) (by kernel_rfl) (fun _ _ _ h => h) (by rfl) (fun w hS => by go_simp) hH ?_
    simp only [Act.put, List.setIfInBounds_toArray, List.set_cons_zero, List.set_cons_succ]
    refine take_held 10 (some 90) (.agg #[.int .i64 y.p.src, .int .i64 y.p.dst, .int .i64 y.p.kind, .int .i64 y.p.id, .int .i64 y.p.hops, .bool y.p.whole, .int .i64 y.p.off, .bool y.p.more, .slice (some ⟨y.g, 0, none⟩) y.zs.length y.c]) rfl rfl (by kernel_rfl) (by kernel_rfl) (by kernel_rfl) (fun _ _ _ h => h) (by rfl) (fun w hS => by obtain ⟨s0, s1, s2, s3, s4, s5, s6, s7, s8⟩ := KW.out w hS; go_simp) hH ?_
    simp only [Act.put, List.setIfInBounds_toArray, List.set_cons_zero, List.set_cons_succ]
    refine app_region (W := w7) (n := n) (xs := qs.flatMap PV.cells) (ys := PV.cells y) (yc := pcells y.p (.slice (some ⟨y.g, 0, none⟩) y.zs.length y.c)) (zc := #[.int .i64 0, .int .i64 0, .int .i64 0, .int .i64 0, .int .i64 0, .bool false, .int .i64 0, .bool false, .slice none 0 0]) _ 0 2 11 12 13 17 80 82 91 92 93 12 81 90 (fun b0 b2 b11 b12 b13 bz => #[b0, true, b2, true, true, true, true, true, true, true, true, b11, b12, b13, false, false, false, bz, false, false]) 5 25 11 (fun u g3 c3 r w' => JoinPost ((qs ++ [y]).map PV.key) u (.returned r) w') ⟨gq, 0, none⟩ cq (.agg #[.int .i64 y.p.src, .int .i64 y.p.dst, .int .i64 y.p.kind, .int .i64 y.p.id, .int .i64 y.p.hops, .bool y.p.whole, .int .i64 y.p.off, .bool y.p.more, .slice (some ⟨y.g, 0, none⟩) y.zs.length y.c]) _ _ ti (fun _ h => h) ?g1 ?g2 (by decide) ?g3 rfl rfl ?g4 ?g5 ?g6 rfl rfl rfl rfl rfl rfl rfl rfl ?g7 Try.underlying25 hti hy0 hy1 hy2 ?g8 ?g9 (flat_one _) rfl rfl (nine_one _ _ _ _) (by omega) ?g10 ?x0 ?x1 _ hH _ (by kernel_rfl) _ (by kernel_rfl)
    case g1 =>
      intro b0 b2 b11 b12 bz
      exact ⟨by kernel_rfl, by kernel_rfl, by kernel_rfl, by kernel_rfl, by kernel_rfl, by kernel_rfl⟩
    case g2 =>
      intro b0 b2 b11 b12 bz
      cases b0 <;> cases b2 <;> cases b11 <;> cases b12 <;> cases bz <;> kernel_rfl
    case g3 => intro d hd; simp at hd; rcases hd with rfl | rfl | rfl | rfl <;> (simp; done)
    case g4 => intro a w K h; exact wpOp_made rfl rfl 80 rfl (by go_simp) h
    case g5 =>
      intro a w K hv h
      simp only [Act.eval, Array.getD_eq_getD_getElem?] at hv
      exact wpOp_made rfl rfl 91 rfl (by go_simp; rfl) h
    case g6 => intro a w K h; exact wpOp_made rfl rfl 12 rfl (by go_simp) h
    case g7 =>
      intro a w K v hv h
      simp only [Act.eval, Array.getD_eq_getD_getElem?] at hv
      exact wpOp_call rfl rfl 93 rfl 11 #[v] (by go_simp) h
    case g8 => rw [flat_len, HN.out]
    case g9 => intro u hu j v hv; exact (P7.out.below hu).src_takeI HN.out n j v (by rw [List.take_of_length_le (by rw [HN.out]; exact Nat.le_refl _)]; exact hv)
    case g10 =>
      intro u g3 c3 hu ho
      exact (implJoin_pl (snoc_pl P7.out HN.out s7 hu (P7.out.each y HYM.out) ho) (by rw [List.length_append, HN.out]; rfl) (fine_snoc HF.out (HF.out y HYM.out)) (by omega)).mono fun e w' h => h.ret
    case x0 =>
      intro e g c y' g3 c3 z u r w' hu hb hp
      obtain ⟨aY, cY, hr, oY, -⟩ := hp.at JT.out
      cases hr
      have hH : Below w7.heap.size w7 w' := hu.trans (hb.mono hu.size)
      have oY' := Joins.ownsRow_le oY hu.size
      clear hp hb oY hu
      simp only [appAct, pf, cond_true, cond_false, Act.put, List.setIfInBounds_toArray, List.set_cons_zero, List.set_cons_succ]
      refine take_held 14 (some 79) (.tuple #[.agg #[.int .i64 jp.src, .int .i64 jp.dst, .int .i64 jp.kind, .int .i64 jp.id, .int .i64 jp.hops, .bool jp.whole, .int .i64 jp.off, .bool jp.more, .slice aY jd.length cY], .int .i64 jc]) rfl rfl (by kernel_rfl) (by kernel_rfl) (by kernel_rfl) (fun _ _ _ h => h) (by rfl) (fun w hS => by go_simp) hH ?_
      simp only [Act.put, List.setIfInBounds_toArray, List.set_cons_zero, List.set_cons_succ]
      refine take_held 15 (some 94) (.agg #[.int .i64 jp.src, .int .i64 jp.dst, .int .i64 jp.kind, .int .i64 jp.id, .int .i64 jp.hops, .bool jp.whole, .int .i64 jp.off, .bool jp.more, .slice aY jd.length cY]) rfl rfl (by kernel_rfl) (by kernel_rfl) (by kernel_rfl) (fun _ _ _ h => h) (by rfl) (fun w hS => by go_simp) hH ?_
      simp only [Act.put, List.setIfInBounds_toArray, List.set_cons_zero, List.set_cons_succ]
      refine take_held 16 (some 95) (.int .i64 jc) rfl rfl (by kernel_rfl) (by kernel_rfl) (by kernel_rfl) (fun _ _ _ h => h) (by rfl) (fun w hS => by go_simp) hH ?_
      simp only [Act.put, List.setIfInBounds_toArray, List.set_cons_zero, List.set_cons_succ]
      refine wpAnyH_ready (rs := [17]) (by kernel_rfl) (by simp) ?_
      refine AllReadyH.cons rfl (fun K hK => ?_) AllReadyH.nil
      have hsw := hH.size
      have oZ := own_below oY' (Joins.below_alloc1 w' (.cells #[.int .i64 0, .int .i64 0, .int .i64 0, .int .i64 0, .int .i64 0, .bool false, .int .i64 0, .bool false, .slice none 0 0] 24))
      go_simp
      refine hK.out _ _ (hH.alloc hH.size _) (fun hH => ?_)
      clear hK K
      have hz : (w'.alloc (.cells #[.int .i64 0, .int .i64 0, .int .i64 0, .int .i64 0, .int .i64 0, .bool false, .int .i64 0, .bool false, .slice none 0 0] 24)).heap[w'.heap.size]? = some (.cells #[.int .i64 0, .int .i64 0, .int .i64 0, .int .i64 0, .int .i64 0, .bool false, .int .i64 0, .bool false, .slice none 0 0] 24 (0, 0)) := heap_new _ _ _ rfl
      have hzW : w7.heap.size ≤ w'.heap.size := hsw
      refine wpAnyH_ready (rs := [18]) (by kernel_rfl) (by simp) ?_
      refine AllReadyH.cons rfl (fun K hK => ?_) AllReadyH.nil
      rw [if_pos (by rfl)]
      refine wp_store_row 24 (.tmp 12) (.tmp 94) rfl w'.heap.size (pcells jp (.slice aY jd.length cY)) (by rfl) (by rfl) 24 _ hz info9 rfl (pcells_all _ _ _ _) ?_
      obtain ⟨f1, f2, f3⟩ := box_set (cs := pcells jp (.slice aY jd.length cY)) hH hz hzW oZ
      refine hK.out _ _ f3 (fun hH => ?_)
      clear hK K
      simp only [Act.put, List.setIfInBounds_toArray, List.set_cons_zero, List.set_cons_succ]
      refine take_held 19 (some 13) (.int .i64 jc) rfl rfl (by kernel_rfl) (by kernel_rfl) (by kernel_rfl) (fun _ _ _ h => h) (by rfl) (fun w hS => by go_simp) hH ?_
      simp only [Act.put, List.setIfInBounds_toArray, List.set_cons_zero, List.set_cons_succ]
      refine wpAnyH_done (by kernel_rfl) ?_ _
      go_wp2_with fail
      go_meet
      case rel => exact ⟨w'.heap.size, aY, cY, rfl, rfl, hzW, f1, f2, f3⟩
    case x1 =>
      intro e g c y' g3 c3 z u r w' hu hb hp hz hzW
      obtain ⟨aY, cY, hr, oY, -⟩ := hp.at JT.out
      cases hr
      have hH : Below w7.heap.size w7 w' := hu.trans (hb.mono hu.size)
      have oY' := Joins.ownsRow_le oY hu.size
      clear hp hb oY hu
      simp only [appAct, pf, cond_true, Act.put, List.setIfInBounds_toArray, List.set_cons_zero, List.set_cons_succ]
      refine take_held 14 (some 79) (.tuple #[.agg #[.int .i64 jp.src, .int .i64 jp.dst, .int .i64 jp.kind, .int .i64 jp.id, .int .i64 jp.hops, .bool jp.whole, .int .i64 jp.off, .bool jp.more, .slice aY jd.length cY], .int .i64 jc]) rfl rfl (by kernel_rfl) (by kernel_rfl) (by kernel_rfl) (fun _ _ _ h => h) (by rfl) (fun w hS => by go_simp) hH ?_
      simp only [Act.put, List.setIfInBounds_toArray, List.set_cons_zero, List.set_cons_succ]
      refine take_held 15 (some 94) (.agg #[.int .i64 jp.src, .int .i64 jp.dst, .int .i64 jp.kind, .int .i64 jp.id, .int .i64 jp.hops, .bool jp.whole, .int .i64 jp.off, .bool jp.more, .slice aY jd.length cY]) rfl rfl (by kernel_rfl) (by kernel_rfl) (by kernel_rfl) (fun _ _ _ h => h) (by rfl) (fun w hS => by go_simp) hH ?_
      simp only [Act.put, List.setIfInBounds_toArray, List.set_cons_zero, List.set_cons_succ]
      refine take_held 16 (some 95) (.int .i64 jc) rfl rfl (by kernel_rfl) (by kernel_rfl) (by kernel_rfl) (fun _ _ _ h => h) (by rfl) (fun w hS => by go_simp) hH ?_
      simp only [Act.put, List.setIfInBounds_toArray, List.set_cons_zero, List.set_cons_succ]
      refine wpAnyH_ready (rs := [18]) (by kernel_rfl) (by simp) ?_
      refine AllReadyH.cons rfl (fun K hK => ?_) AllReadyH.nil
      rw [if_pos (by rfl)]
      refine wp_store_row 24 (.tmp 12) (.tmp 94) rfl z (pcells jp (.slice aY jd.length cY)) (by rfl) (by rfl) 24 _ hz info9 rfl (pcells_all _ _ _ _) ?_
      obtain ⟨f1, f2, f3⟩ := box_set (cs := pcells jp (.slice aY jd.length cY)) hH hz hzW oY'
      refine hK.out _ _ f3 (fun hH => ?_)
      clear hK K
      simp only [Act.put, List.setIfInBounds_toArray, List.set_cons_zero, List.set_cons_succ]
      refine take_held 19 (some 13) (.int .i64 jc) rfl rfl (by kernel_rfl) (by kernel_rfl) (by kernel_rfl) (fun _ _ _ h => h) (by rfl) (fun w hS => by go_simp) hH ?_
      simp only [Act.put, List.setIfInBounds_toArray, List.set_cons_zero, List.set_cons_succ]
      refine wpAnyH_done (by kernel_rfl) ?_ _
      go_wp2_with fail
      go_meet
      case rel => exact ⟨z, aY, cY, rfl, rfl, hzW, f1, f2, f3⟩
  case rest =>
    obtain ⟨zb, aY, cY, rfl, rfl, hzb, Y8, oY8, B8⟩ := hcut
    obtain ⟨w8, rfl⟩ : ∃ w8, w8 = wc := ⟨_, rfl⟩
    clear KW HK HY HYM JT hkn
    have P8 : Hid (PL w8 w.heap.size (.slice (some ⟨gq, 0, none⟩) n cq) qs) := P7.out.below B8.out
    have Q8 : Hid (w8.heap[w2.heap.size]? = some (.cells (pcells jp (.slice aQ jd.length cQ)) 24 (0, 0))) := (B8.out.block _ sq7).trans Q7.out
    have oQ8 : Hid (w8.ownsRow w.heap.size 5 1 (.slice aQ jd.length cQ) jd.length (jd.map (.int .u8))) := own_below oQ7.out B8.out
    have D8 : Hid (Below w.heap.size w w8) := B7.out.trans (B8.out.mono s7)
    clear P7 Q7 oQ7 B7 B8
    obtain ⟨lq, q0, q1, q2, q3, q4, q5, q6, q7, q8⟩ := Boxed.of_block Q8.out
    obtain ⟨ly, y0, y1, y2, y3, y4, y5, y6, y7, y8⟩ := Boxed.of_block Y8.out
    go_wp2_with fail
    refine (wfSame_same jp aY aQ jd.length cY cQ jd _ (RdB.of_own rfl oY8.out) (RdB.of_own rfl oQ8.out) (by omega)).mono ?_
    rintro e w9 ⟨rfl, b9⟩
    have P9 : Hid (PL w9 w.heap.size (.slice (some ⟨gq, 0, none⟩) n cq) qs) := P8.out.below b9
    have Q9 : Hid (w9.heap[w2.heap.size]? = some (.cells (pcells jp (.slice aQ jd.length cQ)) 24 (0, 0))) := (b9.block _ (lt_of_block Q8.out)).trans Q8.out
    have oQ9 : Hid (w9.ownsRow w.heap.size 5 1 (.slice aQ jd.length cQ) jd.length (jd.map (.int .u8))) := own_below oQ8.out b9
    have D9 : Hid (Below w.heap.size w w9) := D8.out.trans (b9.mono D8.out.size)
    clear P8 Q8 oQ8 D8 Y8 oY8 b9 q0 q1 q2 q3 q4 q5 q6 q7 q8 lq y0 y1 y2 y3 y4 y5 y6 y7 y8 ly
    go_wp2_with fail
    refine (hd2.out _ D9.out).mono ?_
    rintro e w10 ⟨pp, gp, cp, ds, rfl, op, hdl, b10, hdb⟩
    clear hd2
    unfold Pk.val
    have P10 : Hid (PL w10 w.heap.size (.slice (some ⟨gq, 0, none⟩) n cq) qs) := P9.out.below b10
    have Q10 : Hid (w10.heap[w2.heap.size]? = some (.cells (pcells jp (.slice aQ jd.length cQ)) 24 (0, 0))) := (b10.block _ (lt_of_block Q9.out)).trans Q9.out
    have oQ10 : Hid (w10.ownsRow w.heap.size 5 1 (.slice aQ jd.length cQ) jd.length (jd.map (.int .u8))) := own_below oQ9.out b10
    have D10 : Hid (Below w.heap.size w w10) := D9.out.trans (b10.mono D9.out.size)
    have OP : Hid (w10.ownsRow w.heap.size 5 1 (.slice (some ⟨gp, 0, none⟩) ds.length cp) ds.length (ds.map (.int .u8))) := Joins.ownsRow_le op D9.out.size
    have HDB : Hid (∀ z ∈ ds, 0 ≤ z ∧ z ≤ 255) := hdb
    clear P9 Q9 oQ9 D9 b10 op hdb
    obtain ⟨x0, hx0⟩ := get_of_lt (show 0 < qs.length by rw [HN.out]; omega)
    have HX0 : Hid (qs[0]? = some x0) := hx0
    obtain ⟨c0, c1, c2, c3, c4, c5, c6, c7, c8⟩ := id (P10.out.elemI HN.out hx0)
    simp only [Nat.zero_mul, Nat.zero_add] at c0 c1 c2 c3
    have hgL : gq < w10.heap.size := (own_lt P10.out.row gq rfl).2
    have hnp : (0 : Int) < (n : Int) := by omega
    clear hx0 c4 c5 c6 c7 c8
    obtain ⟨zp, hzp⟩ : ∃ zp : Pk, zp = ⟨x0.p.src, x0.p.dst, x0.p.kind, x0.p.id, pp.hops, pp.whole, pp.off, pp.more⟩ := ⟨_, rfl⟩
    have HZP : Hid (zp = ⟨x0.p.src, x0.p.dst, x0.p.kind, x0.p.id, pp.hops, pp.whole, pp.off, pp.more⟩) := hzp
    have KOK : Hid (∀ W : World, Calls Try.prog 18 #[.agg #[.int .i64 x0.p.src, .int .i64 x0.p.dst, .int .i64 x0.p.kind, .int .i64 x0.p.id, .int .i64 pp.hops, .bool pp.whole, .int .i64 pp.off, .bool pp.more, .slice (some ⟨gp, 0, none⟩) ds.length cp]] W fun e w' => e = .returned (.bool (okB zp ds.length)) ∧ Below W.heap.size W w') := fun W => by
      have h := specOk_any zp (some ⟨gp, 0, none⟩) ds.length cp W (by omega)
      rw [hzp] at h
      rw [hzp]
      exact h
    clear hzp
    go_wp2_with fail
    refine (KOK.out _).mono ?_
    rintro e w11 ⟨rfl, b11⟩
    clear KOK
    have b11' : Below w10.heap.size w10 w11 := (Joins.below_alloc1 _ _).trans (b11.mono (by simp))
    have X11 : Hid (w11.heap[w10.heap.size]? = some (.cells (pcells zp (.slice (some ⟨gp, 0, none⟩) ds.length cp)) 24 (0, 0))) := (show _ = _ by rw [HZP.out]; exact (b11.block _ (by simp)).trans (heap_new _ _ _ rfl))
    have P11 : Hid (PL w11 w.heap.size (.slice (some ⟨gq, 0, none⟩) n cq) qs) := P10.out.below b11'
    have Q11 : Hid (w11.heap[w2.heap.size]? = some (.cells (pcells jp (.slice aQ jd.length cQ)) 24 (0, 0))) := (b11'.block _ (lt_of_block Q10.out)).trans Q10.out
    have oQ11 : Hid (w11.ownsRow w.heap.size 5 1 (.slice aQ jd.length cQ) jd.length (jd.map (.int .u8))) := own_below oQ10.out b11'
    have D11 : Hid (Below w.heap.size w w11) := D10.out.trans (b11'.mono D10.out.size)
    have OP11 : Hid (w11.ownsRow w.heap.size 5 1 (.slice (some ⟨gp, 0, none⟩) ds.length cp) ds.length (ds.map (.int .u8))) := own_below OP.out b11'
    have s11 := D11.out.size
    have sq11 := lt_of_block Q11.out
    clear b11 b11' P10 Q10 oQ10 D10 OP c0 c1 c2 c3 hgL
    obtain ⟨okz, hokz⟩ : ∃ b, okB zp ds.length = b := ⟨_, rfl⟩
    have HOK : Hid (okB zp ds.length = okz) := hokz
    rw [hokz]
    clear hokz
    cases okz
    · go_wp2
      go_ret
      exact ⟨rfl, D11.out⟩
    obtain ⟨y, hy⟩ : ∃ y : PV, y = ⟨zp, gp, cp, ds⟩ := ⟨_, rfl⟩
    have HYD : Hid (y = ⟨zp, gp, cp, ds⟩) := hy
    have YC : Hid (PV.cells y = (pcells zp (.slice (some ⟨gp, 0, none⟩) ds.length cp)).toList) := (show _ = _ by rw [hy]; rfl)
    have YO : Hid (y.own w11 w.heap.size) := (show PV.own _ _ _ by rw [hy]; exact OP11.out)
    have YF : Hid (y.zs.length ≤ 1048576 ∧ ∀ z ∈ y.zs, 0 ≤ z ∧ z ≤ 255) := (by rw [hy]; exact ⟨by show ds.length ≤ _; omega, HDB.out⟩)
    obtain ⟨kc, kp, kd, hK⟩ : ∃ kc kp kd, joinL ((qs ++ [y]).map PV.key) = (kc, (kp, kd)) := ⟨_, _, _, rfl⟩
    have HK : Hid (joinL ((qs ++ [y]).map PV.key) = (kc, (kp, kd))) := hK
    have hkl : kd.length ≤ 128 := by have h := join_small ((qs ++ [y]).map PV.key); rw [hK] at h; exact h
    have HNX : Hid ((jc = 2 ∧ kc = 2) ∨ (jc = 3 ∧ (kc = 0 ∨ kc = 2 ∨ kc = 3)) ∨ (jc = 0 ∧ (kc = 2 ∨ (kc = 0 ∧ kd = jd ∧ kp = ⟨jp.src, jp.dst, jp.kind, jp.id, kp.hops, kp.whole, jp.off, jp.more⟩)))) := (by
      have h := next_codes hj1 (by rw [List.length_map, HN.out]; omega) HX0.out HJ.out HK.out (by rw [hy]; exact HOK.out) (by rw [hy, HZP.out]) (by rw [hy, HZP.out]) (by rw [hy, HZP.out]) (by rw [hy, HZP.out])
      exact h)
    have KW : Hid (∀ W : World, Below w11.heap.size w11 W → W.heap[w10.heap.size]? = some (.cells (pcells zp (.slice (some ⟨gp, 0, none⟩) ds.length cp)) 24 (0, 0))) := fun W h => (h.block _ (lt_of_block X11.out)).trans X11.out
    clear hy hK HJ HX0
    go_upto_region 23 with fail
    go_cut [15, 16] from 20 (fun s12 s13 wx => ∃ (zb : Nat) (aY : Option Addr) (cY : Nat), s12 = .pointer (some ⟨zb, 0, none⟩) ∧ s13 = .int .i64 kc ∧ w11.heap.size ≤ zb ∧ Hid (wx.heap[zb]? = some (.cells (pcells kp (.slice aY kd.length cY)) 24 (0, 0))) ∧ Hid (wx.ownsRow w11.heap.size 5 1 (.slice aY kd.length cY) kd.length (kd.map (.int .u8))) ∧ Hid (Below w11.heap.size w11 wx))
    case first =>
      clear D11 oQ11 Q11
      go_wp2
      refine wp_region_held_drew (S := fun u => Below w11.heap.size w11 u) (by kernel_rfl) (draw1 _) (fun hH => ?_)
      refine take_held 1 (some 132) (.slice (some ⟨gq, 0, none⟩) n cq) rfl rfl (by kernel_rfl) (by kernel_rfl) (by kernel_rfl) (fun _ _ _ h => h) (by rfl) (fun w hS => by go_simp) hH ?_
      simp only [Act.put, List.setIfInBounds_toArray, List.set_cons_zero, List.set_cons_succ]
      refine take_held 3 (some 134) (.agg #[.int .i64 zp.src, .int .i64 zp.dst, .int .i64 zp.kind, .int .i64 zp.id, .int .i64 zp.hops, .bool zp.whole, .int .i64 zp.off, .bool zp.more, .slice (some ⟨gp, 0, none⟩) ds.length cp]) rfl rfl (by kernel_rfl) (by kernel_rfl) (by kernel_rfl) (fun _ _ _ h => h) (by rfl) (fun w hS => by obtain ⟨lx, x0, x1, x2, x3, x4, x5, x6, x7, x8⟩ := Boxed.of_block (KW.out w hS); go_simp) hH ?_
      simp only [Act.put, List.setIfInBounds_toArray, List.set_cons_zero, List.set_cons_succ]
      refine app_region (W := w11) (n := n) (xs := qs.flatMap PV.cells) (ys := PV.cells y) (yc := pcells zp (.slice (some ⟨gp, 0, none⟩) ds.length cp)) (zc := #[.int .i64 0, .int .i64 0, .int .i64 0, .int .i64 0, .int .i64 0, .bool false, .int .i64 0, .bool false, .slice none 0 0]) _ 0 2 4 5 6 10 131 133 135 136 137 15 132 134 (fun b0 b2 b11 b12 b13 bz => #[b0, true, b2, true, b11, b12, b13, false, false, false, bz, false, false]) 5 25 11 (fun u g3 c3 r w' => JoinPost ((qs ++ [y]).map PV.key) u (.returned r) w') ⟨gq, 0, none⟩ cq (.agg #[.int .i64 zp.src, .int .i64 zp.dst, .int .i64 zp.kind, .int .i64 zp.id, .int .i64 zp.hops, .bool zp.whole, .int .i64 zp.off, .bool zp.more, .slice (some ⟨gp, 0, none⟩) ds.length cp]) _ _ ti (fun _ h => h) ?g1 ?g2 (by decide) ?g3 rfl rfl ?g4 ?g5 ?g6 rfl rfl rfl rfl rfl rfl rfl rfl ?g7 Try.underlying25 hti hy0 hy1 hy2 ?g8 ?g9 (flat_one _) YC.out.symm rfl (by rw [YC.out]; exact nine_one _ _ _ _) (by omega) ?g10 ?x0 ?x1 _ hH _ (by kernel_rfl) _ (by kernel_rfl)
      case g1 =>
        intro b0 b2 b11 b12 bz
        exact ⟨by kernel_rfl, by kernel_rfl, by kernel_rfl, by kernel_rfl, by kernel_rfl, by kernel_rfl⟩
      case g2 =>
        intro b0 b2 b11 b12 bz
        cases b0 <;> cases b2 <;> cases b11 <;> cases b12 <;> cases bz <;> kernel_rfl
      case g3 => intro d hd; simp at hd; rcases hd with rfl | rfl | rfl | rfl <;> (simp; done)
      case g4 => intro a w K h; exact wpOp_made rfl rfl 131 rfl (by go_simp) h
      case g5 =>
        intro a w K hv h
        simp only [Act.eval, Array.getD_eq_getD_getElem?] at hv
        exact wpOp_made rfl rfl 135 rfl (by go_simp; rfl) h
      case g6 => intro a w K h; exact wpOp_made rfl rfl 15 rfl (by go_simp) h
      case g7 =>
        intro a w K v hv h
        simp only [Act.eval, Array.getD_eq_getD_getElem?] at hv
        exact wpOp_call rfl rfl 137 rfl 11 #[v] (by go_simp) h
      case g8 => rw [flat_len, HN.out]
      case g9 => intro u hu j v hv; exact (P11.out.below hu).src_takeI HN.out n j v (by rw [List.take_of_length_le (by rw [HN.out]; exact Nat.le_refl _)]; exact hv)
      case g10 =>
        intro u g3 c3 hu ho
        exact (implJoin_pl (snoc_pl P11.out HN.out s11 hu YO.out ho) (by rw [List.length_append, HN.out]; rfl) (fine_snoc HF.out YF.out) (by omega)).mono fun e w' h => h.ret
      case x0 =>
        intro e g c y' g3 c3 z u r w' hu hb hp
        obtain ⟨aY, cY, hr, oY, -⟩ := hp.at HK.out
        cases hr
        have hH : Below w11.heap.size w11 w' := hu.trans (hb.mono hu.size)
        have oY' := Joins.ownsRow_le oY hu.size
        clear hp hb oY hu
        simp only [appAct, pf, cond_true, cond_false, Act.put, List.setIfInBounds_toArray, List.set_cons_zero, List.set_cons_succ]
        refine take_held 7 (some 130) (.tuple #[.agg #[.int .i64 kp.src, .int .i64 kp.dst, .int .i64 kp.kind, .int .i64 kp.id, .int .i64 kp.hops, .bool kp.whole, .int .i64 kp.off, .bool kp.more, .slice aY kd.length cY], .int .i64 kc]) rfl rfl (by kernel_rfl) (by kernel_rfl) (by kernel_rfl) (fun _ _ _ h => h) (by rfl) (fun w hS => by go_simp) hH ?_
        simp only [Act.put, List.setIfInBounds_toArray, List.set_cons_zero, List.set_cons_succ]
        refine take_held 8 (some 138) (.agg #[.int .i64 kp.src, .int .i64 kp.dst, .int .i64 kp.kind, .int .i64 kp.id, .int .i64 kp.hops, .bool kp.whole, .int .i64 kp.off, .bool kp.more, .slice aY kd.length cY]) rfl rfl (by kernel_rfl) (by kernel_rfl) (by kernel_rfl) (fun _ _ _ h => h) (by rfl) (fun w hS => by go_simp) hH ?_
        simp only [Act.put, List.setIfInBounds_toArray, List.set_cons_zero, List.set_cons_succ]
        refine take_held 9 (some 139) (.int .i64 kc) rfl rfl (by kernel_rfl) (by kernel_rfl) (by kernel_rfl) (fun _ _ _ h => h) (by rfl) (fun w hS => by go_simp) hH ?_
        simp only [Act.put, List.setIfInBounds_toArray, List.set_cons_zero, List.set_cons_succ]
        refine wpAnyH_ready (rs := [10]) (by kernel_rfl) (by simp) ?_
        refine AllReadyH.cons rfl (fun K hK => ?_) AllReadyH.nil
        have hsw := hH.size
        have oZ := own_below oY' (Joins.below_alloc1 w' (.cells #[.int .i64 0, .int .i64 0, .int .i64 0, .int .i64 0, .int .i64 0, .bool false, .int .i64 0, .bool false, .slice none 0 0] 24))
        go_simp
        refine hK.out _ _ (hH.alloc hH.size _) (fun hH => ?_)
        clear hK K
        have hz : (w'.alloc (.cells #[.int .i64 0, .int .i64 0, .int .i64 0, .int .i64 0, .int .i64 0, .bool false, .int .i64 0, .bool false, .slice none 0 0] 24)).heap[w'.heap.size]? = some (.cells #[.int .i64 0, .int .i64 0, .int .i64 0, .int .i64 0, .int .i64 0, .bool false, .int .i64 0, .bool false, .slice none 0 0] 24 (0, 0)) := heap_new _ _ _ rfl
        have hzW : w11.heap.size ≤ w'.heap.size := hsw
        refine wpAnyH_ready (rs := [11]) (by kernel_rfl) (by simp) ?_
        refine AllReadyH.cons rfl (fun K hK => ?_) AllReadyH.nil
        rw [if_pos (by rfl)]
        refine wp_store_row 24 (.tmp 15) (.tmp 138) rfl w'.heap.size (pcells kp (.slice aY kd.length cY)) (by rfl) (by rfl) 24 _ hz info9 rfl (pcells_all _ _ _ _) ?_
        obtain ⟨f1, f2, f3⟩ := box_set (cs := pcells kp (.slice aY kd.length cY)) hH hz hzW oZ
        refine hK.out _ _ f3 (fun hH => ?_)
        clear hK K
        simp only [Act.put, List.setIfInBounds_toArray, List.set_cons_zero, List.set_cons_succ]
        refine take_held 12 (some 16) (.int .i64 kc) rfl rfl (by kernel_rfl) (by kernel_rfl) (by kernel_rfl) (fun _ _ _ h => h) (by rfl) (fun w hS => by go_simp) hH ?_
        simp only [Act.put, List.setIfInBounds_toArray, List.set_cons_zero, List.set_cons_succ]
        refine wpAnyH_done (by kernel_rfl) ?_ _
        go_wp2_with fail
        go_meet
        case rel => exact ⟨w'.heap.size, aY, cY, rfl, rfl, hzW, f1, f2, f3⟩
      case x1 =>
        intro e g c y' g3 c3 z u r w' hu hb hp hz hzW
        obtain ⟨aY, cY, hr, oY, -⟩ := hp.at HK.out
        cases hr
        have hH : Below w11.heap.size w11 w' := hu.trans (hb.mono hu.size)
        have oY' := Joins.ownsRow_le oY hu.size
        clear hp hb oY hu
        simp only [appAct, pf, cond_true, Act.put, List.setIfInBounds_toArray, List.set_cons_zero, List.set_cons_succ]
        refine take_held 7 (some 130) (.tuple #[.agg #[.int .i64 kp.src, .int .i64 kp.dst, .int .i64 kp.kind, .int .i64 kp.id, .int .i64 kp.hops, .bool kp.whole, .int .i64 kp.off, .bool kp.more, .slice aY kd.length cY], .int .i64 kc]) rfl rfl (by kernel_rfl) (by kernel_rfl) (by kernel_rfl) (fun _ _ _ h => h) (by rfl) (fun w hS => by go_simp) hH ?_
        simp only [Act.put, List.setIfInBounds_toArray, List.set_cons_zero, List.set_cons_succ]
        refine take_held 8 (some 138) (.agg #[.int .i64 kp.src, .int .i64 kp.dst, .int .i64 kp.kind, .int .i64 kp.id, .int .i64 kp.hops, .bool kp.whole, .int .i64 kp.off, .bool kp.more, .slice aY kd.length cY]) rfl rfl (by kernel_rfl) (by kernel_rfl) (by kernel_rfl) (fun _ _ _ h => h) (by rfl) (fun w hS => by go_simp) hH ?_
        simp only [Act.put, List.setIfInBounds_toArray, List.set_cons_zero, List.set_cons_succ]
        refine take_held 9 (some 139) (.int .i64 kc) rfl rfl (by kernel_rfl) (by kernel_rfl) (by kernel_rfl) (fun _ _ _ h => h) (by rfl) (fun w hS => by go_simp) hH ?_
        simp only [Act.put, List.setIfInBounds_toArray, List.set_cons_zero, List.set_cons_succ]
        refine wpAnyH_ready (rs := [11]) (by kernel_rfl) (by simp) ?_
        refine AllReadyH.cons rfl (fun K hK => ?_) AllReadyH.nil
        rw [if_pos (by rfl)]
        refine wp_store_row 24 (.tmp 15) (.tmp 138) rfl z (pcells kp (.slice aY kd.length cY)) (by rfl) (by rfl) 24 _ hz info9 rfl (pcells_all _ _ _ _) ?_
        obtain ⟨f1, f2, f3⟩ := box_set (cs := pcells kp (.slice aY kd.length cY)) hH hz hzW oY'
        refine hK.out _ _ f3 (fun hH => ?_)
        clear hK K
        simp only [Act.put, List.setIfInBounds_toArray, List.set_cons_zero, List.set_cons_succ]
        refine take_held 12 (some 16) (.int .i64 kc) rfl rfl (by kernel_rfl) (by kernel_rfl) (by kernel_rfl) (fun _ _ _ h => h) (by rfl) (fun w hS => by go_simp) hH ?_
        simp only [Act.put, List.setIfInBounds_toArray, List.set_cons_zero, List.set_cons_succ]
        refine wpAnyH_done (by kernel_rfl) ?_ _
        go_wp2_with fail
        go_meet
        case rel => exact ⟨z, aY, cY, rfl, rfl, hzW, f1, f2, f3⟩
    case rest =>
      clear KW HK P11 X11 OP11 YC YO YF HYD HZP HOK HDB
      obtain ⟨zc, aZ, cZ, rfl, rfl, hzc, Z12, oZ12, B12⟩ := hcut
      obtain ⟨w12, rfl⟩ : ∃ w12, w12 = wc := ⟨_, rfl⟩
      have Q12 : Hid (w12.heap[w2.heap.size]? = some (.cells (pcells jp (.slice aQ jd.length cQ)) 24 (0, 0))) := (B12.out.block _ sq11).trans Q11.out
      have oQ12 : Hid (w12.ownsRow w.heap.size 5 1 (.slice aQ jd.length cQ) jd.length (jd.map (.int .u8))) := own_below oQ11.out B12.out
      have D12 : Hid (Below w.heap.size w w12) := D11.out.trans (B12.out.mono s11)
      clear Q11 oQ11 D11 B12
      have hnx := HNX.out
      clear HNX hj1 hj1'
      rcases hnx with ⟨rfl, rfl⟩ | ⟨rfl, rfl | rfl | rfl⟩ | ⟨rfl, rfl | ⟨rfl, hkd, hkp⟩⟩
      · go_wp2
        go_ret
        exact ⟨rfl, D12.out⟩
      · go_wp2
        go_ret
        exact ⟨rfl, D12.out⟩
      · go_wp2
        go_ret
        exact ⟨rfl, D12.out⟩
      · go_wp2
        go_ret
        exact ⟨rfl, D12.out⟩
      · go_wp2
        go_ret
        exact ⟨rfl, D12.out⟩
      obtain ⟨kh, kw, hkq⟩ : ∃ kh kw, kp = ⟨jp.src, jp.dst, jp.kind, jp.id, kh, kw, jp.off, jp.more⟩ := ⟨_, _, hkp⟩
      clear hkp
      have Z13 : Hid (w12.heap[zc]? = some (.cells (pcells ⟨jp.src, jp.dst, jp.kind, jp.id, kh, kw, jp.off, jp.more⟩ (.slice aZ jd.length cZ)) 24 (0, 0))) := (by have h := Z12.out; rw [hkq, hkd] at h; exact h)
      have oZ13 : Hid (w12.ownsRow w11.heap.size 5 1 (.slice aZ jd.length cZ) jd.length (jd.map (.int .u8))) := (by have h := oZ12.out; rw [hkd] at h; exact h)
      clear hkq hkd Z12 oZ12 hkl
      have hzne : ¬ (w2.heap.size = zc) := by omega
      have hzne' : ¬ (zc = w2.heap.size) := by omega
      have lzc := lt_of_block Z13.out
      obtain ⟨lq, q0, q1, q2, q3, q4, q5, q6, q7, q8⟩ := Boxed.of_block Q12.out
      obtain ⟨lz, z0, z1, z2, z3, z4, z5, z6, z7, z8⟩ := Boxed.of_block Z13.out
      have fz : ∀ o, w12.frozen? ⟨zc, o, none⟩ = false := fun o => Joins.unfrozen_of_block Z13.out o
      have KS : Hid (∀ W : World, (∀ k, k ≠ zc → W.heap[k]? = w12.heap[k]?) → RdB W aZ jd.length jd ∧ RdB W aQ jd.length jd) := fun W hW => ⟨RdB.of_own rfl (own_kept oZ13.out fun k hk => hW k (own_box_ne oZ13.out Z13.out k hk)), RdB.of_own rfl (own_kept oQ12.out fun k hk => hW k (own_box_ne oQ12.out Z13.out k hk))⟩
      have KB : Hid (Below w.heap.size w w12) := D12.out
      have hzW : w.heap.size ≤ zc := by omega
      clear D12
      go_wp2_with fail
      obtain ⟨r1, r2⟩ := KS.out ((w12.setCell ⟨zc, 4, none⟩ (.int .i64 jp.hops)).setCell ⟨zc, 5, none⟩ (.bool jp.whole)) (fun k hk => (Below.heap_setCell _ _ _ _ hk).trans (Below.heap_setCell _ _ _ _ hk))
      refine (wfSame_same jp aZ aQ jd.length cZ cQ jd _ r1 r2 (by omega)).mono ?_
      rintro e w13 ⟨rfl, b13⟩
      have B13 : Hid (Below w.heap.size w w13) := ((KB.out.setCell (p := ⟨zc, 4, none⟩) hzW _).setCell (p := ⟨zc, 5, none⟩) hzW _).trans (b13.mono (by simp; exact KB.out.size))
      clear b13 KS KB r1 r2
      go_wp2
      go_ret
      exact ⟨rfl, B13.out⟩
end Go.Proofs.Ytjbkgmbakjnlhaa
