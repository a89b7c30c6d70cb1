/- The law FnFragTop: what is joined is what was cut, whatever the order. -/
import Derived.Test.YtjbkgmbakjnlhaaPartAo
import Derived.Test.YtjbkgmbakjnlhaaPartAj
namespace Go.Proofs.Ytjbkgmbakjnlhaa
open Go.RowKit

theorem JoinPost.at {L : List PB} {w w' : World} {e : Ending} {jc : Int} {jp : Pk} {jd : List Int} (h : JoinPost L w e w') (hJ : joinL L = (jc, (jp, jd))) : ∃ (a : Option Addr) (c : Nat), e = .returned (.tuple #[.agg #[.int .i64 jp.src, .int .i64 jp.dst, .int .i64 jp.kind, .int .i64 jp.id, .int .i64 jp.hops, .bool jp.whole, .int .i64 jp.off, .bool jp.more, .slice a jd.length c], .int .i64 jc]) ∧ w'.ownsRow w.heap.size 5 1 (.slice a jd.length c) jd.length (jd.map (.int .u8)) ∧ Below w.heap.size w w' := by
  obtain ⟨a, c, h1, h2, h3⟩ := h
  rw [hJ] at h1 h2
  exact ⟨a, c, h1, h2, h3⟩
theorem top_join {p : Pk} {ds : List Int} {qs : List PV} (hw : WholeOk p ds.length) (hl : ds.length ≤ 200) (hM : Mixed p ds qs) : ∃ (jc : Int) (jp : Pk) (jd : List Int), joinL (qs.map PV.key) = (jc, (jp, jd)) ∧ jd.length ≤ 200 ∧ ((40 < qs.length ∧ jc = 1) ∨ (qs.length ≤ 40 ∧ jc = 0 ∧ jp = p ∧ jd = ds)) := by
  by_cases h : 40 < qs.length
  · exact ⟨1, zeroPk, [], joinL_one (alikeL_many (by simpa using h)), by simp, Or.inl ⟨h, rfl⟩⟩
  · exact ⟨0, p, ds, join_ways hw hM.ways (by simp; omega), hl, Or.inr ⟨by omega, rfl, rfl, rfl⟩⟩
theorem mixed_fine {p : Pk} {ds : List Int} {qs : List PV} (hM : Mixed p ds qs) (hl : ds.length ≤ 200) (hby : ∀ z ∈ ds, 0 ≤ z ∧ z ≤ 255) : Fine qs :=
  fun y hy => ⟨by have := hM.small y hy; omega, fun z hz => hby z (hM.sub y hy z hz)⟩

theorem turn_mem1 {qs : List PV} {k : Nat} : ∀ y ∈ qs.drop k ++ qs.take k, y ∈ qs := fun y hy => by
  rcases List.mem_append.1 hy with h | h
  · exact List.mem_of_mem_drop h
  · exact List.mem_of_mem_take h
theorem turn_mem2 {qs : List PV} {k : Nat} : ∀ y ∈ qs, y ∈ qs.drop k ++ qs.take k := fun y hy => by
  rw [← List.take_append_drop k qs] at hy
  rw [List.mem_append] at hy ⊢
  exact hy.symm
theorem turn_pl {w v : World} {lo g c n gt ct k : Nat} {qs : List PV} (hq : PL w lo (.slice (some ⟨g, 0, none⟩) n c) qs) (hn : qs.length = n) (hb : Below w.heap.size w v) (hs : lo ≤ w.heap.size)
    (ho : v.ownsRow w.heap.size 24 9 (.slice (some ⟨gt, 0, none⟩) n ct) n ((qs.drop k).flatMap PV.cells ++ (qs.take k).flatMap PV.cells)) : PL v lo (.slice (some ⟨gt, 0, none⟩) n ct) (qs.drop k ++ qs.take k) := by
  refine ⟨?_, fun x hx => own_below (hq.each x (turn_mem1 x hx)) hb⟩
  have e : (qs.drop k ++ qs.take k).length = n := by simp; omega
  rw [e, List.flatMap_append]
  exact Joins.ownsRow_le ho hs

set_option maxRecDepth 100000 in
set_option maxHeartbeats 6400000 in
theorem topLaw_any (a : Option Addr) (len cap : Nat) (w : World) (hlen : (len : Int) ≤ 1048576) (hd : Hid (Calls Try.prog 10 #[.slice a len cap] w (WaysPost w))) :
    Calls Try.prog 3 #[.slice a len cap] w fun e w' => e = .returned (.bool true) ∧ Below w.heap.size w w' := by
  have hne : ∀ x : Int, (x != x) = false := fun x => by simp
  obtain ⟨ti, hti, hy0, hy1, hy2⟩ := info_parts Try.info24
  go_enter Try.func3, Try.ntmps3
  go_wp2_with fail
  refine hd.out.mono ?_
  rintro e w1 ⟨p, g, c, ds, gq, cq, qs, rfl, hw, hl, hby, ho, hP, hM, hn, B1⟩
  clear hd
  have HW : Hid (WholeOk p ds.length) := hw
  have HM : Hid (Mixed p ds qs) := hM
  have HF : Hid (Fine qs) := mixed_fine hM hl hby
  obtain ⟨jc, jp, jd, hJ, hjl, hj⟩ := top_join hw hl hM
  have HJ : Hid (joinL (qs.map PV.key) = (jc, (jp, jd))) := hJ
  have HJ4 : Hid ((40 < qs.length ∧ jc = 1) ∨ (qs.length ≤ 40 ∧ jc = 0 ∧ jp = p ∧ jd = ds)) := hj
  have s1 := B1.size
  clear hw hM hJ hj
  unfold Pk.val
  have P1 := hP.below (Joins.below_alloc1 w1 (.cells (pcells p (.slice (some ⟨g, 0, none⟩) ds.length c)) 24))
  have O1 := own_below ho (Joins.below_alloc1 w1 (.cells (pcells p (.slice (some ⟨g, 0, none⟩) ds.length c)) 24))
  have X1 : (w1.alloc (.cells (pcells p (.slice (some ⟨g, 0, none⟩) ds.length c)) 24)).heap[w1.heap.size]? = some (.cells (pcells p (.slice (some ⟨g, 0, none⟩) ds.length c)) 24 (0, 0)) := heap_new _ _ _ rfl
  clear hP ho hby
  go_wp2_with fail
  refine (implJoin_pl P1 rfl HF.out (by omega)).mono ?_
  intro e w2 hj2
  obtain ⟨aQ, cQ, rfl, oQ, b2⟩ := hj2.at HJ.out
  clear hj2
  have B2 : Below w.heap.size w w2 := (B1.alloc s1 _).trans (b2.mono (by simp; omega))
  have P2 := P1.below b2
  have O2 := own_below O1 b2
  have X2 := (b2.block _ (lt_of_block X1)).trans X1
  have s2 := lt_of_block X2
  clear b2 P1 O1 X1 B1
  go_wp2_with fail
  refine (specJoin_pl (P2.below (Joins.below_alloc1 _ _)) rfl HF.out (by omega)).mono ?_
  intro e w3 hj3
  obtain ⟨aW, cW, rfl, oW, b3⟩ := hj3.at HJ.out
  clear hj3
  have b3' : Below w2.heap.size w2 w3 := (Joins.below_alloc1 _ _).trans (b3.mono (by simp))
  have B3 : Below w.heap.size w w3 := B2.trans (b3'.mono B2.size)
  have P3 := P2.below b3'
  have O3 := own_below O2 b3'
  have X3 := (b3'.block _ (lt_of_block X2)).trans X2
  have Q3 : w3.heap[w2.heap.size]? = some (.cells (pcells jp (.slice aQ jd.length cQ)) 24 (0, 0)) := (b3.block _ (by simp)).trans (heap_new _ _ _ rfl)
  have oQ3 := own_below oQ b3'
  have s3 := lt_of_block Q3
  clear b3 b3' P2 O2 X2 B2 oQ
  obtain ⟨lq, q0, q1, q2, q3, q4, q5, q6, q7, q8⟩ := Boxed.of_block Q3
  go_wp2_with fail
  refine (wfSame_same jp aQ aW jd.length cQ cW jd _ ((RdB.of_own rfl oQ3).below (Joins.below_alloc1 _ _)) ((RdB.of_own rfl oW).below (Joins.below_alloc1 _ _)) (by omega)).mono ?_
  rintro e w4 ⟨rfl, b4⟩
  have b4' : Below w3.heap.size w3 w4 := (Joins.below_alloc1 _ _).trans (b4.mono (by simp))
  have B4 : Below w.heap.size w w4 := B3.trans (b4'.mono B3.size)
  have P4 := P3.below b4'
  have O4 := own_below O3 b4'
  have X4 := (b4'.block _ (lt_of_block X3)).trans X3
  have Q4 := (b4'.block _ (lt_of_block Q3)).trans Q3
  have oQ4 := own_below oQ3 b4'
  clear b4 b4' P3 O3 X3 B3 oQ3 Q3 oW q0 q1 q2 q3 q4 q5 q6 q7 q8 lq
  have hjj := HJ4.out
  rcases hjj with ⟨h40, rfl⟩ | ⟨h40, rfl, rfl, rfl⟩
  · have h40' : (40 : Int) < (qs.length : Int) := by omega
    go_wp2
    go_ret
    exact ⟨rfl, B4⟩
  have h40' : ¬ ((40 : Int) < (qs.length : Int)) := by omega
  obtain ⟨lq, q0, q1, q2, q3, q4, q5, q6, q7, q8⟩ := Boxed.of_block Q4
  obtain ⟨lx, x0, x1, x2, x3, x4, x5, x6, x7, x8⟩ := Boxed.of_block X4
  go_wp2_with fail
  refine (wfSame_same jp aQ (some ⟨g, 0, none⟩) jd.length cQ c jd _ (RdB.of_own rfl oQ4) (RdB.of_own rfl O4) (by omega)).mono ?_
  rintro e w5 ⟨rfl, b5⟩
  have B5 : Hid (Below w.heap.size w w5) := B4.trans (b5.mono B4.size)
  have P5 : Hid (PL w5 w.heap.size (.slice (some ⟨gq, 0, none⟩) qs.length cq) qs) := P4.below b5
  have O5 : Hid (w5.ownsRow w.heap.size 5 1 (.slice (some ⟨g, 0, none⟩) jd.length c) jd.length (jd.map (.int .u8))) := own_below O4 b5
  have X5 : Hid (w5.heap[w1.heap.size]? = some (.cells (pcells jp (.slice (some ⟨g, 0, none⟩) jd.length c)) 24 (0, 0))) := (b5.block _ (lt_of_block X4)).trans X4
  have hcc := own_caps P4.row
  have s5 : w1.heap.size < w5.heap.size := lt_of_block X5.out
  have sw5 := B5.out.size
  clear b5 P4 O4 X4 Q4 oQ4 B4 q0 q1 q2 q3 q4 q5 q6 q7 q8 lq x0 x1 x2 x3 x4 x5 x6 x7 x8 lx HJ HJ4
  go_wp2
  go_loopw [9] (fun nx wr => ∃ (k : Nat), k ≤ qs.length ∧ nx = .int .i64 k ∧ Hid (Below w5.heap.size w5 wr)) (fun nx _ => qs.length - (intOf nx).toNat)
  case atStart => exact ⟨0, by omega, rfl, Below.refl _ _⟩
  case round =>
    obtain ⟨k, hkn, rfl, BH⟩ := hrel
    by_cases hk : k < qs.length
    · have hk' : (k : Int) < (qs.length : Int) := by omega
      obtain ⟨n, hnn⟩ : ∃ n, qs.length = n := ⟨_, rfl⟩
      have HN : Hid (qs.length = n) := hnn
      rw [hnn] at hk hk' hcc h40 h40' hn ⊢
      have ps0 : Hid (PL wr w.heap.size (.slice (some ⟨gq, 0, none⟩) n cq) qs) := (by have h := P5.out.below BH.out; rw [hnn] at h; exact h)
      have FD : Hid (((qs.drop k).flatMap PV.cells).length = (n - k) * 9) := (show _ = _ by rw [flat_drop_len, hnn])
      have FT : Hid (((qs.take k).flatMap PV.cells).length = k * 9) := (show _ = _ by rw [flat_take_len _ _ (by omega)])
      have sr := BH.out.size
      clear hnn
      have hkle : k ≤ n := by omega
      have hkc : k ≤ cq := by omega
      have hkne : ¬ (cq = k) := by omega
      go_wp2
      refine wp_region_held_drew (S := fun _ => True) (by kernel_rfl) trivial (fun hH => ?_)
      refine take_held 1 (some 62) (.slice (some ⟨gq, 0, none⟩) n cq) rfl rfl (by kernel_rfl) (by kernel_rfl) (by kernel_rfl) (fun _ _ _ h => h) (by rfl) (fun w _ => by go_simp) hH ?_
      simp only [Act.put, List.setIfInBounds_toArray, List.set_cons_zero, List.set_cons_succ]
      refine take_held 2 (some 63) (.int .i64 k) rfl rfl (by kernel_rfl) (by kernel_rfl) (by kernel_rfl) (fun _ _ _ h => h) (by rfl) (fun w _ => by go_simp) hH ?_
      simp only [Act.put, List.setIfInBounds_toArray, List.set_cons_zero, List.set_cons_succ]
      refine take_held 3 (some 64) (.slice (some ⟨gq, k * 9, none⟩) (n - k) (cq - k)) rfl rfl (by kernel_rfl) (by kernel_rfl) (by kernel_rfl) (fun _ _ _ h => h) (by rfl) (fun w _ => by go_simp) hH ?_
      simp only [Act.put, List.setIfInBounds_toArray, List.set_cons_zero, List.set_cons_succ]
      refine take_held 5 (some 66) (.slice (some ⟨gq, 0, none⟩) n cq) rfl rfl (by kernel_rfl) (by kernel_rfl) (by kernel_rfl) (fun _ _ _ h => h) (by rfl) (fun w _ => by go_simp) hH ?_
      simp only [Act.put, List.setIfInBounds_toArray, List.set_cons_zero, List.set_cons_succ]
      refine take_held 6 (some 67) (.int .i64 k) rfl rfl (by kernel_rfl) (by kernel_rfl) (by kernel_rfl) (fun _ _ _ h => h) (by rfl) (fun w _ => by go_simp) hH ?_
      simp only [Act.put, List.setIfInBounds_toArray, List.set_cons_zero, List.set_cons_succ]
      refine take_held 7 (some 68) (.slice (some ⟨gq, 0, none⟩) k cq) rfl rfl (by kernel_rfl) (by kernel_rfl) (by kernel_rfl) (fun _ _ _ h => h) (by rfl) (fun w _ => by go_simp) hH ?_
      simp only [Act.put, List.setIfInBounds_toArray, List.set_cons_zero, List.set_cons_succ]
      refine wpAnyH_ready (rs := [0]) (by kernel_rfl) (by simp) ?_
      refine AllReadyH.cons rfl (fun K hK => ?_) AllReadyH.nil
      go_simp
      refine hK.out _ _ trivial (fun hH => ?_)
      clear hK K
      refine wpAnyH_ready (rs := [4]) (by kernel_rfl) (by simp) ?_
      refine AllReadyH.cons rfl (fun K hK => ?_) AllReadyH.nil
      refine step_append_d rfl (some 65) rfl (.tmp 61) (.tmp 64) 25 rfl wr.heap.size 24 ti (.agg #[.int .i64 0, .int .i64 0, .int .i64 0, .int .i64 0, .int .i64 0, .bool false, .int .i64 0, .bool false, .slice none 0 0]) 9 88 Try.underlying25 hti hy0 hy1 hy2 rfl (by decide) (.slice (some ⟨wr.heap.size, 0, none⟩) 0 0) 0 [] rfl ?_ ⟨gq, k * 9, none⟩ (n - k) (cq - k) ((qs.drop k).flatMap PV.cells) rfl FD.out ?_ (flat_one _) (by unfold maxLen; omega) (by omega) ?_ ?_
      · exact (PL.nil wr.drew _ _ rfl (Nat.le_refl _)).row
      · exact (ps0.out.below (((Below.refl _ wr).drew).trans ((Joins.below_alloc1 wr.drew (.cells #[] 24)).mono (Nat.le_refl _)))).src_dropI HN.out k
      · exact (((Below.refl _ wr).drew).trans ((Joins.below_alloc1 wr.drew (.cells #[] 24)).mono (Nat.le_refl _))).size
      intro v1 w7 ho7 hg7 hn7
      rw [Nat.zero_add, List.nil_append] at ho7
      obtain ⟨ga, ca, rfl⟩ : ∃ ga ca, v1 = .slice (some ⟨ga, 0, none⟩) (n - k) ca := form_of ho7 (fun e => nomatch (hn7.1 e).1)
      have b7 : Below wr.heap.size wr w7 := (((Below.refl _ wr).drew).trans ((Joins.below_alloc1 wr.drew (.cells #[] 24)).mono (Nat.le_refl _))).grown hg7 (((Below.refl _ wr).drew).trans ((Joins.below_alloc1 wr.drew (.cells #[] 24)).mono (Nat.le_refl _))).size (fun j hj => by cases hj; exact Nat.le_refl _)
      refine hK.out _ _ trivial (fun hH => ?_)
      clear hK K
      simp only [Act.put, List.setIfInBounds_toArray, List.set_cons_zero, List.set_cons_succ]
      refine wpAnyH_ready (rs := [8]) (by kernel_rfl) (by simp) ?_
      refine AllReadyH.cons rfl (fun K hK => ?_) AllReadyH.nil
      refine step_append_d rfl (some 69) rfl (.tmp 65) (.tmp 68) 25 rfl wr.heap.size 24 ti (.agg #[.int .i64 0, .int .i64 0, .int .i64 0, .int .i64 0, .int .i64 0, .bool false, .int .i64 0, .bool false, .slice none 0 0]) 9 88 Try.underlying25 hti hy0 hy1 hy2 rfl (by decide) (.slice (some ⟨ga, 0, none⟩) (n - k) ca) (n - k) ((qs.drop k).flatMap PV.cells) rfl ho7 ⟨gq, 0, none⟩ k cq ((qs.take k).flatMap PV.cells) rfl FT.out ((ps0.out.below b7).src_takeI HN.out k) (flat_one _) (by unfold maxLen; omega) (by omega) b7.size ?_
      intro v2 w8 ho8 hg8 hn8
      rw [show n - k + k = n by omega] at ho8
      obtain ⟨gt, ct, rfl⟩ : ∃ gt ct, v2 = .slice (some ⟨gt, 0, none⟩) n ct := form_of ho8 (fun e => nomatch (hn8.1 e).1)
      have b8 : Below wr.heap.size wr w8 := b7.grown hg8 b7.size (fun j hj => (own_lt ho7 j hj).1)
      refine hK.out _ _ trivial (fun hH => ?_)
      clear hK K
      simp only [Act.put, List.setIfInBounds_toArray, List.set_cons_zero, List.set_cons_succ]
      refine take_held 9 (some 10) (.slice (some ⟨gt, 0, none⟩) n ct) rfl rfl (by kernel_rfl) (by kernel_rfl) (by kernel_rfl) (fun _ _ _ h => h) (by rfl) (fun w _ => by go_simp) hH ?_
      simp only [Act.put, List.setIfInBounds_toArray, List.set_cons_zero, List.set_cons_succ]
      refine wpAnyH_done (by kernel_rfl) ?_ _
      have LT : Hid ((qs.drop k ++ qs.take k).length = n) := (show _ = _ by have := HN.out; simp; omega)
      have T8 : PL w8 w.heap.size (.slice (some ⟨gt, 0, none⟩) n ct) (qs.drop k ++ qs.take k) := turn_pl ps0.out HN.out b8 (by omega) ho8
      have M8 : Mixed jp jd (qs.drop k ++ qs.take k) := HM.out.mix turn_mem1 turn_mem2
      have B8 : Below w5.heap.size w5 w8 := BH.out.trans (b8.mono sr)
      clear ho7 hg7 hn7 ho8 hg8 hn8 b7 b8 ps0 FD FT BH
      have J8 : Hid (joinL ((qs.drop k ++ qs.take k).map PV.key) = (0, (jp, jd))) := join_ways HW.out M8.ways (by rw [List.length_map, LT.out]; exact h40)
      have M9 : Mixed jp jd (qs.drop k ++ qs.take k).reverse := M8.mix (fun y hy => List.mem_reverse.1 hy) (fun y hy => List.mem_reverse.2 hy)
      have LR : Hid ((qs.drop k ++ qs.take k).reverse.length = n) := (show _ = _ by rw [List.length_reverse]; exact LT.out)
      have J9 : Hid (joinL ((qs.drop k ++ qs.take k).reverse.map PV.key) = (0, (jp, jd))) := join_ways HW.out M9.ways (by rw [List.length_map, LR.out]; exact h40)
      have F8 : Hid (Fine (qs.drop k ++ qs.take k)) := fun y hy => HF.out y (turn_mem1 y hy)
      have F9 : Hid (Fine (qs.drop k ++ qs.take k).reverse) := fun y hy => HF.out y (turn_mem1 y (List.mem_reverse.1 hy))
      clear M8 M9
      obtain ⟨ts, hts⟩ : ∃ ts, qs.drop k ++ qs.take k = ts := ⟨_, rfl⟩
      rw [hts] at T8 J8 F8 LT J9 F9 LR
      clear hts
      have X8 := (B8.block _ s5).trans X5.out
      have O8 := own_below O5.out B8
      go_wp2_with fail
      refine (implJoin_pl T8 LT.out F8.out (by omega)).mono ?_
      intro e w9 hj9
      obtain ⟨aX, cX, rfl, oX, b9⟩ := hj9.at J8.out
      clear hj9
      have B9 : Below w5.heap.size w5 w9 := B8.trans (b9.mono B8.size)
      have T9 := T8.below b9
      have X9 := (b9.block _ (lt_of_block X8)).trans X8
      have O9 := own_below O8 b9
      have sl9 := B9.size
      clear b9 T8 X8 O8 B8
      go_wp2_with fail
      refine (wfBack_any w.heap.size gt ct n ts _ LT.out (T9.below (Joins.below_alloc1 _ _)) (by simp; omega) (by omega)).mono ?_
      rintro e wa ⟨gb, cb, rfl, Ta, ba⟩
      have ba' : Below w9.heap.size w9 wa := (Joins.below_alloc1 _ _).trans (ba.mono (by simp))
      have Ba : Below w5.heap.size w5 wa := B9.trans (ba'.mono B9.size)
      have Xa := (ba'.block _ (lt_of_block X9)).trans X9
      have Oa := own_below O9 ba'
      have oXa := own_below oX ba'
      have Ya : wa.heap[w9.heap.size]? = some (.cells (pcells jp (.slice aX jd.length cX)) 24 (0, 0)) := (ba.block _ (by simp)).trans (heap_new _ _ _ rfl)
      clear ba ba' T9 X9 O9 B9 oX
      go_wp2_with fail
      refine (implJoin_pl Ta LR.out F9.out (by omega)).mono ?_
      intro e wb hjb
      obtain ⟨aY, cY, rfl, oY, bb⟩ := hjb.at J9.out
      clear hjb
      have Bb : Below w5.heap.size w5 wb := Ba.trans (bb.mono Ba.size)
      have Xb := (bb.block _ (lt_of_block Xa)).trans Xa
      have Ob := own_below Oa bb
      have oXb := own_below oXa bb
      have Yb := (bb.block _ (lt_of_block Ya)).trans Ya
      have slb := lt_of_block Yb
      have sxb := lt_of_block Xb
      clear bb Ta Xa Oa oXa Ya Ba
      obtain ⟨lx, x0, x1, x2, x3, x4, x5, x6, x7, x8⟩ := Boxed.of_block Xb
      obtain ⟨ly, y0, y1, y2, y3, y4, y5, y6, y7, y8⟩ := Boxed.of_block Yb
      go_wp2_with fail
      refine (wfSame_same jp aX (some ⟨g, 0, none⟩) jd.length cX c jd _ ((RdB.of_own rfl oXb).below (Joins.below_alloc1 _ _)) ((RdB.of_own rfl Ob).below (Joins.below_alloc1 _ _)) (by omega)).mono ?_
      rintro e wc ⟨rfl, bc⟩
      have bc' : Below wb.heap.size wb wc := (Joins.below_alloc1 _ _).trans (bc.mono (by simp))
      have Bc : Below w5.heap.size w5 wc := Bb.trans (bc'.mono Bb.size)
      have Xc := (bc'.block _ (lt_of_block Xb)).trans Xb
      have Oc := own_below Ob bc'
      have Zc : wc.heap[wb.heap.size]? = some (.cells (pcells jp (.slice aY jd.length cY)) 24 (0, 0)) := (bc.block _ (by simp)).trans (heap_new _ _ _ rfl)
      have oYc := own_below oY bc'
      clear bc bc' Xb Ob oXb Yb Bb oY x0 x1 x2 x3 x4 x5 x6 x7 x8 lx y0 y1 y2 y3 y4 y5 y6 y7 y8 ly
      obtain ⟨lx, x0, x1, x2, x3, x4, x5, x6, x7, x8⟩ := Boxed.of_block Xc
      obtain ⟨lz, z0, z1, z2, z3, z4, z5, z6, z7, z8⟩ := Boxed.of_block Zc
      go_wp2_with fail
      refine (wfSame_same jp aY (some ⟨g, 0, none⟩) jd.length cY c jd _ (RdB.of_own rfl oYc) (RdB.of_own rfl Oc) (by omega)).mono ?_
      rintro e wd ⟨rfl, bd⟩
      have BD : Hid (Below w5.heap.size w5 wd) := Bc.trans (bd.mono Bc.size)
      clear bd Bc Xc Oc Zc oYc x0 x1 x2 x3 x4 x5 x6 x7 x8 lx z0 z1 z2 z3 z4 z5 z6 z7 z8 lz
      go_wp2
      go_roundw
      case rel => exact ⟨k + 1, by have := HN.out; omega, by go_num, BD.out⟩
      case measure => simp [intOf]; omega
    · obtain rfl : k = qs.length := by omega
      go_wp2
      go_ret
      exact ⟨rfl, B5.out.trans (BH.out.mono sw5)⟩
end Go.Proofs.Ytjbkgmbakjnlhaa

/- Joining, plain: what is joined is ok; what one more piece makes of it. -/
namespace Go.Proofs.Ytjbkgmbakjnlhaa

theorem bytes_len {L : List PB} : ∀ (n : Nat) (bs : List Int), bytesL L n = some bs → bs.length = n
  | 0, bs, h => by
    simp only [bytesL, Option.some.injEq] at h
    subst h
    rfl
  | n + 1, bs, h => by
    unfold bytesL at h
    cases h1 : bytesL L n with
    | none => rw [h1] at h; simp at h
    | some cs =>
      cases h2 : L.find? (fun x => hasB x n) with
      | none => rw [h1, h2] at h; simp at h
      | some x =>
        rw [h1, h2] at h
        simp only [Option.some.injEq] at h
        subst h
        rw [List.length_append, bytes_len n cs h1]
        rfl
theorem ok_parts {p : Pk} {len : Nat} (h : okB p len = true) : (0 ≤ p.src ∧ p.src ≤ 65535) ∧ (0 ≤ p.dst ∧ p.dst ≤ 65535) ∧ (1 ≤ p.kind ∧ p.kind ≤ 7) ∧ (0 ≤ p.id ∧ p.id ≤ 255) ∧ (1 ≤ p.hops ∧ p.hops ≤ 64) ∧ 0 ≤ p.off ∧ (len : Int) ≤ 128 - p.off := by
  simp only [okB, headB, offB, inB, Bool.and_eq_true, decide_eq_true_eq] at h
  omega
theorem fold_in : ∀ (l : List PB) (h : Int), 1 ≤ h ∧ h ≤ 64 → (∀ y ∈ l, 1 ≤ y.1.hops ∧ y.1.hops ≤ 64) → 1 ≤ l.foldl (fun h y => if y.1.hops < h then y.1.hops else h) h ∧ l.foldl (fun h y => if y.1.hops < h then y.1.hops else h) h ≤ 64
  | [], h, h1, _ => h1
  | y :: r, h, h1, h2 => by
    rw [List.foldl_cons]
    refine fold_in r _ ?_ (fun z hz => h2 z (List.mem_cons_of_mem _ hz))
    have := h2 y (List.mem_cons_self)
    split <;> omega
/-- the parts of a good join -/
theorem join_parts {L : List PB} (h : (joinL L).1 = 0) : ∃ e bs, alikeL L = true ∧ endL L = some e ∧ bytesL L e.toNat = some bs ∧ joinL L = (0, (headL L, bs)) := by
  unfold joinL at h ⊢
  cases ha : alikeL L with
  | false => rw [ha] at h; simp at h
  | true =>
    rw [ha, if_pos rfl] at h
    rw [if_pos rfl]
    cases hd : disagreeL L with
    | true => rw [hd] at h; simp at h
    | false =>
      rw [hd, if_neg (by simp)] at h
      rw [if_neg (by simp)]
      cases he : endL L with
      | none => rw [he] at h; simp at h
      | some e =>
        rw [he] at h
        simp only at h ⊢
        cases hb : bytesL L e.toNat with
        | none => rw [hb] at h; simp at h
        | some bs => exact ⟨e, bs, by first | rfl | trivial, by first | rfl | trivial, by first | rfl | exact hb, by first | rfl | rw [hb]⟩
theorem end_le {L : List PB} {e : Int} (ha : alikeL L = true) (h : endL L = some e) : e.toNat ≤ 128 := by
  unfold endL at h
  cases hf : L.find? (fun x => !x.1.more) with
  | none => rw [hf] at h; simp at h
  | some x =>
    rw [hf] at h
    simp only [Option.map_some, Option.some.injEq] at h
    have hx := List.mem_of_find?_eq_some hf
    have hk := ((alikeL_iff L).1 ha).2.2 x hx x hx
    simp only [alikeB, Bool.and_eq_true] at hk
    have := ok_parts hk.1.1.1.1.1
    unfold endOf at h
    omega
/-- what is joined is ok -/
theorem join_ok {L : List PB} {p : Pk} {ds : List Int} (h : joinL L = (0, (p, ds))) : okB p ds.length = true := by
  obtain ⟨e, bs, ha, he, hb, hj⟩ := join_parts (L := L) (by rw [h])
  rw [h] at hj
  simp only [Prod.mk.injEq, true_and] at hj
  obtain ⟨rfl, rfl⟩ := hj
  have hl := bytes_len _ _ hb
  have h128 := end_le ha he
  obtain ⟨hne, _, hal⟩ := (alikeL_iff L).1 ha
  have oks : ∀ x ∈ L, okB x.1 x.2.length = true := fun x hx => by
    have hk := hal x hx x hx
    simp only [alikeB, Bool.and_eq_true] at hk
    exact hk.1.1.1.1.1
  match L, hne, oks with
  | x :: r, _, oks =>
    have hx := ok_parts (oks x List.mem_cons_self)
    have hh := fold_in (x :: r) x.1.hops hx.2.2.2.2.1 (fun y hy => (ok_parts (oks y hy)).2.2.2.2.1)
    obtain ⟨m, wh, hm, e⟩ : ∃ (m : Int) (wh : Bool), (1 ≤ m ∧ m ≤ 64) ∧ headL (x :: r) = ⟨x.1.src, x.1.dst, x.1.kind, x.1.id, m, wh, 0, false⟩ := ⟨_, _, hh, rfl⟩
    rw [e]
    simp [okB, headB, offB, moreB, wholeB, inB]
    omega
theorem join_small (L : List PB) : (joinL L).2.2.length ≤ 128 := by
  by_cases h : (joinL L).1 = 0
  · obtain ⟨e, bs, ha, he, hb, hj⟩ := join_parts h
    rw [hj, bytes_len _ _ hb]
    exact end_le ha he
  · unfold joinL at h ⊢
    split
    · rename_i ha
      rw [if_pos ha] at h
      split
      · simp
      · rename_i hd
        rw [if_neg hd] at h
        cases he : endL L with
        | none => simp
        | some e =>
          rw [he] at h
          simp only at h ⊢
          cases hb : bytesL L e.toNat with
          | none => simp
          | some bs => rw [hb] at h; simp at h
    · simp
theorem join_many {L : List PB} (h : 40 < L.length) : joinL L = (1, (zeroPk, [])) := by
  have ha : alikeL L = false := by
    cases e : alikeL L with
    | false => rfl
    | true => have := ((alikeL_iff L).1 e).2.1; omega
  unfold joinL
  rw [ha]
  rfl
theorem join_rev (L : List PB) : joinL L.reverse = joinL L := by
  by_cases h : 40 < L.length
  · rw [join_many h, join_many (by rw [List.length_reverse]; exact h)]
  · exact join_same (fun y hy => List.mem_reverse.1 hy) (fun y hy => List.mem_reverse.2 hy) (by rw [List.length_reverse]; omega) (by omega)
theorem join_twice {L : List PB} {z : PB} (hz : z ∈ L) (hl : L.length < 40) : joinL (L ++ [z]) = joinL L :=
  join_same (fun y hy => by
    rcases List.mem_append.1 hy with a | a
    · exact a
    · obtain rfl := List.mem_singleton.1 a
      exact hz) (fun y hy => List.mem_append_left _ hy) (by simp; omega) (by omega)
/-- one more piece that is alike -/
theorem join_next {L : List PB} {z : PB} (h : (joinL L).1 ≠ 1) (hz : ∀ x ∈ L, alikeB x z = true) (hl : L.length < 40) :
    ((joinL L).1 = 2 ∧ (joinL (L ++ [z])).1 = 2) ∨ ((joinL L).1 = 3 ∧ ((joinL (L ++ [z])).1 = 0 ∨ (joinL (L ++ [z])).1 = 2 ∨ (joinL (L ++ [z])).1 = 3)) ∨ ((joinL L).1 = 0 ∧ ((joinL (L ++ [z])).1 = 2 ∨ ((joinL (L ++ [z])).1 = 0 ∧ (joinL (L ++ [z])).2.2 = (joinL L).2.2 ∧ (joinL (L ++ [z])).2.1 = ⟨(joinL L).2.1.src, (joinL L).2.1.dst, (joinL L).2.1.kind, (joinL L).2.1.id, (joinL (L ++ [z])).2.1.hops, (joinL (L ++ [z])).2.1.whole, (joinL L).2.1.off, (joinL L).2.1.more⟩))) := by
  have ha : alikeL L = true := by
    cases e : alikeL L with
    | true => rfl
    | false => exact absurd ((join_one L).2 e) h
  have ha' := alike_more ha hz hl
  have h1 : (joinL (L ++ [z])).1 ≠ 1 := fun e => by
    have := (join_one _).1 e
    rw [ha'] at this
    cases this
  rcases join_code L with c | c | c | c
  · refine Or.inr (Or.inr ⟨c, ?_⟩)
    rcases join_more c hz hl with a | ⟨a, b, d, e⟩
    · exact Or.inl a
    · refine Or.inr ⟨a, b, ?_⟩
      rw [d, e]
      obtain ⟨hne, _, _⟩ := (alikeL_iff L).1 ha
      match L, hne with
      | x :: r, _ => rfl
  · exact absurd c h
  · exact Or.inl ⟨c, join_lies c hz hl⟩
  · refine Or.inr (Or.inl ⟨c, ?_⟩)
    rcases join_code (L ++ [z]) with a | a | a | a
    · exact Or.inl a
    · exact absurd a h1
    · exact Or.inr (Or.inl a)
    · exact Or.inr (Or.inr a)
theorem alike_first {x0 z : PB} {r : List PB} (ha : alikeL (x0 :: r) = true) (hz : okB z.1 z.2.length = true) (h1 : z.1.src = x0.1.src) (h2 : z.1.dst = x0.1.dst) (h3 : z.1.kind = x0.1.kind) (h4 : z.1.id = x0.1.id) : ∀ x ∈ x0 :: r, alikeB x z = true := fun x hx => by
  have hk := ((alikeL_iff _).1 ha).2.2 x hx x0 List.mem_cons_self
  simp only [alikeB, Bool.and_eq_true, beq_iff_eq] at hk ⊢
  rw [h1, h2, h3, h4]
  exact ⟨⟨⟨⟨⟨hk.1.1.1.1.1, hz⟩, hk.1.1.1.2⟩, hk.1.1.2⟩, hk.1.2⟩, hk.2⟩
end Go.Proofs.Ytjbkgmbakjnlhaa
