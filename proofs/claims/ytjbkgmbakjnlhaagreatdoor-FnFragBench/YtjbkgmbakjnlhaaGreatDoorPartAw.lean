import Derived.Test.YtjbkgmbakjnlhaaGreatDoorPartAo
namespace Go.Proofs.YtjbkgmbakjnlhaaGreatDoor
set_option maxRecDepth 100000
open Go.RowKit
theorem own_emptyK (w : World) (n base : Nat) (h : n = w.heap.size) (hb : base ≤ n) : (w.alloc (.cells #[] 103)).ownsRow base 103 4 (.slice (some ⟨n, 0, none⟩) 0 0) 0 [] :=
 ⟨rfl, Or.inr ⟨n, 0, #[], rfl, hb, heap_new _ _ _ h, Nat.le_refl _, by unfold maxLen; omega, rfl, rfl⟩⟩
def KCopy (w' : World) (lo : Nat) (v : Value) (ks : List K4) : Prop := ∃ oa c, v = .slice oa ks.length c ∧ (ks = [] ∨ ∃ g, oa = some ⟨g, 0, none⟩ ∧ lo ≤ g ∧ KRow w' g ks)
set_option maxHeartbeats 1600000 in
theorem cloneK_any (lo : Nat) (ov : Value) (ks : List K4) (w : World) (hO : w.ownsRow lo 103 4 ov ks.length (kflat ks)) (hl : ks.length ≤ 1000) :
  Calls Tryz.prog 64 #[ov] w fun e w' => ∃ v, e = .returned v ∧ KCopy w' w.heap.size v ks ∧ Below w.heap.size w w' := by
 obtain ⟨ti, hti, hy0, hy1, hy2⟩ := info_parts Tryz.infoKey
 rcases Joins.ownsRow_forms hO with ⟨h1, h2⟩ | ⟨g, c, h1⟩
 ·subst h1
  have hk : ks = [] := List.eq_nil_of_length_eq_zero h2
  subst hk
  have hq := fun (w : World) => Lib.run_eql_slice_nil (P := Tryz.prog) w 98 103 none 0 0 0 0 Tryz.underlying98
  clear hO
  go_enter Tryz.func64, Tryz.ntmps64
  go_wp2
  go_ret
  exact ⟨_, rfl, ⟨none, 0, rfl, Or.inl rfl⟩, Below.refl _ _⟩
 ·subst h1
  have hq := fun (w : World) => Lib.run_eql_slice_nil (P := Tryz.prog) w 98 103 (some ⟨g, 0, none⟩) ks.length c 0 0 Tryz.underlying98
  have HO : Hid (w.ownsRow lo 103 4 (.slice (some ⟨g, 0, none⟩) ks.length c) ks.length (kflat ks)) := hO
  clear hO
  go_enter Tryz.func64, Tryz.ntmps64
  go_wp2_with (at_builtin; refine wpList_append_own _ rfl _ _ 98 rfl w.heap.size 103 ti (.agg #[.int .i64 0, .int .i64 0, .int .i64 0, .int .i64 0]) 4 32 Tryz.underlying98 hti hy0 hy1 hy2 rfl (by decide) (.slice (some ⟨w.heap.size, 0, none⟩) 0 0) 0 [] rfl ?h1 ⟨g, 0, none⟩ ks.length c (kflat ks) rfl ?h2 ?h3 (kflat_one ks) ?h4 ?h5 ?h6 ?_)
  case h1 => exact own_emptyK _ _ _ (by simp) (by omega)
  case h2 => exact kflat_len ks
  case h3 =>
   intro j u hu
   rw [add_none, Nat.zero_add]
   have hr := RowB.of_own HO.out
   exact (hr.kept (zHa hr.lt)).cell hu
  case h4 => unfold maxLen; omega
  case h5 => omega
  case h6 => simp
  intro v1 w1 hown hgrow hnil
  obtain ⟨g1, c1, rfl⟩ : ∃ g1 c1, v1 = .slice (some ⟨g1, 0, none⟩) ks.length c1 := by
   rcases Joins.ownsRow_forms hown with h | ⟨g1, c1, h⟩
   ·exact absurd h.1 hnil
   ·exact ⟨g1, c1, h⟩
  have FIN : Hid (∃ v, Ending.returned (.slice (some ⟨g1, 0, none⟩) ks.length c1) = .returned v ∧ KCopy w1 w.heap.size v ks ∧ Below w.heap.size w w1) := ⟨_, rfl, ⟨_, c1, rfl, Or.inr ⟨g1, rfl, (own_lt hown g1 rfl).1, KRow.of_own hown⟩⟩, (zBa _ _).trans ((Below.refl _ _).grown hgrow (by simp) (by intro k hk; simp [Value.ownBlock] at hk; omega))⟩
  clear hown hgrow hnil HO
  go_wp2
  go_ret
  exact FIN.out
def keeps (now : Int) (e : Ent) : Bool := decide (now - 6 < e.s.since)
theorem tick_drop {now : Int} {es : List Ent} {k : Nat} {e : Ent} (he : es[k]? = some e) (hn : (es.map Ent.k).Nodup) (hk : keeps now e = false) : ((es.take k).filter (keeps now) ++ es.drop k).filter (fun x => decide (x.k ≠ e.k)) = (es.take (k + 1)).filter (keeps now) ++ es.drop (k + 1) := by
 have hl := (List.getElem?_eq_some_iff.1 he).1
 have hd : es.drop k = e :: es.drop (k + 1) := by
  rw [List.drop_eq_getElem_cons hl]
  congr 1
  exact (List.getElem?_eq_some_iff.1 he).2
 have ne : ∀ i x, es[i]? = some x → i ≠ k → x.k ≠ e.k := fun i x hx hi h => by
  obtain ⟨l1, e1⟩ := List.getElem?_eq_some_iff.1 (show (es.map Ent.k)[i]? = some x.k by rw [List.getElem?_map, hx]; rfl)
  obtain ⟨l2, e2⟩ := List.getElem?_eq_some_iff.1 (show (es.map Ent.k)[k]? = some e.k by rw [List.getElem?_map, he]; rfl)
  rcases Nat.lt_or_gt_of_ne hi with hlt | hlt
  ·exact List.pairwise_iff_getElem.1 hn i k l1 l2 hlt (e1.trans (h.trans e2.symm))
  ·exact List.pairwise_iff_getElem.1 hn k i l2 l1 hlt (e2.trans (h.symm.trans e1.symm))
 rw [List.filter_append, hd, List.filter_cons, if_neg (by simp), List.take_add_one, he, List.filter_append]
 have h1 : ((es.take k).filter (keeps now)).filter (fun x => decide (x.k ≠ e.k)) = (es.take k).filter (keeps now) := by
  rw [List.filter_eq_self]
  intro x hx
  obtain ⟨i, hi⟩ := List.getElem?_of_mem (List.mem_filter.1 hx).1
  have hil := (List.getElem?_eq_some_iff.1 hi).1
  rw [List.length_take] at hil
  rw [List.getElem?_take_of_lt (by omega)] at hi
  simpa using ne i x hi (by omega)
 have h2 : (es.drop (k + 1)).filter (fun x => decide (x.k ≠ e.k)) = es.drop (k + 1) := by
  rw [List.filter_eq_self]
  intro x hx
  obtain ⟨i, hi⟩ := List.getElem?_of_mem hx
  rw [List.getElem?_drop] at hi
  simpa using ne (k + 1 + i) x hi (by omega)
 rw [h1, h2]
 simp [hk]
theorem tick_keep {now : Int} {es : List Ent} {k : Nat} {e : Ent} (he : es[k]? = some e) (hk : keeps now e = true) : (es.take k).filter (keeps now) ++ es.drop k = (es.take (k + 1)).filter (keeps now) ++ es.drop (k + 1) := by
 have hl := (List.getElem?_eq_some_iff.1 he).1
 have hd : es.drop k = e :: es.drop (k + 1) := by
  rw [List.drop_eq_getElem_cons hl]
  congr 1
  exact (List.getElem?_eq_some_iff.1 he).2
 rw [hd, List.take_add_one, he, List.filter_append]
 simp [hk]
theorem OpenB.setNow {w : World} {lo ob mb : Nat} {ov : Value} {now : Int} {es : List Ent} (h : OpenB w lo ob mb ov now es) (n : Int) : OpenB (w.setCell ⟨ob, 0, none⟩ (.int .i64 n)) lo ob mb ov n es := by
 have nc : ∀ {b : Nat} {cu : Array Value} {t' : TypeId}, w.heap[b]? = some (.cells cu t' (0, 0)) → t' ≠ 100 → (w.setCell ⟨ob, 0, none⟩ (.int .i64 n)).heap[b]? = w.heap[b]? := fun {b cu t'} hb hn => zHs (fun e => by
  simp only at e
  rw [e, h.box] at hb
  cases hb
  exact hn rfl)
 refine ⟨by rw [set_at h.box]; rfl, own_kept h.order fun b hb => ?_, h.map_.kept (zHs (h.map_.ne_cells h.box)), h.keys, fun e he => (nc (h.slot e he) (by decide)).trans (h.slot e he), h.sbs, h.forest.kept fun b hb => ?_, h.lob, h.lmb, h.lsb⟩
 ·obtain ⟨cu, hc⟩ := h.order_at b hb
  exact nc hc (by decide)
 ·obtain ⟨_, _, cu, t', hc, ht'⟩ := h.forest.blk b hb
  rcases ht' with rfl | rfl
  ·exact nc hc (by decide)
  ·exact nc hc (by decide)
set_option maxHeartbeats 6400000 in
theorem tick_any (lo ob mb : Nat) (ov : Value) (now : Int) (es : List Ent) (w : World) (h : OpenB w lo ob mb ov now es) (h0 : 0 ≤ now) (h1 : now ≤ 1000000) (hl : es.length ≤ 1000) :
  Calls Tryz.prog 28 #[.pointer (some ⟨ob, 0, none⟩)] w fun e w' => Below lo w w' ∧ ((now = 1000000 ∧ e = .returned (errVal 2) ∧ OpenB w' lo ob mb ov now es) ∨ (now ≠ 1000000 ∧ e = .returned (errVal 0) ∧ ∃ ov', OpenB w' lo ob mb ov' (now + 1) (es.filter (keeps (now + 1))))) := by
 have H0 : Hid (OpenB w lo ob mb ov now es) := h
 have x0 : w.cell? ⟨ob, 0, none⟩ = some (.int .i64 now) := zCr h.box
 have x1 : w.cell? ⟨ob, 1, none⟩ = some ov := zCr h.box
 have x2 : w.cell? ⟨ob, 2, none⟩ = some (.map (some mb)) := zCr h.box
 have lob := lt_of_block h.box
 have fz : ∀ o, w.frozen? ⟨ob, o, none⟩ = false := fun o => zUf h.box o
 have hlow := h.low
 by_cases hnow : now = 1000000
 ·have hq : (now == 1000000) = true := by simp [hnow]
  have HN : Hid (now = 1000000) := hnow
  clear h hnow
  go_enter Tryz.func28, Tryz.ntmps28
  go_wp2
  go_ret
  exact ⟨Below.refl _ _, Or.inl ⟨HN.out, rfl, H0.out⟩⟩
 have hq : (now == 1000000) = false := by simp [hnow]
 have HN : Hid (now ≠ 1000000) := hnow
 have O1 : Hid (OpenB (w.setCell ⟨ob, 0, none⟩ (.int .i64 (now + 1))) lo ob mb ov (now + 1) es) := h.setNow (now + 1)
 have B1 : Hid (Below lo w (w.setCell ⟨ob, 0, none⟩ (.int .i64 (now + 1)))) := (Below.refl _ _).setCell h.lob _
 clear h
 have KC : Hid (∀ W : World, W.ownsRow lo 103 4 ov es.length (es.flatMap fun e => k4cells e.k) → Calls Tryz.prog 64 #[ov] W fun e w' => ∃ v, e = .returned v ∧ KCopy w' W.heap.size v (es.map Ent.k) ∧ Below W.heap.size W w') := fun W ho => cloneK_any lo ov (es.map Ent.k) W (by rw [List.length_map, ← kflat_map]; exact ho) (by simpa using hl)
 go_enter Tryz.func28, Tryz.ntmps28
 go_wp2_with fail
 refine (KC.out _ O1.out.order).mono ?_
 rintro e w1 ⟨v, rfl, ⟨oa, cc, rfl, hcp⟩, b1⟩
 have O2 : Hid (OpenB w1 lo ob mb ov (now + 1) es) := O1.out.below b1
 have B2 : Hid (Below lo w w1) := B1.out.trans (b1.mono (by simp; exact hlow))
 have HCP : Hid (es.map Ent.k = [] ∨ ∃ g, oa = some ⟨g, 0, none⟩ ∧ (w.setCell ⟨ob, 0, none⟩ (.int .i64 (now + 1))).heap.size ≤ g ∧ KRow w1 g (es.map Ent.k)) := hcp
 have HOW : Hid (∀ b, OPart ob mb ov b → b < (w.setCell ⟨ob, 0, none⟩ (.int .i64 (now + 1))).heap.size) := fun b hb => by
  rcases hb with rfl | rfl | hb
  ·exact lt_of_block O1.out.box
  ·exact O1.out.map_.lt
  ·exact (own_lt O1.out.order b hb).2
 have hlk : (es.map Ent.k).length = es.length := by simp
 rw [hlk]
 clear KC O1 B1 hcp b1 hlk
 go_wp2
 go_loopw [25] (fun i wr => ∃ (k : Nat) (ov' : Value) (fs : List Ent), k ≤ es.length ∧ i = .int .i64 k ∧ Hid (fs = (es.take k).filter (keeps (now + 1)) ++ es.drop k) ∧ Hid (OpenB wr lo ob mb ov' (now + 1) fs) ∧ Hid (∀ b, ov'.ownBlock = some b → ov.ownBlock = some b) ∧ Hid (es.map Ent.k = [] ∨ ∃ g, oa = some ⟨g, 0, none⟩ ∧ (w.setCell ⟨ob, 0, none⟩ (.int .i64 (now + 1))).heap.size ≤ g ∧ KRow wr g (es.map Ent.k)) ∧ Hid (Below lo w wr)) (fun i _ => es.length - (intOf i).toNat)
 case atStart => exact ⟨0, ov, es, by omega, rfl, rfl, O2.out, fun b hb => hb, HCP.out, B2.out⟩
 case round =>
  obtain ⟨k, ov', fs, hk, rfl, HFS, HO, HOV, HC, HW⟩ := hrel
  have hsz := HW.out.size
  by_cases hlt : k < es.length
  ·obtain ⟨e, he⟩ := get_of_lt hlt
   have hi : (k : Int) < (es.length : Int) := by omega
   obtain ⟨g, hg, lgg, KR⟩ : ∃ g, oa = some ⟨g, 0, none⟩ ∧ (w.setCell ⟨ob, 0, none⟩ (.int .i64 (now + 1))).heap.size ≤ g ∧ KRow wr g (es.map Ent.k) := by
    rcases HC.out with h0 | h
    ·have := congrArg List.length h0
     simp at this
     subst this
     simp at hlt
    ·exact h
   subst hg
   obtain ⟨c0, c1, c2, c3⟩ := KR.2 k e.k (by rw [List.getElem?_map, he]; rfl)
   have lg := KR.1
   have HE : Hid (es[k]? = some e) := he
   have HKR : Hid (KRow wr g (es.map Ent.k)) := KR
   have hef : e ∈ fs := by
    rw [HFS.out]
    refine List.mem_append_right _ ?_
    rw [List.drop_eq_getElem_cons hlt]
    exact List.mem_cons.2 (Or.inl (List.getElem?_eq_some_iff.1 he).2.symm)
   have HEF : Hid (e ∈ fs) := hef
   have LK : Hid (∀ u, MapIs u mb (fs.map fun e => (e.k, e.b)) → (Instr.lookup 97 (.map (some mb)) (.agg #[.int .i64 e.k.1, .int .i64 e.k.2.1, .int .i64 e.k.2.2.1, .int .i64 e.k.2.2.2]) false).run Tryz.prog u = .ok (.pointer (some ⟨e.b, 0, none⟩)) u) := HO.out.lookup hef
   have lfs : fs.length ≤ 1000 := by
    rw [HFS.out, List.length_append, List.length_drop]
    have := List.length_filter_le (keeps (now + 1)) (es.take k)
    rw [List.length_take] at this
    omega
   have hesi := HO.out.slot e hef
   have hs0 : 0 ≤ 0 := by omega
   have SK : Hid (∀ W : World, (∀ b, b < (wr.alloc (.cells #[.int .i64 e.k.1, .int .i64 e.k.2.1, .int .i64 e.k.2.2.1, .int .i64 e.k.2.2.2] 103)).heap.size → W.heap[b]? = (wr.alloc (.cells #[.int .i64 e.k.1, .int .i64 e.k.2.1, .int .i64 e.k.2.2.1, .int .i64 e.k.2.2.2] 103)).heap[b]?) → (KeyAt W wr.heap.size e.k ∧ W.cell? ⟨ob, 0, none⟩ = some (.int .i64 (now + 1)) ∧ W.cell? ⟨ob, 2, none⟩ = some (.map (some mb)) ∧ MapIs W mb (fs.map fun e => (e.k, e.b)) ∧ W.cell? ⟨e.b, 1, none⟩ = some (.int .i64 e.s.since))) := fun W hW => by
    have hs : (wr.alloc (.cells #[.int .i64 e.k.1, .int .i64 e.k.2.1, .int .i64 e.k.2.2.1, .int .i64 e.k.2.2.2] 103)).heap.size = wr.heap.size + 1 := by simp
    rw [hs] at hW
    have e1 : ∀ b, b < wr.heap.size → W.heap[b]? = wr.heap[b]? := fun b hb => (hW b (by omega)).trans (zHa hb)
    have hB := (e1 _ (lt_of_block HO.out.box)).trans HO.out.box
    refine ⟨KeyAt.of_block ((hW _ (by omega)).trans (heap_new _ _ _ rfl)), zCr hB, zCr hB, HO.out.map_.kept (e1 _ HO.out.map_.lt), ?_⟩
    exact zCr ((e1 _ (lt_of_block hesi)).trans hesi)
   clear he hef KR hesi
   obtain ⟨kp, hkp⟩ : ∃ kp, keeps (now + 1) e = kp := ⟨_, rfl⟩
   have HKP : Hid (keeps (now + 1) e = kp) := hkp
   have hle : decide (e.s.since ≤ now + 1 - 6) = !kp := by
    rw [← hkp]
    unfold keeps
    by_cases hh : e.s.since ≤ now + 1 - 6
    ·simp only [hh, decide_true, Bool.true_eq]; simp; omega
    ·simp only [hh, decide_false]; simp; omega
   have hwr : IntKind.i64.wrap (now + 1 - 6) = now + 1 - 6 := by rw [IntKind.wrap_i64]; omega
   go_wp2
   refine wp_region_held_drew (S := fun W => (KeyAt W wr.heap.size e.k ∧ W.cell? ⟨ob, 0, none⟩ = some (.int .i64 (now + 1)) ∧ W.cell? ⟨ob, 2, none⟩ = some (.map (some mb)) ∧ MapIs W mb (fs.map fun e => (e.k, e.b)) ∧ W.cell? ⟨e.b, 1, none⟩ = some (.int .i64 e.s.since))) (by kernel_rfl) (SK.out (World.drew _) (fun b _ => rfl)) (fun hH => ?_)
   refine zTk 0 29 (.pointer (some ⟨ob, 0, none⟩)) rfl (fun w hS => by go_simp) hH ?_; simp only [Act.put, zX, zY, zZ]
   refine zTk 1 30 (.pointer (some ⟨ob, 0, none⟩)) rfl (fun w hS => by go_simp) hH ?_; simp only [Act.put, zX, zY, zZ]
   refine zTk 2 31 (.pointer (some ⟨ob, 2, none⟩)) rfl (fun w hS => by go_simp) hH ?_; simp only [Act.put, zX, zY, zZ]
   refine zTk 3 32 (.map (some mb)) rfl (fun w hS => by obtain ⟨⟨s0, s1, s2, s3⟩, s4, s5, s6, s7⟩ := hS; go_simp) hH ?_; simp only [Act.put, zX, zY, zZ]
   refine zTk 4 33 (.agg #[.int .i64 e.k.1, .int .i64 e.k.2.1, .int .i64 e.k.2.2.1, .int .i64 e.k.2.2.2]) rfl (fun w hS => by obtain ⟨⟨s0, s1, s2, s3⟩, s4, s5, s6, s7⟩ := hS; go_simp) hH ?_; simp only [Act.put, zX, zY, zZ]
   refine zTk 5 34 (.pointer (some ⟨e.b, 0, none⟩)) rfl (fun w hS => by obtain ⟨⟨s0, s1, s2, s3⟩, s4, s5, s6, s7⟩ := hS; have hlk := LK.out w s6; go_simp) hH ?_; simp only [Act.put, zX, zY, zZ]
   refine zTk 6 35 (.pointer (some ⟨e.b, 0, none⟩)) rfl (fun w hS => by go_simp) hH ?_; simp only [Act.put, zX, zY, zZ]
   refine zTk 7 36 (.pointer (some ⟨e.b, 1, none⟩)) rfl (fun w hS => by go_simp) hH ?_; simp only [Act.put, zX, zY, zZ]
   refine zTk 8 37 (.int .i64 e.s.since) rfl (fun w hS => by obtain ⟨⟨s0, s1, s2, s3⟩, s4, s5, s6, s7⟩ := hS; go_simp) hH ?_; simp only [Act.put, zX, zY, zZ]
   refine zTk 9 38 (.pointer (some ⟨ob, 0, none⟩)) rfl (fun w hS => by go_simp) hH ?_; simp only [Act.put, zX, zY, zZ]
   refine zTk 10 39 (.pointer (some ⟨ob, 0, none⟩)) rfl (fun w hS => by go_simp) hH ?_; simp only [Act.put, zX, zY, zZ]
   refine zTk 11 40 (.pointer (some ⟨ob, 0, none⟩)) rfl (fun w hS => by go_simp) hH ?_; simp only [Act.put, zX, zY, zZ]
   refine zTk 12 41 (.int .i64 (now + 1)) rfl (fun w hS => by obtain ⟨⟨s0, s1, s2, s3⟩, s4, s5, s6, s7⟩ := hS; go_simp) hH ?_; simp only [Act.put, zX, zY, zZ]
   refine zTk 13 42 (.int .i64 (now + 1 - 6)) rfl (fun w hS => by go_simp) hH ?_; simp only [Act.put, zX, zY, zZ]
   refine zTk 14 43 (.bool (!kp)) rfl (fun w hS => by go_simp) hH ?_; simp only [Act.put, zX, zY, zZ]
   refine wpAnyH_done (by kernel_rfl) ?_ _
   have HLOW : ∀ b, OPart ob mb ov' b → b < (w.setCell ⟨ob, 0, none⟩ (.int .i64 (now + 1))).heap.size := fun b hb => HOW.out b (by
    rcases hb with h | h | h
    ·exact Or.inl h
    ·exact Or.inr (Or.inl h)
    ·exact Or.inr (Or.inr (HOV.out b h)))
   have HLO : Hid (∀ b, OPart ob mb ov' b → b < (w.setCell ⟨ob, 0, none⟩ (.int .i64 (now + 1))).heap.size) := HLOW
   have k0 := hH.1
   have LKC : Hid (KeyAt (wr.alloc (.cells #[.int .i64 e.k.1, .int .i64 e.k.2.1, .int .i64 e.k.2.2.1, .int .i64 e.k.2.2.2] 103)).drew wr.heap.size e.k) := k0
   obtain ⟨q0, q1, q2, q3⟩ := k0
   have OD : Hid (OpenB (wr.alloc (.cells #[.int .i64 e.k.1, .int .i64 e.k.2.1, .int .i64 e.k.2.2.1, .int .i64 e.k.2.2.2] 103)).drew lo ob mb ov' (now + 1) fs) := HO.out.below ((zBa _ _).drew)
   have KRD : Hid (KRow (wr.alloc (.cells #[.int .i64 e.k.1, .int .i64 e.k.2.1, .int .i64 e.k.2.2.1, .int .i64 e.k.2.2.2] 103)).drew g (es.map Ent.k)) := HKR.out.below ((zBa _ _).drew)
   have BD : Hid (Below lo w (wr.alloc (.cells #[.int .i64 e.k.1, .int .i64 e.k.2.1, .int .i64 e.k.2.2.1, .int .i64 e.k.2.2.2] 103)).drew) := HW.out.trans (((zBa wr _).drew).mono (Nat.le_trans hlow hsz))
   have KDR : Hid (Calls Tryz.prog 65 #[.pointer (some ⟨ob, 0, none⟩), .agg #[.int .i64 e.k.1, .int .i64 e.k.2.1, .int .i64 e.k.2.2.1, .int .i64 e.k.2.2.2]] (wr.alloc (.cells #[.int .i64 e.k.1, .int .i64 e.k.2.1, .int .i64 e.k.2.2.1, .int .i64 e.k.2.2.2] 103)).drew fun e2 w' => ∃ ov2, e2 = .returned (.tuple #[]) ∧ OpenB w' lo ob mb ov2 (now + 1) (fs.filter fun x => decide (x.k ≠ e.k)) ∧ Only (OPart ob mb ov') (wr.alloc (.cells #[.int .i64 e.k.1, .int .i64 e.k.2.1, .int .i64 e.k.2.2.1, .int .i64 e.k.2.2.2] 103)).drew w' ∧ (∀ b, ov2.ownBlock = some b → ov'.ownBlock = some b)) := drop_any lo ob mb ov' (now + 1) fs e.k e _ OD.out HEF.out rfl lfs
   clear hH SK HLOW hle c0 c1 c2 c3 hkp
   cases kp
   ·go_wp2_with fail
    refine KDR.out.mono ?_
    rintro e2 w2 ⟨ov2, rfl, O3, hon, hsub⟩
    have FS3 : fs.filter (fun x => decide (x.k ≠ e.k)) = (es.take (k + 1)).filter (keeps (now + 1)) ++ es.drop (k + 1) := by rw [HFS.out]; exact tick_drop HE.out H0.out.keys HKP.out
    have KR3 : Hid (KRow w2 g (es.map Ent.k)) := by
     have hnb : w2.heap[g]? = (wr.alloc (.cells #[.int .i64 e.k.1, .int .i64 e.k.2.1, .int .i64 e.k.2.2.1, .int .i64 e.k.2.2.2] 103)).drew.heap[g]? := hon.block g KRD.out.1 (fun hp => by have := HLO.out g hp; omega)
     refine ⟨Nat.lt_of_lt_of_le KRD.out.1 hon.size, fun i kk hkk => ?_⟩
     have ee : ∀ o, w2.cell? ⟨g, o, none⟩ = (wr.alloc (.cells #[.int .i64 e.k.1, .int .i64 e.k.2.1, .int .i64 e.k.2.2.1, .int .i64 e.k.2.2.2] 103)).drew.cell? ⟨g, o, none⟩ := fun o => World.cell?_of_block (a := ⟨g, o, none⟩) hnb
     obtain ⟨a, b, c, d⟩ := KRD.out.2 i kk hkk
     exact ⟨(ee _).trans a, (ee _).trans b, (ee _).trans c, (ee _).trans d⟩
    have OH : Hid (OpenB w2 lo ob mb ov2 (now + 1) (fs.filter fun x => decide (x.k ≠ e.k))) := O3
    have FH : Hid (fs.filter (fun x => decide (x.k ≠ e.k)) = (es.take (k + 1)).filter (keeps (now + 1)) ++ es.drop (k + 1)) := FS3
    have BH : Hid (Below lo w w2) := BD.out.trans (hon.below OD.out.part OD.out.low)
    have SH : Hid (∀ b, ov2.ownBlock = some b → ov.ownBlock = some b) := fun b hb => HOV.out b (hsub b hb)
    clear O3 FS3 hon hsub q0 q1 q2 q3
    go_wp2
    go_roundw
    case rel => exact ⟨k + 1, ov2, _, by omega, by go_num, FH.out, OH.out, SH.out, Or.inr ⟨g, rfl, lgg, KR3.out⟩, BH.out⟩
    case measure => simp [intOf]; omega
   ·have FH : Hid (fs = (es.take (k + 1)).filter (keeps (now + 1)) ++ es.drop (k + 1)) := (show _ = _ by rw [HFS.out]; exact tick_keep HE.out HKP.out)
    clear KDR q0 q1 q2 q3
    go_wp2
    go_roundw
    case rel => exact ⟨k + 1, ov', fs, by omega, by go_num, FH.out, OD.out, HOV.out, Or.inr ⟨g, rfl, lgg, KRD.out⟩, BD.out⟩
    case measure => simp [intOf]; omega
  ·obtain rfl : k = es.length := by omega
   go_wp2
   go_ret
   refine ⟨HW.out, Or.inr ⟨HN.out, rfl, ov', ?_⟩⟩
   have h := HO.out
   rw [HFS.out, List.take_length, List.drop_length, List.append_nil] at h
   exact h
def TickP (now : Int) (ss : List SV) (now' : Int) (ks : List SK) (c : Int) : Prop :=
 (¬ benchOk now ss ∧ now' = 0 ∧ ks = [] ∧ c = 1) ∨ (benchOk now ss ∧ now = 1000000 ∧ now' = now ∧ ks = ss.map SV.key ∧ c = 2) ∨ (benchOk now ss ∧ now ≠ 1000000 ∧ now' = now + 1 ∧ ks = (ss.map SV.key).filter (fun k => decide (now + 1 - 6 < k.2.1)) ∧ c = 0)
theorem TickP.same {now : Int} {ss ss' : List SV} {a a' : Int} {ks ks' : List SK} {c c' : Int} (h : TickP now ss a ks c) (h' : TickP now ss' a' ks' c') (hk : ss'.map SV.key = ss.map SV.key) : a = a' ∧ ks = ks' ∧ c = c' := by
 have hb := benchOk_iff (now := now) hk
 unfold TickP at h'
 rw [hb, hk] at h'
 rcases h with ⟨n, h1, h2, h3⟩ | ⟨n, m, h1, h2, h3⟩ | ⟨n, m, h1, h2, h3⟩ <;> rcases h' with ⟨n', h1', h2', h3'⟩ | ⟨n', m', h1', h2', h3'⟩ | ⟨n', m', h1', h2', h3'⟩
 all_goals first | (exact absurd n' n) | (exact absurd n n') | (exact absurd m m') | (exact absurd m' m) | (exact ⟨h1.trans h1'.symm, h2.trans h2'.symm, h3.trans h3'.symm⟩)
def TickPost (now : Int) (ss : List SV) (w : World) (e : Ending) (w' : World) : Prop :=
 ∃ v now' ks c, e = .returned (.tuple #[v, .int .i64 c]) ∧ TickP now ss now' ks c ∧ BAns w' w.heap.size v now' ks ∧ Below w.heap.size w w'
theorem keeps_keys (now : Int) (es : List Ent) : (es.filter (keeps now)).map (fun e => e.s.key) = (es.map fun e => e.s.key).filter (fun k => decide (now - 6 < k.2.1)) := by
 rw [List.filter_map]
 rfl
set_option maxHeartbeats 6400000 in
theorem implTick_any (now : Int) (oa : Option Addr) (cl : Nat) (ss : List SV) (w : World) (hL : SLq w oa ss) (hm : ss.length ≤ 1048576) (hc : ss.length ≤ cl) (hcm : cl ≤ 9223372036854775807) (hg : GoodErr w) :
  Calls Tryz.prog 7 #[.agg #[.int .i64 now, .slice oa ss.length cl]] w (TickPost now ss w) := by
 have lg := hg.lt
 have HG : Hid (GoodErr w) := hg
 have KO : Hid (∀ W : World, Below w.heap.size w W → Calls Tryz.prog 26 #[.agg #[.int .i64 now, .slice oa ss.length cl]] W fun e w' => Below W.heap.size W w' ∧ ((¬ benchOk now ss ∧ e = .returned (.tuple #[.pointer none, errVal 1])) ∨
   (benchOk now ss ∧ ∃ ob mb ov es, e = .returned (.tuple #[.pointer (some ⟨ob, 0, none⟩), errVal 0]) ∧ OpenB w' W.heap.size ob mb ov now es ∧ es.map (fun e => e.s.key) = ss.map SV.key ∧ ∀ e ∈ es, e.good))) := fun W h => opened_any now oa cl ss W (hL.below h) hm hc hcm
 clear hL hg
 go_enter Tryz.func7, Tryz.ntmps7
 go_wp2_with fail
 refine (KO.out _ (Joins.below_alloc2 _ _ _)).mono ?_
 rintro e w1 ⟨b1, hcase⟩
 have B1 : Hid (Below w.heap.size w w1) := (Joins.below_alloc2 _ _ _).trans (b1.mono (by simp; omega))
 have r0 : w1.heap[w.heap.size + 1]? = some (.cells #[.int .i64 0, .slice none 0 0] 27 (0, 0)) := (b1.block _ (by simp)).trans (heap_new _ _ _ (by simp))
 have s1 : w.heap.size + 2 ≤ w1.heap.size := by have := b1.size; simp at this; omega
 have G1 : Hid (GoodErr w1) := HG.out.below B1.out lg
 clear KO b1
 rcases hcase with ⟨hn, rfl⟩ | ⟨hB, ob, mb, ov, es, rfl, O1, hk1, hgd⟩
 ·have KE : Hid (∀ W : World, GoodErr W → Calls Tryz.prog 27 #[.iface 96 (.agg #[.int .i64 1])] W fun e w' => e = .returned (.int .i64 1) ∧ Below W.heap.size W w') := fun W h => codeOf_any 1 W h
  rw [errVal_ne (show (1 : Int) ≠ 0 by decide)]
  have HB : Hid (¬ benchOk now ss) := hn
  have R0 : Hid (w1.heap[w.heap.size + 1]? = some (.cells #[.int .i64 0, .slice none 0 0] 27 (0, 0))) := r0
  clear hn r0
  go_wp2_with fail
  refine (KE.out _ G1.out).mono ?_
  rintro e w2 ⟨rfl, b2⟩
  have B2 : Hid (Below w.heap.size w w2) := B1.out.trans (b2.mono (by omega))
  have R2 := (b2.block _ (lt_of_block R0.out)).trans R0.out
  have z0 : w2.cell? ⟨w.heap.size + 1, 0, none⟩ = some (.int .i64 0) := zCr R2
  have z1 : w2.cell? ⟨w.heap.size + 1, 1, none⟩ = some (.slice none 0 0) := zCr R2
  have fz : ∀ o, w2.frozen? ⟨w.heap.size + 1, o, none⟩ = false := fun o => zUf R2 o
  clear b2 R2 KE
  go_wp2
  refine bodyPost_ret (v := .tuple #[.agg #[.int .i64 0, .slice none 0 0], .int .i64 1]) (by simp [results, Tryz.results7, go_sem, z0, z1]) rfl ⟨_, 0, [], 1, rfl, Or.inl ⟨HB.out, rfl, rfl, rfl⟩, ⟨none, 0, [], rfl, rfl, by simp, by simp, by omega, Or.inl ⟨rfl, rfl⟩⟩, ?_⟩
  exact Below.setCell (Below.setCell B2.out (by simp only; omega) _) (by simp only; omega) _
 ·rw [errVal_zero]
  have hss := hB.2.1
  have hn1 := hB.1
  have hel : es.length = ss.length := map_len hk1
  have O1' : Hid (OpenB w1 (w.heap.size + 2) ob mb ov now es) := (by have h := O1; rw [show ((w.alloc (.cells #[.int .i64 now, .slice oa ss.length cl] 27)).alloc (.cells #[.int .i64 0, .slice none 0 0] 27)).heap.size = w.heap.size + 2 by simp] at h; exact h)
  have R0 : Hid (w1.heap[w.heap.size + 1]? = some (.cells #[.int .i64 0, .slice none 0 0] 27 (0, 0))) := r0
  have HK : Hid (es.map (fun e => e.s.key) = ss.map SV.key) := hk1
  have HB : Hid (benchOk now ss) := hB
  clear O1 r0 hk1 hB hgd
  go_wp2_with fail
  refine (tick_any (w.heap.size + 2) ob mb ov now es _ O1'.out hn1.1 hn1.2 (by omega)).mono ?_
  rintro e w2 ⟨b2, hcase⟩
  obtain ⟨c, now', ov', fs, rfl, O2, hP, hfl⟩ : ∃ c now' ov' fs, e = .returned (errVal c) ∧ OpenB w2 (w.heap.size + 2) ob mb ov' now' fs ∧ TickP now ss now' (fs.map fun e => e.s.key) c ∧ fs.length ≤ 4 := by
   rcases hcase with ⟨h1, h2, h3⟩ | ⟨h1, h2, ov', h3⟩
   ·exact ⟨2, now, ov, es, h2, h3, Or.inr (Or.inl ⟨HB.out, h1, rfl, HK.out, rfl⟩), by omega⟩
   ·refine ⟨0, now + 1, ov', _, h2, h3, Or.inr (Or.inr ⟨HB.out, h1, rfl, ?_, rfl⟩), Nat.le_trans (List.length_filter_le _ _) (by omega)⟩
    rw [keeps_keys, HK.out]
  have B2 : Hid (Below w.heap.size w w2) := B1.out.trans (b2.mono (by omega))
  have R2 : Hid (w2.heap[w.heap.size + 1]? = some (.cells #[.int .i64 0, .slice none 0 0] 27 (0, 0))) := (b2.block _ (by omega)).trans R0.out
  have HO2 : Hid (OpenB w2 (w.heap.size + 2) ob mb ov' now' fs) := O2
  have HP : Hid (TickP now ss now' (fs.map fun e => e.s.key) c) := hP
  have G2 : Hid (GoodErr w2) := HG.out.below B2.out lg
  have s2 : w.heap.size + 2 ≤ w2.heap.size := Nat.le_trans s1 b2.size
  clear hcase b2 O2 hP O1' R0 G1 B1
  obtain ⟨ev, hev⟩ : ∃ ev, errVal c = ev := ⟨_, rfl⟩
  have KE : Hid (∀ W : World, GoodErr W → Calls Tryz.prog 27 #[ev] W fun e w' => e = .returned (.int .i64 c) ∧ Below W.heap.size W w') := fun W h => by rw [← hev]; exact codeOf_any c W h
  rw [hev]
  clear hev
  go_wp2_with fail
  refine (told_any (w.heap.size + 2) ob mb ov' now' fs _ HO2.out (by omega)).mono ?_
  rintro e w3 ⟨gS, rfl, hgs, A3, b3⟩
  have B3 : Hid (Below w.heap.size w w3) := B2.out.trans (b3.mono (by omega))
  have R3 : Hid (w3.heap[w.heap.size + 1]? = some (.cells #[.int .i64 0, .slice none 0 0] 27 (0, 0))) := (b3.block _ (by omega)).trans R2.out
  have HA3 : Hid (AnsB w3 (w.heap.size + 2) gS (fs.map Ent.s)) := A3
  have s3 : w.heap.size + 2 ≤ w3.heap.size := Nat.le_trans s2 b3.size
  clear b3 A3 R2 B2 HO2
  go_wp2_with fail
  refine (KE.out _ (HG.out.below B3.out lg)).mono ?_
  rintro e w4 ⟨rfl, b4⟩
  have B4 : Hid (Below w.heap.size w w4) := B3.out.trans (b4.mono (by omega))
  have R4 := (b4.block _ (lt_of_block R3.out)).trans R3.out
  have A4 := HA3.out.below b4
  have z0 : w4.cell? ⟨w.heap.size + 1, 0, none⟩ = some (.int .i64 0) := zCr R4
  have z1 : w4.cell? ⟨w.heap.size + 1, 1, none⟩ = some (.slice none 0 0) := zCr R4
  have fz : ∀ o, w4.frozen? ⟨w.heap.size + 1, o, none⟩ = false := fun o => zUf R4 o
  have A5 : Hid (AnsB ((w4.setCell ⟨w.heap.size + 1, 0, none⟩ (.int .i64 now')).setCell ⟨w.heap.size + 1, 1, none⟩ (.slice (some ⟨gS, 0, none⟩) fs.length fs.length)) w.heap.size gS (fs.map Ent.s)) := (A4.kept fun b hb => (zHs (by simp only; omega)).trans (zHs (by simp only; omega))).le (by omega)
  clear b4 R4 A4 KE HA3 R3 B3
  go_wp2
  refine bodyPost_ret (v := .tuple #[.agg #[.int .i64 now', .slice (some ⟨gS, 0, none⟩) fs.length fs.length], .int .i64 c]) (by simp [results, Tryz.results7, go_sem, z0, z1]) rfl ⟨_, now', _, c, rfl, HP.out, ⟨some ⟨gS, 0, none⟩, fs.length, fs.map Ent.s, by simp, by simp, by simpa using hfl, by simp, by omega, Or.inr ⟨gS, rfl, A5.out⟩⟩, ?_⟩
  exact Below.setCell (Below.setCell B4.out (by simp only; omega) _) (by simp only; omega) _
end Go.Proofs.YtjbkgmbakjnlhaaGreatDoor
