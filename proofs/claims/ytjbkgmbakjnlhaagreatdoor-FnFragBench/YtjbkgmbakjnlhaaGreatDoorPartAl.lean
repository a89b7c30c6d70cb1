import Derived.Test.YtjbkgmbakjnlhaaGreatDoorPartAk
namespace Go.Proofs.YtjbkgmbakjnlhaaGreatDoor
set_option maxRecDepth 100000
open Go.RowKit
structure SLf (w : World) (g off : Nat) (ss : List SV) : Prop where
 lt : g < w.heap.size
 elem : ∀ k x, ss[k]? = some x → SElemO w g off k x
 each : ∀ x ∈ ss, SOk w x
theorem SLf.below {w w' : World} {g off : Nat} {xs : List SV} (h : SLf w g off xs) (hb : Below w.heap.size w w') : SLf w' g off xs :=
 ⟨Nat.lt_of_lt_of_le h.lt hb.size, fun k x hx => (h.elem k x hx).upto hb h.lt, fun x hx => (h.each x hx).below hb⟩
theorem SL.off {w : World} {g : Nat} {ss : List SV} (h : SL w g ss) : SLf w g 0 ss :=
 ⟨h.lt, fun k x hx => by
  obtain ⟨a, b, c⟩ := h.elem k x hx
  exact ⟨by rw [Nat.zero_add]; exact a, by rw [Nat.zero_add]; exact b, by rw [Nat.zero_add]; exact c⟩, h.each⟩
set_option maxHeartbeats 6400000 in
theorem l4Copy_off (now : Int) (gs off : Nat) (cl : Nat) (ss : List SV) (w : World) (hL : SLf w gs off ss) (hm : ss.length ≤ 1048576) :
  Calls Tryz.prog 30 #[.agg #[.int .i64 now, .slice (some ⟨gs, off, none⟩) ss.length cl]] w fun e w' => ∃ g c ts, e = .returned (.agg #[.int .i64 now, .slice (some ⟨g, 0, none⟩) ss.length c]) ∧ CAns w' w.heap.size g c ts ∧ ts.map SV.key = ss.map SV.key ∧ Below w.heap.size w w' := by
 obtain ⟨ti, hti, hy0, hy1, hy2⟩ := info_parts Tryz.infoSlot
 have HL : Hid (SLf w gs off ss) := hL
 clear hL
 have C0 : Hid (CAns (((w.alloc (.cells #[.int .i64 now, .slice (some ⟨gs, off, none⟩) ss.length cl] 27)).alloc (.cells #[.int .i64 0, .slice none 0 0] 27)).alloc (.cells #[] 39)) (w.heap.size + 2) (w.heap.size + 1 + 1) 0 []) := CAns.nil _ _ _ (by simp) (by omega)
 go_enter Tryz.func30, Tryz.ntmps30
 go_wp2
 go_loopw [4] (fun i wr => ∃ (k gq cq : Nat) (ts : List SV), k ≤ ss.length ∧ i = .int .i64 k ∧ Hid (ts.length = k) ∧ Hid (CAns wr (w.heap.size + 2) gq cq ts) ∧ Hid (ts.map SV.key = (ss.take k).map SV.key) ∧ Hid (wr.heap[w.heap.size]? = some (.cells #[.int .i64 now, .slice (some ⟨gs, off, none⟩) ss.length cl] 27 (0, 0))) ∧ Hid (wr.heap[w.heap.size + 1]? = some (.cells #[.int .i64 0, .slice none 0 0] 27 (0, 0))) ∧ Hid (wr.heap[w.heap.size + 1 + 1 + 1]? = some (.cells #[.int .i64 now, .slice (some ⟨gq, 0, none⟩) k cq] 27 (0, 0))) ∧ Hid (Below w.heap.size w wr)) (fun i _ => ss.length - (intOf i).toNat)
 case atStart =>
  refine ⟨0, w.heap.size + 1 + 1, 0, [], by omega, rfl, rfl, C0.out.below (zBa _ _), rfl, ?_, ?_, heap_new _ _ _ (by simp), (Joins.below_alloc3 _ _ _ _).trans ((zBa _ _).mono (by simp; omega))⟩
  ·exact (zHa (show w.heap.size < (((w.alloc _).alloc _).alloc _).heap.size by simp; omega)).trans ((zHa (show w.heap.size < ((w.alloc _).alloc _).heap.size by simp; omega)).trans ((zHa (by simp)).trans (heap_new _ _ _ rfl)))
  ·exact (zHa (show w.heap.size + 1 < (((w.alloc _).alloc _).alloc _).heap.size by simp)).trans ((zHa (by simp)).trans (heap_new _ _ _ (by simp)))
 case round =>
  obtain ⟨k, gq, cq, ts, hk, rfl, HT, HC, HK, HA, HR, HO, HW⟩ := hrel
  have hsz := HW.out.size
  have lo3 := lt_of_block HO.out
  have a1 : wr.cell? ⟨w.heap.size, 1, none⟩ = some (.slice (some ⟨gs, off, none⟩) ss.length cl) := zCr HA.out
  have a0 : wr.cell? ⟨w.heap.size, 0, none⟩ = some (.int .i64 now) := zCr HA.out
  have o0 : wr.cell? ⟨w.heap.size + 1 + 1 + 1, 0, none⟩ = some (.int .i64 now) := zCr HO.out
  have o1 : wr.cell? ⟨w.heap.size + 1 + 1 + 1, 1, none⟩ = some (.slice (some ⟨gq, 0, none⟩) k cq) := zCr HO.out
  have la := lt_of_block HA.out
  by_cases hlt : k < ss.length
  ·obtain ⟨x, hx⟩ := get_of_lt hlt
   have hi : (k : Int) < (ss.length : Int) := by omega
   have Lr := HL.out.below HW.out
   have hL := Lr
   have hgr := hL.lt
   obtain ⟨c0, c1, c2⟩ := hL.elem k x hx
   have HX : Hid (ss[k]? = some x) := hx
   have HXO : Hid (SOk wr x) := hL.each x (List.mem_of_getElem? hx)
   obtain ⟨gx, hxa, RX⟩ := HXO.out.at_
   have lgw : gs < w.heap.size := HL.out.lt
   rw [hxa] at c0
   obtain ⟨nx, hnx⟩ : ∃ nx, x.xs.length = nx := ⟨_, rfl⟩
   have HNX : Hid (x.xs.length = nx) := hnx
   have hxl := HXO.out.len
   rw [hnx] at c0 hxl
   have KP : Hid (∀ W : World, Below wr.heap.size wr W → Calls Tryz.prog 66 #[.slice (some ⟨gx, 0, none⟩) nx x.c] W fun e w' => ∃ g c ys, e = .returned (.slice (some ⟨g, 0, none⟩) nx c) ∧ POut w' W.heap.size g c ys ∧ ys.map RV.key = x.xs.map RV.key ∧ Below W.heap.size W w') := fun W h => by
    have h1 := l4Pieces_any gx x.c x.xs W (RX.below h) (by omega)
    rw [hnx] at h1
    exact h1
   have RO : Hid (wr.ownsRow (w.heap.size + 2) 39 3 (.slice (some ⟨gq, 0, none⟩) k cq) k (ts.flatMap SV.cells)) := (by have h := HC.out.own; rw [HT.out] at h; exact h)
   have SK : Hid (∀ W : World, Below wr.heap.size wr W → (W.cell? ⟨w.heap.size, 1, none⟩ = some (.slice (some ⟨gs, off, none⟩) ss.length cl) ∧ W.cell? ⟨w.heap.size + 1 + 1 + 1, 1, none⟩ = some (.slice (some ⟨gq, 0, none⟩) k cq) ∧ W.cell? ⟨gs, off + k * 3, none⟩ = some (.slice (some ⟨gx, 0, none⟩) nx x.c) ∧ W.cell? ⟨gs, off + k * 3 + 1, none⟩ = some (.int .i64 x.since) ∧ W.cell? ⟨gs, off + k * 3 + 2, none⟩ = some (.bool x.bad))) := fun W h => by
    have e : ∀ b o, b < wr.heap.size → W.cell? ⟨b, o, none⟩ = wr.cell? ⟨b, o, none⟩ := fun b o hb => h.cell (p := ⟨b, o, none⟩) hb
    exact ⟨(e _ _ la).trans a1, (e _ _ lo3).trans o1, (e _ _ hgr).trans c0, (e _ _ hgr).trans c1, (e _ _ hgr).trans c2⟩
   clear hx hL RX hnx hxa
   go_wp2
   refine wp_region_late (S := fun W => (W.cell? ⟨w.heap.size, 1, none⟩ = some (.slice (some ⟨gs, off, none⟩) ss.length cl) ∧ W.cell? ⟨w.heap.size + 1 + 1 + 1, 1, none⟩ = some (.slice (some ⟨gq, 0, none⟩) k cq) ∧ W.cell? ⟨gs, off + k * 3, none⟩ = some (.slice (some ⟨gx, 0, none⟩) nx x.c) ∧ W.cell? ⟨gs, off + k * 3 + 1, none⟩ = some (.int .i64 x.since) ∧ W.cell? ⟨gs, off + k * 3 + 2, none⟩ = some (.bool x.bad))) (by kernel_rfl) (SK.out _ ((Below.refl _ wr).drew)) (fun hH => ?_)
   refine zLk 0 16 (.pointer (some ⟨w.heap.size + 1 + 1 + 1, 1, none⟩)) rfl (fun w hS => by go_simp) hH ?_; simp only [Act.put, zX, zY, zZ]
   refine zLk 1 17 (.slice (some ⟨gq, 0, none⟩) k cq) rfl (fun w hS => by obtain ⟨s0, s1, s2, s3, s4⟩ := hS; go_simp) hH ?_; simp only [Act.put, zX, zY, zZ]
   refine zLk 2 18 (.pointer (some ⟨w.heap.size, 1, none⟩)) rfl (fun w hS => by go_simp) hH ?_; simp only [Act.put, zX, zY, zZ]
   refine zLk 3 19 (.slice (some ⟨gs, off, none⟩) ss.length cl) rfl (fun w hS => by obtain ⟨s0, s1, s2, s3, s4⟩ := hS; go_simp) hH ?_; simp only [Act.put, zX, zY, zZ]
   refine zLk 4 20 (.int .i64 k) rfl (fun w hS => by go_simp) hH ?_; simp only [Act.put, zX, zY, zZ]
   refine zLk 5 21 (.pointer (some ⟨gs, off + k * 3, none⟩)) rfl (fun w hS => by go_simp) hH ?_; simp only [Act.put, zX, zY, zZ]
   refine zLk 6 22 (.pointer (some ⟨gs, off + k * 3, none⟩)) rfl (fun w hS => by go_simp) hH ?_; simp only [Act.put, zX, zY, zZ]
   refine zLk 7 23 (.slice (some ⟨gx, 0, none⟩) nx x.c) rfl (fun w hS => by obtain ⟨s0, s1, s2, s3, s4⟩ := hS; go_simp) hH ?_; simp only [Act.put, zX, zY, zZ]
   refine zLk 9 25 (.pointer (some ⟨w.heap.size, 1, none⟩)) rfl (fun w hS => by go_simp) hH ?_; simp only [Act.put, zX, zY, zZ]
   refine zLk 10 26 (.slice (some ⟨gs, off, none⟩) ss.length cl) rfl (fun w hS => by obtain ⟨s0, s1, s2, s3, s4⟩ := hS; go_simp) hH ?_; simp only [Act.put, zX, zY, zZ]
   refine zLk 11 27 (.int .i64 k) rfl (fun w hS => by go_simp) hH ?_; simp only [Act.put, zX, zY, zZ]
   refine zLk 12 28 (.pointer (some ⟨gs, off + k * 3, none⟩)) rfl (fun w hS => by go_simp) hH ?_; simp only [Act.put, zX, zY, zZ]
   refine zLk 13 29 (.pointer (some ⟨gs, off + k * 3 + 1, none⟩)) rfl (fun w hS => by go_simp) hH ?_; simp only [Act.put, zX, zY, zZ]
   refine zLk 14 30 (.int .i64 x.since) rfl (fun w hS => by obtain ⟨s0, s1, s2, s3, s4⟩ := hS; go_simp) hH ?_; simp only [Act.put, zX, zY, zZ]
   refine zLk 15 31 (.pointer (some ⟨w.heap.size, 1, none⟩)) rfl (fun w hS => by go_simp) hH ?_; simp only [Act.put, zX, zY, zZ]
   refine zLk 16 32 (.slice (some ⟨gs, off, none⟩) ss.length cl) rfl (fun w hS => by obtain ⟨s0, s1, s2, s3, s4⟩ := hS; go_simp) hH ?_; simp only [Act.put, zX, zY, zZ]
   refine zLk 17 33 (.int .i64 k) rfl (fun w hS => by go_simp) hH ?_; simp only [Act.put, zX, zY, zZ]
   refine zLk 18 34 (.pointer (some ⟨gs, off + k * 3, none⟩)) rfl (fun w hS => by go_simp) hH ?_; simp only [Act.put, zX, zY, zZ]
   refine zLk 19 35 (.pointer (some ⟨gs, off + k * 3 + 2, none⟩)) rfl (fun w hS => by go_simp) hH ?_; simp only [Act.put, zX, zY, zZ]
   refine zLk 20 36 (.bool x.bad) rfl (fun w hS => by obtain ⟨s0, s1, s2, s3, s4⟩ := hS; go_simp) hH ?_; simp only [Act.put, zX, zY, zZ]
   refine late_one (i := 8) (by kernel_rfl) rfl (fun K hK => ?_)
   refine step_call rfl 24 rfl 66 #[.slice (some ⟨gx, 0, none⟩) nx x.c] (by go_simp) ((KP.out _ ((Below.refl _ wr).drew)).mono ?_)
   rintro e w1 ⟨gp, cp, ys, rfl, PO, hyk, b1⟩
   have b1' : Below wr.heap.size wr w1 := ((Below.refl _ wr).drew).trans (b1.mono (Nat.le_refl _))
   refine ⟨_, rfl, hK.out _ _ (Or.inr (SK.out _ b1')) (fun hH1 => ?_)⟩
   have hH := SK.out _ b1'
   clear hK K hH1
   simp only [Act.put, zX, zY, zZ]
   refine zLk 21 37 (.agg #[.slice (some ⟨gp, 0, none⟩) nx cp, .int .i64 x.since, .bool x.bad]) rfl (fun w hS => by go_simp) hH ?_; simp only [Act.put, zX, zY, zZ]
   refine late_one (i := 22) (by kernel_rfl) rfl (fun K hK => ?_)
   go_simp
   have b2 : Below wr.heap.size wr (w1.alloc (.cells #[.slice (some ⟨gp, 0, none⟩) nx cp, .int .i64 x.since, .bool x.bad] 39)) := b1'.trans ((zBa _ _).mono b1'.size)
   refine hK.out _ _ (Or.inr (SK.out _ b2)) (fun hH1 => ?_)
   have hH := SK.out _ b2
   clear hK K hH1
   have RO2 := own_below RO.out b2
   refine late_one (i := 23) (by kernel_rfl) rfl (fun K hK => ?_)
   refine step_append_d rfl (some 39) rfl (.tmp 17) (.tmp 38) 25 rfl (w.heap.size + 2) 39 ti _ 3 40 Tryz.underlying25 hti hy0 hy1 hy2 rfl (by decide) (.slice (some ⟨gq, 0, none⟩) k cq) k (ts.flatMap SV.cells) rfl RO2 ⟨w1.heap.size, 0, none⟩ 1 1 [.slice (some ⟨gp, 0, none⟩) nx cp, .int .i64 x.since, .bool x.bad] rfl rfl (three_new w1 _ _ _) (three_one _ _ _ _ _) (by unfold maxLen; omega) (by omega) (by have := b1'.size; simp; omega) ?_
   intro v3 w3 ho3 hg3 hn3
   obtain ⟨g3, c3, rfl⟩ : ∃ g3 c3, v3 = .slice (some ⟨g3, 0, none⟩) (k + 1) c3 := form_of ho3 (fun e => nomatch (hn3.1 e).1)
   have hyl : ys.length = nx := by have := congrArg List.length hyk; simp at this; rw [this, HNX.out]
   have hw1 : wr.heap.size ≤ w1.heap.size := b1'.size
   obtain ⟨tS, tN⟩ := (PO.below (zBa w1 (.cells #[.slice (some ⟨gp, 0, none⟩) nx cp, .int .i64 x.since, .bool x.bad] 39))).slot (by omega) x.since x.bad
   have C2 := HC.out.below b2
   have C3 : CAns w3 (w.heap.size + 2) g3 c3 (ts ++ [⟨some ⟨gp, 0, none⟩, cp, ys, x.since, x.bad⟩]) := C2.snoc tS tN (show w.heap.size + 2 ≤ wr.heap.size by omega) (fun b hb => (HC.out.forest.blk b hb).2.1) (by rw [HT.out]; show World.ownsRow _ _ _ _ _ _ (_ ++ [.slice (some ⟨gp, 0, none⟩) ys.length cp, .int .i64 x.since, .bool x.bad]); rw [hyl]; exact ho3) hg3
   have gqn : ∀ (b : Nat) (cu : Array Value), wr.heap[b]? = some (.cells cu 27 (0, 0)) → w3.heap[b]? = wr.heap[b]? := fun b cu hb => by
    have h2 := b2.block _ (lt_of_block hb)
    refine (hg3.block b (Nat.lt_of_lt_of_le (lt_of_block hb) b2.size) (fun e => ?_)).trans h2
    cases e
    obtain ⟨cu', hc'⟩ := own_at HC.out.own gq rfl
    rw [hb] at hc'
    cases hc'
   have gsn : w3.heap[gs]? = wr.heap[gs]? := (hg3.block gs (Nat.lt_of_lt_of_le hgr b2.size) (fun e => by have h1 := (own_lt HC.out.own gq rfl).1; have h2 : gs = gq := Option.some.inj e; omega)).trans (b2.block _ hgr)
   have S3 : (w3.cell? ⟨w.heap.size, 1, none⟩ = some (.slice (some ⟨gs, off, none⟩) ss.length cl) ∧ w3.cell? ⟨w.heap.size + 1 + 1 + 1, 1, none⟩ = some (.slice (some ⟨gq, 0, none⟩) k cq) ∧ w3.cell? ⟨gs, off + k * 3, none⟩ = some (.slice (some ⟨gx, 0, none⟩) nx x.c) ∧ w3.cell? ⟨gs, off + k * 3 + 1, none⟩ = some (.int .i64 x.since) ∧ w3.cell? ⟨gs, off + k * 3 + 2, none⟩ = some (.bool x.bad)) := by
    have eA : ∀ o, w3.cell? ⟨w.heap.size, o, none⟩ = wr.cell? ⟨w.heap.size, o, none⟩ := fun o => World.cell?_of_block (w := wr) (a := ⟨w.heap.size, o, none⟩) (gqn _ _ HA.out)
    have eO : ∀ o, w3.cell? ⟨w.heap.size + 1 + 1 + 1, o, none⟩ = wr.cell? ⟨w.heap.size + 1 + 1 + 1, o, none⟩ := fun o => World.cell?_of_block (w := wr) (a := ⟨w.heap.size + 1 + 1 + 1, o, none⟩) (gqn _ _ HO.out)
    have eS : ∀ o, w3.cell? ⟨gs, o, none⟩ = wr.cell? ⟨gs, o, none⟩ := fun o => World.cell?_of_block (w := wr) (a := ⟨gs, o, none⟩) gsn
    exact ⟨(eA _).trans a1, (eO _).trans o1, (eS _).trans c0, (eS _).trans c1, (eS _).trans c2⟩
   have A3 : Hid (w3.heap[w.heap.size]? = some (.cells #[.int .i64 now, .slice (some ⟨gs, off, none⟩) ss.length cl] 27 (0, 0))) := (gqn _ _ HA.out).trans HA.out
   have R3 : Hid (w3.heap[w.heap.size + 1]? = some (.cells #[.int .i64 0, .slice none 0 0] 27 (0, 0))) := (gqn _ _ HR.out).trans HR.out
   have O3 : Hid (w3.heap[w.heap.size + 1 + 1 + 1]? = some (.cells #[.int .i64 now, .slice (some ⟨gq, 0, none⟩) k cq] 27 (0, 0))) := (gqn _ _ HO.out).trans HO.out
   have B3 : Hid (Below w.heap.size w w3) := (HW.out.trans (b2.mono hsz)).grown hg3 (Nat.le_trans hsz b2.size) (fun j hj => by have h1 := (own_lt HC.out.own gq rfl).1; have h2 : gq = j := Option.some.inj hj; omega)
   have HC3 : Hid (CAns w3 (w.heap.size + 2) g3 c3 (ts ++ [⟨some ⟨gp, 0, none⟩, cp, ys, x.since, x.bad⟩])) := C3
   have HYK : Hid (ys.map RV.key = x.xs.map RV.key) := hyk
   have q0 : w3.cell? ⟨w.heap.size + 1 + 1 + 1, 0, none⟩ = some (.int .i64 now) := zCr O3.out
   have q1 : w3.cell? ⟨w.heap.size + 1 + 1 + 1, 1, none⟩ = some (.slice (some ⟨gq, 0, none⟩) k cq) := zCr O3.out
   have fz3 : ∀ o, w3.frozen? ⟨w.heap.size + 1 + 1 + 1, o, none⟩ = false := fun o => zUf O3.out o
   refine hK.out _ _ (Or.inr S3) (fun hH1 => ?_)
   clear hK K hH1 hH
   have hH := S3
   simp only [Act.put, zX, zY, zZ]
   clear C3 C2 tS tN gqn gsn ho3 hg3 hn3 b1 b1' b2 RO2 PO hyk
   refine zLk 24 40 (.pointer (some ⟨w.heap.size + 1 + 1 + 1, 1, none⟩)) rfl (fun w hS => by go_simp) hH ?_; simp only [Act.put, zX, zY, zZ]
   refine late_one (i := 25) (by kernel_rfl) rfl (fun K hK => ?_)
   go_simp
   refine hK.out _ _ (Or.inl (by kernel_rfl)) (fun hH1 => ?_)
   clear hK K hH1
   refine late_done (by kernel_rfl) ?_ _
   clear hH S3 q0 q1 fz3 SK KP
   go_wp2
   go_roundw
   case rel =>
    refine ⟨k + 1, g3, c3, _, by omega, by go_num, (show _ = _ by rw [List.length_append, HT.out]; rfl), HC3.out.set O3.out ⟨by decide, by decide, by decide⟩ _, (show _ = _ by rw [List.map_append, HK.out, List.take_add_one, HX.out]; simp [SV.key, HYK.out]), (zHs (by simp only; omega)).trans A3.out, (zHs (by simp only; omega)).trans R3.out, (show _ = _ by rw [set_at O3.out]; rfl), Below.setCell B3.out (by simp only; omega) _⟩
   case measure => simp [intOf]; omega
  ·obtain rfl : k = ss.length := by omega
   have r0 : wr.cell? ⟨w.heap.size + 1, 0, none⟩ = some (.int .i64 0) := zCr HR.out
   have r1 : wr.cell? ⟨w.heap.size + 1, 1, none⟩ = some (.slice none 0 0) := zCr HR.out
   have fz : ∀ o, wr.frozen? ⟨w.heap.size + 1, o, none⟩ = false := fun o => zUf HR.out o
   go_wp2
   refine bodyPost_ret (v := .agg #[.int .i64 now, .slice (some ⟨gq, 0, none⟩) ss.length cq]) (by simp [results, Tryz.results30, go_sem, r0, r1]) rfl ⟨gq, cq, ts, rfl, ?_, by rw [HK.out, List.take_length], Below.setCell (Below.setCell HW.out (by simp only; omega) _) (by simp only; omega) _⟩
   exact ((HC.out.set HR.out ⟨by decide, by decide, by decide⟩ _).set (set_at HR.out) ⟨by decide, by decide, by decide⟩ _).le (by omega)
def sameHead (p0 : Int) (p1 : Int) (p2 : Int) (p3 : Int) (p4 : Int) (p5 : Bool) (p6 : Int) (p7 : Bool) (q0 : Int) (q1 : Int) (q2 : Int) (q3 : Int) (q4 : Int) (q5 : Bool) (q6 : Int) (q7 : Bool) (zs ys : List Int) : Prop := p0 = q0 ∧ p1 = q1 ∧ p2 = q2 ∧ p3 = q3 ∧ p4 = q4 ∧ p5 = q5 ∧ p6 = q6 ∧ p7 = q7 ∧ zs = ys
set_option maxHeartbeats 6400000 in
theorem l4Same_raw (p0 : Int) (p1 : Int) (p2 : Int) (p3 : Int) (p4 : Int) (p5 : Bool) (p6 : Int) (p7 : Bool) (q0 : Int) (q1 : Int) (q2 : Int) (q3 : Int) (q4 : Int) (q5 : Bool) (q6 : Int) (q7 : Bool) (a1 a2 : Option Addr) (zs ys : List Int) (c1 c2 : Nat) (w : World) (hr1 : RdB w a1 zs.length zs) (hr2 : RdB w a2 ys.length ys) (hl1 : zs.length ≤ 1048576) (hl2 : ys.length ≤ 1048576) :
  Calls Tryz.prog 100 #[.agg #[.int .i64 p0, .int .i64 p1, .int .i64 p2, .int .i64 p3, .int .i64 p4, .bool p5, .int .i64 p6, .bool p7, .slice a1 zs.length c1], .agg #[.int .i64 q0, .int .i64 q1, .int .i64 q2, .int .i64 q3, .int .i64 q4, .bool q5, .int .i64 q6, .bool q7, .slice a2 ys.length c2]] w (SaysB (sameHead p0 p1 p2 p3 p4 p5 p6 p7 q0 q1 q2 q3 q4 q5 q6 q7 zs ys) w) := by
 have hn : ∀ x : Int, (x != x) = false := fun x => by simp
 have hb : ∀ x : Bool, (x != x) = false := fun x => by simp
 by_cases h0 : p0 = q0
 case neg =>
  have hne : (p0 != q0) = true := by simp [h0]
  have FIN : Hid (¬ sameHead p0 p1 p2 p3 p4 p5 p6 p7 q0 q1 q2 q3 q4 q5 q6 q7 zs ys) := fun h => h0 (by unfold sameHead at h; simp_all)
  clear hr1 hr2 h0
  go_enter Tryz.func100, Tryz.ntmps100
  go_wp2
  go_ret
  exact SaysB.mk false ⟨(fun h => by cases h), fun h => absurd h FIN.out⟩ (Joins.below_alloc2 _ _ _)
 subst h0
 by_cases h1 : p1 = q1
 case neg =>
  have hne : (p1 != q1) = true := by simp [h1]
  have FIN : Hid (¬ sameHead p0 p1 p2 p3 p4 p5 p6 p7 p0 q1 q2 q3 q4 q5 q6 q7 zs ys) := fun h => h1 (by unfold sameHead at h; simp_all)
  clear hr1 hr2 h1
  go_enter Tryz.func100, Tryz.ntmps100
  go_wp2
  go_ret
  exact SaysB.mk false ⟨(fun h => by cases h), fun h => absurd h FIN.out⟩ (Joins.below_alloc2 _ _ _)
 subst h1
 by_cases h2 : p2 = q2
 case neg =>
  have hne : (p2 != q2) = true := by simp [h2]
  have FIN : Hid (¬ sameHead p0 p1 p2 p3 p4 p5 p6 p7 p0 p1 q2 q3 q4 q5 q6 q7 zs ys) := fun h => h2 (by unfold sameHead at h; simp_all)
  clear hr1 hr2 h2
  go_enter Tryz.func100, Tryz.ntmps100
  go_wp2
  go_ret
  exact SaysB.mk false ⟨(fun h => by cases h), fun h => absurd h FIN.out⟩ (Joins.below_alloc2 _ _ _)
 subst h2
 by_cases h3 : p3 = q3
 case neg =>
  have hne : (p3 != q3) = true := by simp [h3]
  have FIN : Hid (¬ sameHead p0 p1 p2 p3 p4 p5 p6 p7 p0 p1 p2 q3 q4 q5 q6 q7 zs ys) := fun h => h3 (by unfold sameHead at h; simp_all)
  clear hr1 hr2 h3
  go_enter Tryz.func100, Tryz.ntmps100
  go_wp2
  go_ret
  exact SaysB.mk false ⟨(fun h => by cases h), fun h => absurd h FIN.out⟩ (Joins.below_alloc2 _ _ _)
 subst h3
 by_cases h4 : p4 = q4
 case neg =>
  have hne : (p4 != q4) = true := by simp [h4]
  have FIN : Hid (¬ sameHead p0 p1 p2 p3 p4 p5 p6 p7 p0 p1 p2 p3 q4 q5 q6 q7 zs ys) := fun h => h4 (by unfold sameHead at h; simp_all)
  clear hr1 hr2 h4
  go_enter Tryz.func100, Tryz.ntmps100
  go_wp2
  go_ret
  exact SaysB.mk false ⟨(fun h => by cases h), fun h => absurd h FIN.out⟩ (Joins.below_alloc2 _ _ _)
 subst h4
 by_cases h5 : p5 = q5
 case neg =>
  have FIN : Hid (¬ sameHead p0 p1 p2 p3 p4 p5 p6 p7 p0 p1 p2 p3 p4 q5 q6 q7 zs ys) := fun h => h5 (by unfold sameHead at h; simp_all)
  clear hr1 hr2
  cases p5 <;> cases q5
  ·exact absurd rfl h5
  ·clear h5
   go_enter Tryz.func100, Tryz.ntmps100
   go_wp2
   go_ret
   exact SaysB.mk false ⟨(fun h => by cases h), fun h => absurd h FIN.out⟩ (Joins.below_alloc2 _ _ _)
  ·clear h5
   go_enter Tryz.func100, Tryz.ntmps100
   go_wp2
   go_ret
   exact SaysB.mk false ⟨(fun h => by cases h), fun h => absurd h FIN.out⟩ (Joins.below_alloc2 _ _ _)
  ·exact absurd rfl h5
 subst h5
 by_cases h6 : p6 = q6
 case neg =>
  have hne : (p6 != q6) = true := by simp [h6]
  have FIN : Hid (¬ sameHead p0 p1 p2 p3 p4 p5 p6 p7 p0 p1 p2 p3 p4 p5 q6 q7 zs ys) := fun h => h6 (by unfold sameHead at h; simp_all)
  clear hr1 hr2 h6
  go_enter Tryz.func100, Tryz.ntmps100
  go_wp2
  go_ret
  exact SaysB.mk false ⟨(fun h => by cases h), fun h => absurd h FIN.out⟩ (Joins.below_alloc2 _ _ _)
 subst h6
 by_cases h7 : p7 = q7
 case neg =>
  have FIN : Hid (¬ sameHead p0 p1 p2 p3 p4 p5 p6 p7 p0 p1 p2 p3 p4 p5 p6 q7 zs ys) := fun h => h7 (by unfold sameHead at h; simp_all)
  clear hr1 hr2
  cases p7 <;> cases q7
  ·exact absurd rfl h7
  ·clear h7
   go_enter Tryz.func100, Tryz.ntmps100
   go_wp2
   go_ret
   exact SaysB.mk false ⟨(fun h => by cases h), fun h => absurd h FIN.out⟩ (Joins.below_alloc2 _ _ _)
  ·clear h7
   go_enter Tryz.func100, Tryz.ntmps100
   go_wp2
   go_ret
   exact SaysB.mk false ⟨(fun h => by cases h), fun h => absurd h FIN.out⟩ (Joins.below_alloc2 _ _ _)
  ·exact absurd rfl h7
 subst h7
 obtain ⟨_, hc1⟩ := hr1
 obtain ⟨_, hc2⟩ := hr2
 have HS : Hid (sameHead p0 p1 p2 p3 p4 p5 p6 p7 p0 p1 p2 p3 p4 p5 p6 p7 zs ys ↔ zs = ys) := (show _ ↔ _ from ⟨fun h => h.2.2.2.2.2.2.2.2, fun h => ⟨rfl, rfl, rfl, rfl, rfl, rfl, rfl, rfl, h⟩⟩)
 by_cases hlen : zs.length = ys.length
 case neg =>
  have hne : ((zs.length : Int) != (ys.length : Int)) = true := by simp; omega
  have FIN : Hid (¬ sameHead p0 p1 p2 p3 p4 p5 p6 p7 p0 p1 p2 p3 p4 p5 p6 p7 zs ys) := fun h => hlen (by rw [HS.out.1 h])
  clear hc1 hc2 hlen HS
  go_enter Tryz.func100, Tryz.ntmps100
  go_wp2
  go_ret
  exact SaysB.mk false ⟨(fun h => by cases h), fun h => absurd h FIN.out⟩ (Joins.below_alloc2 _ _ _)
 obtain ⟨n, hzn⟩ : ∃ n, zs.length = n := ⟨_, rfl⟩
 have hyn : ys.length = n := by omega
 rw [hzn] at hc1 hl1
 rw [hyn] at hc2 hl2
 rw [hzn, hyn]
 clear hlen
 have HZN : Hid (zs.length = n ∧ ys.length = n) := ⟨hzn, hyn⟩
 by_cases h0 : n = 0
 ·subst h0
  have FIN : Hid (sameHead p0 p1 p2 p3 p4 p5 p6 p7 p0 p1 p2 p3 p4 p5 p6 p7 zs ys) := HS.out.2 ((List.length_eq_zero_iff.1 hzn).trans (List.length_eq_zero_iff.1 hyn).symm)
  clear hc1 hc2 hzn hyn HS
  go_enter Tryz.func100, Tryz.ntmps100
  go_wp2
  refine wp_loop_rounds 1 ?_
  rw [rounds_succ]
  go_wp2
  go_ret
  exact SaysB.mk true ⟨fun _ => FIN.out, fun _ => rfl⟩ (Joins.below_alloc2 _ _ _)
 ·obtain ⟨b1, off1, rfl, hb1, hc1⟩ := hc1.resolve_left h0
  obtain ⟨b2, off2, rfl, hb2, hc2⟩ := hc2.resolve_left h0
  clear hzn hyn
  have W2 : Hid (Below w.heap.size w ((w.alloc (.cells #[.int .i64 p0, .int .i64 p1, .int .i64 p2, .int .i64 p3, .int .i64 p4, .bool p5, .int .i64 p6, .bool p7, .slice (some ⟨b1, off1, none⟩) n c1] 29)).alloc (.cells #[.int .i64 p0, .int .i64 p1, .int .i64 p2, .int .i64 p3, .int .i64 p4, .bool p5, .int .i64 p6, .bool p7, .slice (some ⟨b2, off2, none⟩) n c2] 29))) := Joins.below_alloc2 _ _ _
  go_enter Tryz.func100, Tryz.ntmps100
  go_wp2
  go_loopw [5] (fun i wr => ∃ k : Nat, k ≤ n ∧ i = .int .i64 k ∧ Hid (Below w.heap.size w wr ∧ w.heap.size + 2 ≤ wr.heap.size) ∧ Hid (wr.cell? ⟨w.heap.size, 8, none⟩ = some (.slice (some ⟨b1, off1, none⟩) n c1) ∧ wr.cell? ⟨w.heap.size + 1, 8, none⟩ = some (.slice (some ⟨b2, off2, none⟩) n c2)) ∧ Hid (∀ j, j < k → zs.getD j 0 = ys.getD j 0)) (fun i _ => n - (intOf i).toNat)
  case atStart => exact ⟨0, Nat.zero_le _, rfl, ⟨Joins.below_alloc2 _ _ _, by simp⟩, ⟨by go_simp, by go_simp⟩, fun j h => by omega⟩
  case round =>
   obtain ⟨k, hk, rfl, HW, HX, HE⟩ := hrel
   obtain ⟨x8, y8⟩ := HX.out
   have hsz := HW.out.2
   by_cases hlt : k < n
   ·have hcell1 := (HW.out.1.cell (p := ⟨b1, off1 + k, none⟩) hb1).trans (hc1 k hlt)
    have hcell2 := (HW.out.1.cell (p := ⟨b2, off2 + k, none⟩) hb2).trans (hc2 k hlt)
    have hi : (k : Int) < (n : Int) := by omega
    have HC : Hid (zs[k]? = some (zs.getD k 0) ∧ ys[k]? = some (ys.getD k 0)) := ⟨by rw [List.getD_eq_getElem?_getD, List.getElem?_eq_getElem (by have := HZN.out.1; omega)]; rfl, by rw [List.getD_eq_getElem?_getD, List.getElem?_eq_getElem (by have := HZN.out.2; omega)]; rfl⟩
    obtain ⟨z, hz⟩ : ∃ z, zs.getD k 0 = z := ⟨_, rfl⟩
    obtain ⟨y, hy⟩ : ∃ y, ys.getD k 0 = y := ⟨_, rfl⟩
    have HZY : Hid (zs.getD k 0 = z ∧ ys.getD k 0 = y) := ⟨hz, hy⟩
    rw [hz] at hcell1
    rw [hy] at hcell2
    clear hc1 hc2 hz hy
    by_cases hzy : z = y
    ·subst hzy
     go_wp2
     go_quiet (fail)
     go_wp2
     go_roundw
     case rel =>
      refine ⟨k + 1, by omega, by go_num, ⟨HW.out.1.trans (Joins.below_draws _ _ _), by simp; omega⟩, ⟨by simpa using x8, by simpa using y8⟩, fun j hj => ?_⟩
      by_cases e : j = k
      ·subst e
       exact HZY.out.1.trans HZY.out.2.symm
      ·exact HE.out j (by omega)
     case measure => simp [intOf]; omega
    ·have hne : (z != y) = true := by simp [hzy]
     have FIN : Hid (¬ sameHead p0 p1 p2 p3 p4 p5 p6 p7 p0 p1 p2 p3 p4 p5 p6 p7 zs ys) := fun h => hzy (by rw [← HZY.out.1, ← HZY.out.2, HS.out.1 h])
     clear hzy
     go_wp2
     go_quiet (fail)
     go_wp2
     go_ret
     exact SaysB.mk false ⟨(fun h => by cases h), fun h => absurd h FIN.out⟩ (HW.out.1.trans (Joins.below_draws _ _ _))
   ·have FIN : Hid (sameHead p0 p1 p2 p3 p4 p5 p6 p7 p0 p1 p2 p3 p4 p5 p6 p7 zs ys) := HS.out.2 (by
     refine List.ext_getElem (by have := HZN.out; omega) fun j h1 h2 => ?_
     have := HE.out j (by have := HZN.out.1; omega)
     rw [List.getD_eq_getElem?_getD, List.getD_eq_getElem?_getD, List.getElem?_eq_getElem h1, List.getElem?_eq_getElem h2] at this
     exact this)
    clear hc1 hc2
    go_wp2
    go_ret
    exact SaysB.mk true ⟨fun _ => FIN.out, fun _ => rfl⟩ HW.out.1
theorem l4Same_any (x y : RV) (w : World) (hx : ROk w x) (hy : ROk w y) : Calls Tryz.prog 100 #[x.p.val (.slice x.a x.zs.length x.c), y.p.val (.slice y.a y.zs.length y.c)] w (SaysB (x.key = y.key) w) := by
 have h := l4Same_raw x.p.src x.p.dst x.p.kind x.p.id x.p.hops x.p.whole x.p.off x.p.more y.p.src y.p.dst y.p.kind y.p.id y.p.hops y.p.whole y.p.off y.p.more x.a y.a x.zs y.zs x.c y.c w hx.rd hy.rd hx.len hy.len
 have e : sameHead x.p.src x.p.dst x.p.kind x.p.id x.p.hops x.p.whole x.p.off x.p.more y.p.src y.p.dst y.p.kind y.p.id y.p.hops y.p.whole y.p.off y.p.more x.zs y.zs ↔ x.key = y.key := by
  unfold sameHead RV.key
  rcases x with ⟨⟨_, _, _, _, _, _, _, _⟩, _, _, _⟩
  rcases y with ⟨⟨_, _, _, _, _, _, _, _⟩, _, _, _⟩
  simp only [Prod.mk.injEq, Pk.mk.injEq]
  constructor
  ·rintro ⟨h0, h1, h2, h3, h4, h5, h6, h7, h8⟩
   exact ⟨⟨h0, h1, h2, h3, h4, h5, h6, h7⟩, h8⟩
  ·rintro ⟨⟨h0, h1, h2, h3, h4, h5, h6, h7⟩, h8⟩
   exact ⟨h0, h1, h2, h3, h4, h5, h6, h7, h8⟩
 refine h.mono ?_
 rintro e1 w' ⟨b, h1, h2, h3⟩
 exact ⟨b, h1, h2.trans e, h3⟩
def isIn (p : RV) (xs : List RV) : Prop := p.key ∈ xs.map RV.key
set_option maxHeartbeats 6400000 in
theorem l4Told_raw (g cl : Nat) (xs : List RV) (p : RV) (w : World) (hL : RL w g xs) (hm : xs.length ≤ 1048576) (hp : ROk w p) :
  Calls Tryz.prog 71 #[.slice (some ⟨g, 0, none⟩) xs.length cl, .agg #[.int .i64 p.p.src, .int .i64 p.p.dst, .int .i64 p.p.kind, .int .i64 p.p.id, .int .i64 p.p.hops, .bool p.p.whole, .int .i64 p.p.off, .bool p.p.more, .slice p.a p.zs.length p.c]] w (SaysB (isIn p xs) w) := by
 have HL : Hid (RL w g xs) := hL
 have HP : Hid (ROk w p) := hp
 clear hL hp
 go_enter Tryz.func71, Tryz.ntmps71
 go_wp2
 go_loopw [5] (fun i wr => ∃ k : Nat, k ≤ xs.length ∧ i = .int .i64 k ∧ Hid (∀ (i : Nat) r, i < k → xs[i]? = some r → r.key ≠ p.key) ∧ Hid (Below (w.heap.size + 1) (w.alloc (.cells (pcells p.p (.slice p.a p.zs.length p.c)) 29)) wr)) (fun i _ => xs.length - (intOf i).toNat)
 case atStart => exact ⟨0, by omega, rfl, fun j s h => by omega, Below.refl _ _⟩
 case round =>
  obtain ⟨k, hj, rfl, HA, HB⟩ := hrel
  have HB' : Hid (Below w.heap.size w wr) := (zBa _ _).trans (HB.out.mono (by omega))
  by_cases hjk : k < xs.length
  ·have hjk' : (k : Int) < (xs.length : Int) := by omega
   obtain ⟨q, hq⟩ := get_of_lt hjk
   have Lr := HL.out.below HB'.out
   obtain ⟨q0, q1, q2, q3, q4, q5, q6, q7, q8⟩ := Lr.elem k q hq
   have hgr := Lr.lt
   have HQ : Hid (xs[k]? = some q) := hq
   have HQO : Hid (ROk wr q) := Lr.each q (List.mem_of_getElem? hq)
   have HPO : Hid (ROk wr p) := HP.out.below HB'.out
   have XP : wr.heap[w.heap.size]? = some (.cells (pcells p.p (.slice p.a p.zs.length p.c)) 29 (0, 0)) := (HB.out.block _ (by omega)).trans (heap_new _ _ _ rfl)
   obtain ⟨lx, p0, p1, p2, p3, p4, p5, p6, p7, p8⟩ := Boxed.of_block XP
   have KA : Hid (∀ W : World, Below wr.heap.size wr W → Calls Tryz.prog 100 #[.agg #[.int .i64 q.p.src, .int .i64 q.p.dst, .int .i64 q.p.kind, .int .i64 q.p.id, .int .i64 q.p.hops, .bool q.p.whole, .int .i64 q.p.off, .bool q.p.more, .slice q.a q.zs.length q.c], .agg #[.int .i64 p.p.src, .int .i64 p.p.dst, .int .i64 p.p.kind, .int .i64 p.p.id, .int .i64 p.p.hops, .bool p.p.whole, .int .i64 p.p.off, .bool p.p.more, .slice p.a p.zs.length p.c]] W (SaysB (q.key = p.key) W)) := fun W h => by
    have h := l4Same_any q p W (HQO.out.below h) (HPO.out.below h)
    unfold Pk.val at h
    exact h
   unfold SaysB at KA
   clear hq Lr XP
   go_wp2
   go_region_held3 (fun w' => w'.cell? ⟨w.heap.size, 0, none⟩ = some (.int .i64 p.p.src) ∧ w'.cell? ⟨w.heap.size, 1, none⟩ = some (.int .i64 p.p.dst) ∧ w'.cell? ⟨w.heap.size, 2, none⟩ = some (.int .i64 p.p.kind) ∧ w'.cell? ⟨w.heap.size, 3, none⟩ = some (.int .i64 p.p.id) ∧ w'.cell? ⟨w.heap.size, 4, none⟩ = some (.int .i64 p.p.hops) ∧ w'.cell? ⟨w.heap.size, 5, none⟩ = some (.bool p.p.whole) ∧ w'.cell? ⟨w.heap.size, 6, none⟩ = some (.int .i64 p.p.off) ∧ w'.cell? ⟨w.heap.size, 7, none⟩ = some (.bool p.p.more) ∧ w'.cell? ⟨w.heap.size, 8, none⟩ = some (.slice p.a p.zs.length p.c) ∧ w'.cell? ⟨g, k * 9, none⟩ = some (.int .i64 q.p.src) ∧ w'.cell? ⟨g, k * 9 + 1, none⟩ = some (.int .i64 q.p.dst) ∧ w'.cell? ⟨g, k * 9 + 2, none⟩ = some (.int .i64 q.p.kind) ∧ w'.cell? ⟨g, k * 9 + 3, none⟩ = some (.int .i64 q.p.id) ∧ w'.cell? ⟨g, k * 9 + 4, none⟩ = some (.int .i64 q.p.hops) ∧ w'.cell? ⟨g, k * 9 + 5, none⟩ = some (.bool q.p.whole) ∧ w'.cell? ⟨g, k * 9 + 6, none⟩ = some (.int .i64 q.p.off) ∧ w'.cell? ⟨g, k * 9 + 7, none⟩ = some (.bool q.p.more) ∧ w'.cell? ⟨g, k * 9 + 8, none⟩ = some (.slice q.a q.zs.length q.c)) (go_keep)
    (first
     | (go_at_call 100; (with_reducible refine (KA.out _ ((Below.refl _ wr).drew)).mono ?_); rintro e w1 ⟨b, rfl, hb, b1⟩; have hc1 : ∀ b o, b < wr.heap.size → w1.cell? ⟨b, o, none⟩ = wr.cell? ⟨b, o, none⟩ := fun b o h => b1.cell (p := ⟨b, o, none⟩) (by simpa using h)))
   have B1 : Hid (Below (w.heap.size + 1) (w.alloc (.cells (pcells p.p (.slice p.a p.zs.length p.c)) 29)) w1) := (HB.out.drew).trans (b1.mono (by simp; omega))
   have HBq : Hid (b = true ↔ q.key = p.key) := hb
   clear hc1 b1 hb
   cases b
   ·go_wp2
    go_roundw
    case rel =>
     refine ⟨k + 1, by omega, by go_num, fun i r hi hr => ?_, B1.out⟩
     rcases Nat.lt_or_ge i k with h' | h'
     ·exact HA.out i r h' hr
     ·obtain rfl : i = k := by omega
      rw [HQ.out] at hr
      obtain rfl := Option.some.inj hr
      exact fun h => by have := HBq.out.2 h; cases this
    case measure => simp [intOf]; omega
   ·go_wp2
    go_ret
    exact SaysB.mk true ⟨fun _ => (show isIn p xs from List.mem_map.2 ⟨q, List.mem_of_getElem? HQ.out, HBq.out.1 (by trivial)⟩), fun _ => rfl⟩ ((zBa _ _).trans (B1.out.mono (by omega)))
  ·have hjk' : ¬ ((k : Int) < (xs.length : Int)) := by omega
   go_wp2
   go_ret
   refine SaysB.mk false ⟨(fun h => by cases h), fun h => ?_⟩ HB'.out
   obtain ⟨r, hr, hk⟩ := List.mem_map.1 (show p.key ∈ xs.map RV.key from h)
   obtain ⟨i, hi⟩ := List.getElem?_of_mem hr
   have := (List.getElem?_eq_some_iff.1 hi).1
   exact absurd hk (HA.out i r (by omega) hi)
end Go.Proofs.YtjbkgmbakjnlhaaGreatDoor
