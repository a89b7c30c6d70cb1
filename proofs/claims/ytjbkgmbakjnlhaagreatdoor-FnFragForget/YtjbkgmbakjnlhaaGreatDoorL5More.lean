import Derived.Test.YtjbkgmbakjnlhaaGreatDoorPartBg
namespace Go.Proofs.YtjbkgmbakjnlhaaGreatDoor
set_option maxRecDepth 100000
open Go.RowKit
theorem DataB.of_own {w : World} {lo g c : Nat} {q : Pk} {zs : List Int} (h : w.ownsRow lo 5 1 (.slice (some ⟨g, 0, none⟩) zs.length c) zs.length (zs.map (.int .u8))) (hl : zs.length ≤ 1048576) (hb : ∀ z ∈ zs, 0 ≤ z ∧ z ≤ 255) : DataB w lo ⟨q, some ⟨g, 0, none⟩, c, zs⟩ :=
 ⟨Or.inr ⟨g, rfl, (own_lt h g rfl).1, RowB.of_own h, (own_caps h).1, (own_caps h).2⟩, hl, hb⟩
def MorePost (rb M lo : Nat) (w : World) (e : Ending) (w' : World) : Prop := ∃ x : RV, e = .returned (.agg #[.int .i64 x.p.src, .int .i64 x.p.dst, .int .i64 x.p.kind, .int .i64 x.p.id, .int .i64 x.p.hops, .bool x.p.whole, .int .i64 x.p.off, .bool x.p.more, .slice x.a x.zs.length x.c]) ∧ DataB w' lo x ∧ Rdr w' rb M ∧ w.grownBy w' (some rb)
structure MoR (w : World) (rb M : Nat) (now : Int) (oa : Option Addr) (n cl : Nat) (u : World) : Prop where
 gr : w.grownBy u (some rb)
 rd : Rdr u rb M
 box : u.heap[w.heap.size]? = some (.cells #[.int .i64 now, .slice oa n cl] 27 (0, 0))
 res : u.heap[w.heap.size + 1]? = some (.cells (pcells zeroPk (.slice none 0 0)) 29 (0, 0))
 rbl : rb < w.heap.size
theorem MoR.grown {w : World} {rb M M' : Nat} {now : Int} {oa : Option Addr} {n cl : Nat} {u u' : World} (h : MoR w rb M now oa n cl u) (hg : u.grownBy u' (some rb)) (hR : Rdr u' rb M') : MoR w rb M' now oa n cl u' := by
 have h2 := h.rbl
 exact ⟨grown_trans h.gr hg, hR, (hg.block _ (lt_of_block h.box) (fun e => by have := Option.some.inj e; omega)).trans h.box, (hg.block _ (lt_of_block h.res) (fun e => by have := Option.some.inj e; omega)).trans h.res, h.rbl⟩
theorem MoR.below {w : World} {rb M : Nat} {now : Int} {oa : Option Addr} {n cl : Nat} {u u' : World} (h : MoR w rb M now oa n cl u) (hb : Below u.heap.size u u') : MoR w rb M now oa n cl u' := h.grown (grown_of_below hb) (h.rd.below hb)
theorem MoR.set {w : World} {rb M b o : Nat} {now : Int} {oa : Option Addr} {n cl : Nat} {u : World} (h : MoR w rb M now oa n cl u) (hb : w.heap.size + 1 < b) (v : Value) : MoR w rb M now oa n cl (u.setCell ⟨b, o, none⟩ v) := by
 have h2 := h.rbl
 have B : Below b u (u.setCell ⟨b, o, none⟩ v) := Below.setCell (Below.refl b u) (by simp only; omega) v
 exact ⟨⟨B.os.trans h.gr.os, B.tape.trans h.gr.tape, B.output.trans h.gr.output, Nat.le_trans h.gr.size B.size, fun k hk hne => (B.block k (by omega)).trans (h.gr.block k hk hne)⟩, h.rd.keep B.size fun j hj => B.block j (by omega), (B.block _ (by omega)).trans h.box, (B.block _ (by omega)).trans h.res, h.rbl⟩
theorem MoR.fin {w : World} {rb M M' lo : Nat} {now : Int} {oa : Option Addr} {n cl : Nat} {u : World} {x : RV} (h : MoR w rb M now oa n cl u) (hd : DataB u lo x) (hM : M ≤ M') : MorePost rb M' lo w (.returned (.agg #[.int .i64 x.p.src, .int .i64 x.p.dst, .int .i64 x.p.kind, .int .i64 x.p.id, .int .i64 x.p.hops, .bool x.p.whole, .int .i64 x.p.off, .bool x.p.more, .slice x.a x.zs.length x.c])) (((((((((u.setCell ⟨w.heap.size + 1, 0, none⟩ (.int .i64 x.p.src)).setCell ⟨w.heap.size + 1, 1, none⟩ (.int .i64 x.p.dst)).setCell ⟨w.heap.size + 1, 2, none⟩ (.int .i64 x.p.kind)).setCell ⟨w.heap.size + 1, 3, none⟩ (.int .i64 x.p.id)).setCell ⟨w.heap.size + 1, 4, none⟩ (.int .i64 x.p.hops)).setCell ⟨w.heap.size + 1, 5, none⟩ (.bool x.p.whole)).setCell ⟨w.heap.size + 1, 6, none⟩ (.int .i64 x.p.off)).setCell ⟨w.heap.size + 1, 7, none⟩ (.bool x.p.more)).setCell ⟨w.heap.size + 1, 8, none⟩ (.slice x.a x.zs.length x.c)) := by
 have h2 := h.rbl
 have hk : ∀ k, k ≠ w.heap.size + 1 → (((((((((u.setCell ⟨w.heap.size + 1, 0, none⟩ (.int .i64 x.p.src)).setCell ⟨w.heap.size + 1, 1, none⟩ (.int .i64 x.p.dst)).setCell ⟨w.heap.size + 1, 2, none⟩ (.int .i64 x.p.kind)).setCell ⟨w.heap.size + 1, 3, none⟩ (.int .i64 x.p.id)).setCell ⟨w.heap.size + 1, 4, none⟩ (.int .i64 x.p.hops)).setCell ⟨w.heap.size + 1, 5, none⟩ (.bool x.p.whole)).setCell ⟨w.heap.size + 1, 6, none⟩ (.int .i64 x.p.off)).setCell ⟨w.heap.size + 1, 7, none⟩ (.bool x.p.more)).setCell ⟨w.heap.size + 1, 8, none⟩ (.slice x.a x.zs.length x.c)).heap[k]? = u.heap[k]? := fun k hk => heap9 u (w.heap.size + 1) k hk _ _ _ _ _ _ _ _ _
 have B : Below (w.heap.size + 1) u (((((((((u.setCell ⟨w.heap.size + 1, 0, none⟩ (.int .i64 x.p.src)).setCell ⟨w.heap.size + 1, 1, none⟩ (.int .i64 x.p.dst)).setCell ⟨w.heap.size + 1, 2, none⟩ (.int .i64 x.p.kind)).setCell ⟨w.heap.size + 1, 3, none⟩ (.int .i64 x.p.id)).setCell ⟨w.heap.size + 1, 4, none⟩ (.int .i64 x.p.hops)).setCell ⟨w.heap.size + 1, 5, none⟩ (.bool x.p.whole)).setCell ⟨w.heap.size + 1, 6, none⟩ (.int .i64 x.p.off)).setCell ⟨w.heap.size + 1, 7, none⟩ (.bool x.p.more)).setCell ⟨w.heap.size + 1, 8, none⟩ (.slice x.a x.zs.length x.c)) := below9 (Below.refl _ _) (Nat.le_refl _) _ _ _ _ _ _ _ _ _
 refine ⟨x, rfl, hd.kept fun b hb => hk b (fun e => ?_), (h.rd.keep B.size fun j hj => hk j (by omega)).mono hM, ⟨B.os.trans h.gr.os, B.tape.trans h.gr.tape, B.output.trans h.gr.output, Nat.le_trans h.gr.size B.size, fun k hk' hne => (hk k (by omega)).trans (h.gr.block k hk' hne)⟩⟩
 obtain ⟨_, _, cu, hc⟩ := hd.blk b hb
 rw [e, h.res] at hc
 cases hc
structure MoW (w : World) (rb M lo bp : Nat) (now : Int) (oa : Option Addr) (n cl : Nat) (x : RV) (u : World) : Prop where
 r : MoR w rb M now oa n cl u
 data : DataB u lo x
 bx : u.heap[bp]? = some (.cells (pcells x.p (.slice x.a x.zs.length x.c)) 29 (0, 0))
 lo1 : rb < lo
 lbp : w.heap.size + 1 < bp
theorem MoW.grown {w : World} {rb M M' lo bp : Nat} {now : Int} {oa : Option Addr} {n cl : Nat} {x : RV} {u u' : World} (h : MoW w rb M lo bp now oa n cl x u) (hg : u.grownBy u' (some rb)) (hR : Rdr u' rb M') : MoW w rb M' lo bp now oa n cl x u' := by
 have h1 := h.lo1; have h2 := h.r.rbl; have h3 := h.lbp
 exact ⟨h.r.grown hg hR, h.data.kept fun b hb => hg.block b (h.data.blk b hb).2.1 (fun e => by have := Option.some.inj e; have := (h.data.blk b hb).1; omega), (hg.block _ (lt_of_block h.bx) (fun e => by have := Option.some.inj e; omega)).trans h.bx, h.lo1, h.lbp⟩
theorem MoW.set {w : World} {rb M lo bp j : Nat} {now : Int} {oa : Option Addr} {n cl : Nat} {x x' : RV} {v : Value} {u : World} (h : MoW w rb M lo bp now oa n cl x u) (hx : pcells x'.p (.slice x'.a x'.zs.length x'.c) = (pcells x.p (.slice x.a x.zs.length x.c)).setIfInBounds j v) (hd : DataB u lo x') : MoW w rb M lo bp now oa n cl x' (u.setCell ⟨bp, j, none⟩ v) := by
 refine ⟨h.r.set h.lbp v, hd.kept fun b hb => zHs (fun e => ?_), by rw [set_at h.bx, hx], h.lo1, h.lbp⟩
 simp only at e
 obtain ⟨_, _, cu, hc⟩ := hd.blk b hb
 rw [e, h.bx] at hc
 cases hc
theorem DataB.pk {w : World} {lo : Nat} {q : Pk} {x : RV} (h : DataB w lo x) : DataB w lo ⟨q, x.a, x.c, x.zs⟩ := ⟨h.at_, h.len, h.byte⟩
set_option maxHeartbeats 12800000 in
theorem l5More_any (rb N lo : Nat) (now : Int) (oa : Option Addr) (cl : Nat) (ss : List SV) (w : World) (hR : Rdr w rb N) (hN : N ≤ 800000) (hT : BT w lo oa ss) (hlo : rb < lo) (hll : lo ≤ w.heap.size) (hl8 : ss.length ≤ 8) (hsm : ∀ s ∈ ss, s.xs.length ≤ 1001) :
  Calls Tryz.prog 55 #[.pointer (some ⟨rb, 0, none⟩), .agg #[.int .i64 now, .slice oa ss.length cl]] w (MorePost rb (N + 3000) lo w) := by
 have hrl := hR.lt
 have HT : Hid (BT w lo oa ss) := hT
 have HSM : Hid (∀ s ∈ ss, s.xs.length ≤ 1001) := hsm
 obtain ⟨n, hn⟩ : ∃ n, ss.length = n := ⟨_, rfl⟩
 have HN : Hid (ss.length = n) := hn
 rw [hn] at hl8 ⊢
 have R0 : Hid (MoR w rb N now oa n cl ((w.alloc (.cells #[.int .i64 now, .slice oa n cl] 27)).alloc (.cells #[.int .i64 0, .int .i64 0, .int .i64 0, .int .i64 0, .int .i64 0, .bool false, .int .i64 0, .bool false, .slice none 0 0] 29))) := (show MoR _ _ _ _ _ _ _ _ from ⟨grown_of_below (Joins.below_alloc2 _ _ _), hR.below (Joins.below_alloc2 _ _ _), (zHa (by simp)).trans (heap_new _ _ _ rfl), heap_new _ _ _ (by simp), hrl⟩)
 have KA : Hid (∀ (M : Nat) (u : World), Rdr u rb M → M ≤ 870000 → lo ≤ u.heap.size → Calls Tryz.prog 24 #[.pointer (some ⟨rb, 0, none⟩)] u fun e u2 => ∃ x : RV, e = .returned (.agg #[.int .i64 x.p.src, .int .i64 x.p.dst, .int .i64 x.p.kind, .int .i64 x.p.id, .int .i64 x.p.hops, .bool x.p.whole, .int .i64 x.p.off, .bool x.p.more, .slice x.a x.zs.length x.c]) ∧ DataB u2 lo x ∧ Rdr u2 rb (M + 2000) ∧ u.grownBy u2 (some rb)) := fun M u h1 h2 h3 => (l5Any_any rb M u h1 h2).mono (by
  rintro e u2 ⟨q, g, c, len, zs, rfl, o4, hz4, hl4, -, R4, G4, hby⟩
  subst hz4
  exact ⟨⟨q, some ⟨g, 0, none⟩, c, zs⟩, rfl, (DataB.of_own o4 (by omega) hby).le h3, R4, G4⟩)
 have KP : Hid (∀ (n : Int) (M : Nat) (u : World), Rdr u rb M → M ≤ 1000000 → 0 ≤ n → n ≤ 1000000 → Calls Tryz.prog 23 #[.pointer (some ⟨rb, 0, none⟩), .int .i64 n] u (PickPost rb M n u)) := fun n M u h1 h2 h3 h4 => pick_any rb M n u h1 h2 h3 h4
 have KZ : Hid (∀ (M : Nat) (u : World), MoR w rb M now oa n cl u → u.cell? ⟨w.heap.size, 1, none⟩ = some (.slice oa n cl) ∧ (∀ o, u.frozen? ⟨w.heap.size + 1, o, none⟩ = false) ∧ Boxed u (w.heap.size + 1) zeroPk (.slice none 0 0)) := fun M u h => ⟨zCr h.box, fun o => zUf h.res o, Boxed.of_block h.res⟩
 clear hR hT hn hsm
 go_enter Tryz.func55, Tryz.ntmps55
 by_cases h0 : n = 0
 ·subst h0
  go_wp2_with fail
  (with_reducible refine (KA.out (N) _ R0.out.rd (by omega) (Nat.le_trans hll R0.out.gr.size)).mono ?_)
  rintro e w9 ⟨x, rfl, D9, R9, G9⟩
  have M9 := R0.out.grown G9 R9
  obtain ⟨-, fz9, lz, z0, z1, z2, z3, z4, z5, z6, z7, z8⟩ := KZ.out _ _ M9
  have FIN := M9.fin (M' := N + 3000) D9 (by omega)
  clear M9 D9 R9 G9
  go_wp2
  refine bodyPost_ret (v := .agg #[.int .i64 x.p.src, .int .i64 x.p.dst, .int .i64 x.p.kind, .int .i64 x.p.id, .int .i64 x.p.hops, .bool x.p.whole, .int .i64 x.p.off, .bool x.p.more, .slice x.a x.zs.length x.c]) (by simp [results, Tryz.results55, go_sem, z0, z1, z2, z3, z4, z5, z6, z7, z8]) rfl FIN
 ·have hz : ((n : Int) == 0) = false := beq_eq_false_iff_ne.2 (by omega)
  obtain ⟨gs, rfl, hgl, hrow, hsl⟩ : ∃ g, oa = some ⟨g, 0, none⟩ ∧ lo ≤ g ∧ RowB w 39 g (ss.flatMap SV.cells) ∧ ∀ s ∈ ss, SlotB w lo s := by
   rcases HT.out with ⟨_, h⟩ | h
   ·exact absurd (HN.out.symm.trans (congrArg List.length h)) h0
   ·exact h
  have HW : Hid (RowB w 39 gs (ss.flatMap SV.cells)) := hrow
  have HSL : Hid (∀ s ∈ ss, SlotB w lo s) := hsl
  have hgw := hrow.lt
  have KS : Hid (∀ (M : Nat) (u : World), MoR w rb M now (some ⟨gs, 0, none⟩) n cl u → ∀ (i : Nat) (s : SV), ss[i]? = some s → u.cell? ⟨gs, i * 3, none⟩ = some (.slice s.a s.xs.length s.c) ∧ u.cell? ⟨gs, i * 3 + 1, none⟩ = some (.int .i64 s.since) ∧ u.cell? ⟨gs, i * 3 + 2, none⟩ = some (.bool s.bad)) := fun M u h i s hi => by
   have hr := HW.out.kept (h.gr.block gs hgw (fun e => by have := Option.some.inj e; omega))
   have e : ∀ j v, j < 3 → s.cells[j]? = some v → u.cell? ⟨gs, i * 3 + j, none⟩ = some v := fun j v hj hv => hr.cell (by rw [flatS_at ss i j s hi hj]; exact hv)
   exact ⟨e 0 _ (by omega) rfl, e 1 _ (by omega) rfl, e 2 _ (by omega) rfl⟩
  clear hrow hsl HT
  go_wp2_with fail
  (with_reducible refine (KP.out 4 N _ R0.out.rd (by omega) (by omega) (by omega)).mono ?_)
  rintro e w2 ⟨x, rfl, -, -, -, R2', G2⟩
  have R2 : Hid (MoR w rb (N + 1) now (some ⟨gs, 0, none⟩) n cl w2) := R0.out.grown G2 R2'
  obtain ⟨b1, fz2, -⟩ := KZ.out _ _ R2.out
  clear R0 R2' G2
  by_cases hx : x = 0
  ·subst hx
   go_wp2_with fail
   (with_reducible refine (KA.out (N + 1) _ R2.out.rd (by omega) (Nat.le_trans hll R2.out.gr.size)).mono ?_)
   rintro e w9 ⟨x, rfl, D9, R9, G9⟩
   have M9 := R2.out.grown G9 R9
   obtain ⟨-, fz9, lz, z0, z1, z2, z3, z4, z5, z6, z7, z8⟩ := KZ.out _ _ M9
   have FIN := M9.fin (M' := N + 3000) D9 (by omega)
   clear M9 D9 R9 G9
   go_wp2
   refine bodyPost_ret (v := .agg #[.int .i64 x.p.src, .int .i64 x.p.dst, .int .i64 x.p.kind, .int .i64 x.p.id, .int .i64 x.p.hops, .bool x.p.whole, .int .i64 x.p.off, .bool x.p.more, .slice x.a x.zs.length x.c]) (by simp [results, Tryz.results55, go_sem, z0, z1, z2, z3, z4, z5, z6, z7, z8]) rfl FIN
  ·have hxb : (x == 0) = false := by simp [hx]
   go_upto_region 3 with fail
   go_cut [5] from 7 (fun s5 wx => ∃ (bs : Nat) (s : SV), s5 = .pointer (some ⟨bs, 0, none⟩) ∧ w.heap.size + 1 < bs ∧ Hid (s ∈ ss) ∧ Hid (MoR w rb (N + 2) now (some ⟨gs, 0, none⟩) n cl wx) ∧ Hid (wx.heap[bs]? = some (.cells #[.slice s.a s.xs.length s.c, .int .i64 s.since, .bool s.bad] 39 (0, 0))))
   case first =>
    go_wp2
    have l2 := lt_of_block R2.out.res
    refine wp_region_held_drew (S := fun u => ∃ M, MoR w rb M now (some ⟨gs, 0, none⟩) n cl u) (by kernel_rfl) ⟨_, R2.out.below (draw1 _)⟩ (fun hH => ?_)
    refine zTk 0 18 (.pointer (some ⟨w.heap.size, 1, none⟩)) rfl (fun w hS => by go_simp) hH ?_; simp only [Act.put, zA, zB, zC]
    refine zTk 1 19 (.slice (some ⟨gs, 0, none⟩) n cl) rfl (fun w hS => by obtain ⟨M0, hM0⟩ := hS; have b1 := (KZ.out _ _ hM0).1; go_simp) hH ?_; simp only [Act.put, zA, zB, zC]
    refine zTk 2 20 (.pointer (some ⟨rb, 0, none⟩)) rfl (fun w hS => by go_simp) hH ?_; simp only [Act.put, zA, zB, zC]
    refine zTk 3 21 (.pointer (some ⟨w.heap.size, 1, none⟩)) rfl (fun w hS => by go_simp) hH ?_; simp only [Act.put, zA, zB, zC]
    refine zTk 4 22 (.slice (some ⟨gs, 0, none⟩) n cl) rfl (fun w hS => by obtain ⟨M0, hM0⟩ := hS; have b1 := (KZ.out _ _ hM0).1; go_simp) hH ?_; simp only [Act.put, zA, zB, zC]
    refine zTk 5 23 (.int .i64 n) rfl (fun w hS => by go_simp) hH ?_; simp only [Act.put, zA, zB, zC]
    refine wpAnyH_ready (rs := [6, 9]) (by kernel_rfl) (by simp) ?_
    refine AllReadyH.cons rfl (fun K hK => ?_) (AllReadyH.cons rfl (fun K hK => ?_) AllReadyH.nil)
    ·go_simp
     have Rd := R2.out.below (draw1 w2)
     (with_reducible refine (KP.out (n : Int) (N + 1) _ Rd.rd (by omega) (by omega) (by omega)).mono ?_)
     rintro e w3 ⟨k', rfl, k0, k1, -, R3', G3⟩
     have k2 := k1 (by omega)
     obtain ⟨k, rfl⟩ := Int.eq_ofNat_of_zero_le k0
     have hk : k < ss.length := by rw [HN.out]; omega
     obtain ⟨s, hs⟩ := get_of_lt hk
     have R3 := Rd.grown G3 R3'
     go_simp
     refine hK.out _ _ ⟨_, R3⟩ (fun hH => ?_)
     clear hK K
     (first | (simp only [zA, zB, zC]) | skip)
     refine zTk 7 25 (.pointer (some ⟨gs, k * 3, none⟩)) rfl (fun w hS => by go_simp) hH ?_; simp only [Act.put, zA, zB, zC]
     refine zTk 8 26 (.agg #[.slice s.a s.xs.length s.c, .int .i64 s.since, .bool s.bad]) rfl (fun w hS => by obtain ⟨M0, hM0⟩ := hS; obtain ⟨y0, y1, y2⟩ := KS.out _ _ hM0 k s hs; go_simp) hH ?_; simp only [Act.put, zA, zB, zC]
     refine zRd 9 (by kernel_rfl) rfl (fun K hK => ?_)
     go_simp
     refine hK.out _ _ ⟨_, R3.below (zBa _ _)⟩ (fun hH => ?_)
     clear hK K
     (first | (simp only [zA, zB, zC]) | skip)
     refine zRd 10 (by kernel_rfl) rfl (fun K hK => ?_)
     go_simp
     have l3 := lt_of_block R3.res
     refine hK.out _ _ ⟨_, R3.below (zBa _ _)⟩ (fun hH => ?_)
     clear hK K
     (first | (simp only [zA, zB, zC]) | skip)
     clear hH Rd G3 R3' KP KA
     refine wpAnyH_done (by kernel_rfl) ?_ _
     go_wp2
     go_meet
     case rel => exact ⟨w3.heap.size, s, rfl, l3, List.mem_of_getElem? hs, R3.below (zBa _ _), heap_new _ _ _ rfl⟩
    ·go_simp
     have Rd := (R2.out.below (zBa w2 (.cells #[.slice none 0 0, .int .i64 0, .bool false] 39))).below (draw1 _)
     refine hK.out _ _ ⟨_, Rd⟩ (fun hH => ?_)
     clear hK K
     (first | (simp only [zA, zB, zC]) | skip)
     refine zRd 6 (by kernel_rfl) rfl (fun K hK => ?_)
     go_simp
     (with_reducible refine (KP.out (n : Int) (N + 1) _ Rd.rd (by omega) (by omega) (by omega)).mono ?_)
     rintro e w3 ⟨k', rfl, k0, k1, -, R3', G3⟩
     have k2 := k1 (by omega)
     obtain ⟨k, rfl⟩ := Int.eq_ofNat_of_zero_le k0
     have hk : k < ss.length := by rw [HN.out]; omega
     obtain ⟨s, hs⟩ := get_of_lt hk
     have R3 := Rd.grown G3 R3'
     go_simp
     refine hK.out _ _ ⟨_, R3⟩ (fun hH => ?_)
     clear hK K
     (first | (simp only [zA, zB, zC]) | skip)
     refine zTk 7 25 (.pointer (some ⟨gs, k * 3, none⟩)) rfl (fun w hS => by go_simp) hH ?_; simp only [Act.put, zA, zB, zC]
     refine zTk 8 26 (.agg #[.slice s.a s.xs.length s.c, .int .i64 s.since, .bool s.bad]) rfl (fun w hS => by obtain ⟨M0, hM0⟩ := hS; obtain ⟨y0, y1, y2⟩ := KS.out _ _ hM0 k s hs; go_simp) hH ?_; simp only [Act.put, zA, zB, zC]
     have X3 : w3.heap[w2.heap.size]? = some (.cells #[.slice none 0 0, .int .i64 0, .bool false] 39 (0, 0)) := (G3.block _ (by simp [World.drew]) (fun e => by have := Option.some.inj e; omega)).trans (heap_new _ _ _ rfl)
     have x0 : w3.cell? ⟨w2.heap.size, 0, none⟩ = some (.slice none 0 0) := zCr X3
     have x1 : w3.cell? ⟨w2.heap.size, 1, none⟩ = some (.int .i64 0) := zCr X3
     have x2 : w3.cell? ⟨w2.heap.size, 2, none⟩ = some (.bool false) := zCr X3
     have fx : ∀ o, w3.frozen? ⟨w2.heap.size, o, none⟩ = false := fun o => zUf X3 o
     have lx := lt_of_block X3
     refine zRd 10 (by kernel_rfl) rfl (fun K hK => ?_)
     go_simp
     have Z := ((R3.set (o := 0) l2 (.slice s.a s.xs.length s.c)).set (o := 1) l2 (.int .i64 s.since)).set (o := 2) l2 (.bool s.bad)
     refine hK.out _ _ ⟨_, Z⟩ (fun hH => ?_)
     clear hK K
     (first | (simp only [zA, zB, zC]) | skip)
     clear hH Rd G3 R3' KP KA R3 x0 x1 x2 fx
     refine wpAnyH_done (by kernel_rfl) ?_ _
     go_wp2
     go_meet
     case rel => exact ⟨w2.heap.size, s, rfl, l2, List.mem_of_getElem? hs, Z, (show _ = _ by rw [set_at (set_at (set_at X3))]; rfl)⟩
   case rest =>
    obtain ⟨bs, s, rfl, hbs, HS, R3, X3⟩ := hcut
    obtain ⟨w3, rfl⟩ : ∃ w3, w3 = wc := ⟨_, rfl⟩
    obtain ⟨gL, hsa, hgL, hrL⟩ := (HSL.out s HS.out).at_
    have hxl := HSM.out s HS.out
    have HDL : Hid (∀ y ∈ s.xs, DataB w lo y) := (HSL.out s HS.out).each
    have HRL : Hid (RowB w 29 gL (s.xs.flatMap RV.cells)) := hrL
    obtain ⟨m, hm⟩ : ∃ m, s.xs.length = m := ⟨_, rfl⟩
    have HM : Hid (s.xs.length = m) := hm
    have hgLw := hrL.lt
    rw [hm] at hxl
    rw [hsa, hm] at X3
    have xa : w3.cell? ⟨bs, 0, none⟩ = some (.slice (some ⟨gL, 0, none⟩) m s.c) := zCr X3.out
    have KX : Hid (∀ (M : Nat) (u : World), MoR w rb M now (some ⟨gs, 0, none⟩) n cl u → ∀ (i : Nat) (y : RV), s.xs[i]? = some y → u.cell? ⟨gL, i * 9, none⟩ = some (.int .i64 y.p.src) ∧ u.cell? ⟨gL, i * 9 + 1, none⟩ = some (.int .i64 y.p.dst) ∧ u.cell? ⟨gL, i * 9 + 2, none⟩ = some (.int .i64 y.p.kind) ∧ u.cell? ⟨gL, i * 9 + 3, none⟩ = some (.int .i64 y.p.id) ∧ u.cell? ⟨gL, i * 9 + 4, none⟩ = some (.int .i64 y.p.hops) ∧ u.cell? ⟨gL, i * 9 + 5, none⟩ = some (.bool y.p.whole) ∧ u.cell? ⟨gL, i * 9 + 6, none⟩ = some (.int .i64 y.p.off) ∧ u.cell? ⟨gL, i * 9 + 7, none⟩ = some (.bool y.p.more) ∧ u.cell? ⟨gL, i * 9 + 8, none⟩ = some (.slice y.a y.zs.length y.c)) := fun M u h i y hi => by
     have hr := HRL.out.kept (h.gr.block gL hgLw (fun e => by have := Option.some.inj e; omega))
     have e : ∀ j v, j < 9 → y.cells[j]? = some v → u.cell? ⟨gL, i * 9 + j, none⟩ = some v := fun j v hj hv => hr.cell (by rw [flatR_at s.xs i j y hi hj]; exact hv)
     exact ⟨e 0 _ (by omega) rfl, e 1 _ (by omega) rfl, e 2 _ (by omega) rfl, e 3 _ (by omega) rfl, e 4 _ (by omega) rfl, e 5 _ (by omega) rfl, e 6 _ (by omega) rfl, e 7 _ (by omega) rfl, e 8 _ (by omega) rfl⟩
    clear hm hsa hrL R2 KS
    by_cases hm0 : m = 0
    ·subst hm0
     go_wp2_with fail
     (with_reducible refine (KA.out (N + 2) _ R3.out.rd (by omega) (Nat.le_trans hll R3.out.gr.size)).mono ?_)
     rintro e w9 ⟨x, rfl, D9, R9, G9⟩
     have M9 := R3.out.grown G9 R9
     obtain ⟨-, fz9, lz, z0, z1, z2, z3, z4, z5, z6, z7, z8⟩ := KZ.out _ _ M9
     have FIN := M9.fin (M' := N + 3000) D9 (by omega)
     clear M9 D9 R9 G9
     go_wp2
     refine bodyPost_ret (v := .agg #[.int .i64 x.p.src, .int .i64 x.p.dst, .int .i64 x.p.kind, .int .i64 x.p.id, .int .i64 x.p.hops, .bool x.p.whole, .int .i64 x.p.off, .bool x.p.more, .slice x.a x.zs.length x.c]) (by simp [results, Tryz.results55, go_sem, z0, z1, z2, z3, z4, z5, z6, z7, z8]) rfl FIN
    ·have hmz : ((m : Int) == 0) = false := beq_eq_false_iff_ne.2 (by omega)
     go_upto_region 6 with fail
     go_cut [6] from 7 (fun s6 wx => ∃ (bp : Nat) (y : RV), s6 = .pointer (some ⟨bp, 0, none⟩) ∧ Hid (MoW w rb (N + 3) lo bp now (some ⟨gs, 0, none⟩) n cl y wx))
     case first =>
      go_wp2
      have l3 := lt_of_block R3.out.res
      have lb3 := lt_of_block X3.out
      refine wp_region_held_drew (S := fun u => (∃ M, MoR w rb M now (some ⟨gs, 0, none⟩) n cl u) ∧ u.heap[bs]? = some (.cells #[.slice (some ⟨gL, 0, none⟩) m s.c, .int .i64 s.since, .bool s.bad] 39 (0, 0))) (by kernel_rfl) ⟨⟨_, R3.out.below (draw1 _)⟩, X3.out⟩ (fun hH => ?_)
      refine zTk 0 33 (.pointer (some ⟨bs, 0, none⟩)) rfl (fun w hS => by go_simp) hH ?_; simp only [Act.put, zA, zB, zC]
      refine zTk 1 34 (.slice (some ⟨gL, 0, none⟩) m s.c) rfl (fun w hS => by have xa : w.cell? ⟨bs, 0, none⟩ = some (.slice (some ⟨gL, 0, none⟩) m s.c) := zCr hS.2; go_simp) hH ?_; simp only [Act.put, zA, zB, zC]
      refine zTk 2 35 (.pointer (some ⟨rb, 0, none⟩)) rfl (fun w hS => by go_simp) hH ?_; simp only [Act.put, zA, zB, zC]
      refine zTk 3 36 (.pointer (some ⟨bs, 0, none⟩)) rfl (fun w hS => by go_simp) hH ?_; simp only [Act.put, zA, zB, zC]
      refine zTk 4 37 (.slice (some ⟨gL, 0, none⟩) m s.c) rfl (fun w hS => by have xa : w.cell? ⟨bs, 0, none⟩ = some (.slice (some ⟨gL, 0, none⟩) m s.c) := zCr hS.2; go_simp) hH ?_; simp only [Act.put, zA, zB, zC]
      refine zTk 5 38 (.int .i64 m) rfl (fun w hS => by go_simp) hH ?_; simp only [Act.put, zA, zB, zC]
      refine wpAnyH_ready (rs := [6, 9]) (by kernel_rfl) (by simp) ?_
      refine AllReadyH.cons rfl (fun K hK => ?_) (AllReadyH.cons rfl (fun K hK => ?_) AllReadyH.nil)
      ·go_simp
       have Rd := R3.out.below (draw1 w3)
       (with_reducible refine (KP.out (m : Int) (N + 2) _ Rd.rd (by omega) (by omega) (by omega)).mono ?_)
       rintro e w4 ⟨k', rfl, k0, k1, -, R4', G4⟩
       have k2 := k1 (by omega)
       obtain ⟨k, rfl⟩ := Int.eq_ofNat_of_zero_le k0
       have hk : k < s.xs.length := by rw [HM.out]; omega
       obtain ⟨y, hy⟩ := get_of_lt hk
       have R4 := Rd.grown G4 R4'
       have X4 : w4.heap[bs]? = some (.cells #[.slice (some ⟨gL, 0, none⟩) m s.c, .int .i64 s.since, .bool s.bad] 39 (0, 0)) := (G4.block _ lb3 (fun e => by have := Option.some.inj e; omega)).trans X3.out
       have D4 : DataB w4 lo y := (HDL.out y (List.mem_of_getElem? hy)).kept fun b hb => R4.gr.block b ((HDL.out y (List.mem_of_getElem? hy)).blk b hb).2.1 (fun e => by have := Option.some.inj e; have := ((HDL.out y (List.mem_of_getElem? hy)).blk b hb).1; omega)
       go_simp
       refine hK.out _ _ ⟨⟨_, R4⟩, X4⟩ (fun hH => ?_)
       clear hK K
       (first | (simp only [zA, zB, zC]) | skip)
       refine zTk 7 40 (.pointer (some ⟨gL, k * 9, none⟩)) rfl (fun w hS => by go_simp) hH ?_; simp only [Act.put, zA, zB, zC]
       refine zTk 8 41 (.agg #[.int .i64 y.p.src, .int .i64 y.p.dst, .int .i64 y.p.kind, .int .i64 y.p.id, .int .i64 y.p.hops, .bool y.p.whole, .int .i64 y.p.off, .bool y.p.more, .slice y.a y.zs.length y.c]) rfl (fun w hS => by obtain ⟨M0, hM0⟩ := hS.1; obtain ⟨y0, y1, y2, y3, y4, y5, y6, y7, y8⟩ := KX.out _ _ hM0 k y hy; go_simp) hH ?_; simp only [Act.put, zA, zB, zC]
       refine zRd 9 (by kernel_rfl) rfl (fun K hK => ?_)
       go_simp
       refine hK.out _ _ ⟨⟨_, R4.below (zBa _ _)⟩, (zHa (lt_of_block X4)).trans X4⟩ (fun hH => ?_)
       clear hK K
       (first | (simp only [zA, zB, zC]) | skip)
       refine zRd 10 (by kernel_rfl) rfl (fun K hK => ?_)
       go_simp
       have l4 := lt_of_block R4.res
       refine hK.out _ _ ⟨⟨_, R4.below (zBa _ _)⟩, (zHa (lt_of_block X4)).trans X4⟩ (fun hH => ?_)
       clear hK K
       (first | (simp only [zA, zB, zC]) | skip)
       clear hH Rd G4 R4' KP KA
       refine wpAnyH_done (by kernel_rfl) ?_ _
       go_wp2
       go_meet
       case rel => exact ⟨w4.heap.size, y, rfl, (show MoW _ _ _ _ _ _ _ _ _ _ _ from ⟨R4.below (zBa _ _), D4.below (zBa _ _), heap_new _ _ _ rfl, hlo, l4⟩)⟩
      ·go_simp
       have Rd := (R3.out.below (zBa w3 (.cells #[.int .i64 0, .int .i64 0, .int .i64 0, .int .i64 0, .int .i64 0, .bool false, .int .i64 0, .bool false, .slice none 0 0] 29))).below (draw1 _)
       refine hK.out _ _ ⟨⟨_, Rd⟩, (zHa lb3).trans X3.out⟩ (fun hH => ?_)
       clear hK K
       (first | (simp only [zA, zB, zC]) | skip)
       refine zRd 6 (by kernel_rfl) rfl (fun K hK => ?_)
       go_simp
       (with_reducible refine (KP.out (m : Int) (N + 2) _ Rd.rd (by omega) (by omega) (by omega)).mono ?_)
       rintro e w4 ⟨k', rfl, k0, k1, -, R4', G4⟩
       have k2 := k1 (by omega)
       obtain ⟨k, rfl⟩ := Int.eq_ofNat_of_zero_le k0
       have hk : k < s.xs.length := by rw [HM.out]; omega
       obtain ⟨y, hy⟩ := get_of_lt hk
       have R4 := Rd.grown G4 R4'
       have X4 : w4.heap[bs]? = some (.cells #[.slice (some ⟨gL, 0, none⟩) m s.c, .int .i64 s.since, .bool s.bad] 39 (0, 0)) := (G4.block _ (by simp [World.drew]; omega) (fun e => by have := Option.some.inj e; omega)).trans ((zHa lb3).trans X3.out)
       have D4 : DataB w4 lo y := (HDL.out y (List.mem_of_getElem? hy)).kept fun b hb => R4.gr.block b ((HDL.out y (List.mem_of_getElem? hy)).blk b hb).2.1 (fun e => by have := Option.some.inj e; have := ((HDL.out y (List.mem_of_getElem? hy)).blk b hb).1; omega)
       go_simp
       refine hK.out _ _ ⟨⟨_, R4⟩, X4⟩ (fun hH => ?_)
       clear hK K
       (first | (simp only [zA, zB, zC]) | skip)
       refine zTk 7 40 (.pointer (some ⟨gL, k * 9, none⟩)) rfl (fun w hS => by go_simp) hH ?_; simp only [Act.put, zA, zB, zC]
       refine zTk 8 41 (.agg #[.int .i64 y.p.src, .int .i64 y.p.dst, .int .i64 y.p.kind, .int .i64 y.p.id, .int .i64 y.p.hops, .bool y.p.whole, .int .i64 y.p.off, .bool y.p.more, .slice y.a y.zs.length y.c]) rfl (fun w hS => by obtain ⟨M0, hM0⟩ := hS.1; obtain ⟨y0, y1, y2, y3, y4, y5, y6, y7, y8⟩ := KX.out _ _ hM0 k y hy; go_simp) hH ?_; simp only [Act.put, zA, zB, zC]
       have Y4 : w4.heap[w3.heap.size]? = some (.cells (pcells zeroPk (.slice none 0 0)) 29 (0, 0)) := (G4.block _ (by simp [World.drew]) (fun e => by have := Option.some.inj e; omega)).trans (heap_new _ _ _ rfl)
       obtain ⟨lx, x0, x1, x2, x3, x4, x5, x6, x7, x8⟩ := Boxed.of_block Y4
       have fx : ∀ o, w4.frozen? ⟨w3.heap.size, o, none⟩ = false := fun o => zUf Y4 o
       refine zRd 10 (by kernel_rfl) rfl (fun K hK => ?_)
       go_simp
       have Z := (((((((((R4.set (b := w3.heap.size) (o := 0) l3 (.int .i64 y.p.src)).set (b := w3.heap.size) (o := 1) l3 (.int .i64 y.p.dst)).set (b := w3.heap.size) (o := 2) l3 (.int .i64 y.p.kind)).set (b := w3.heap.size) (o := 3) l3 (.int .i64 y.p.id)).set (b := w3.heap.size) (o := 4) l3 (.int .i64 y.p.hops)).set (b := w3.heap.size) (o := 5) l3 (.bool y.p.whole)).set (b := w3.heap.size) (o := 6) l3 (.int .i64 y.p.off)).set (b := w3.heap.size) (o := 7) l3 (.bool y.p.more)).set (b := w3.heap.size) (o := 8) l3 (.slice y.a y.zs.length y.c))
       have kz : ∀ b, b ≠ w3.heap.size → (((((((((w4.setCell ⟨w3.heap.size, 0, none⟩ (.int .i64 y.p.src)).setCell ⟨w3.heap.size, 1, none⟩ (.int .i64 y.p.dst)).setCell ⟨w3.heap.size, 2, none⟩ (.int .i64 y.p.kind)).setCell ⟨w3.heap.size, 3, none⟩ (.int .i64 y.p.id)).setCell ⟨w3.heap.size, 4, none⟩ (.int .i64 y.p.hops)).setCell ⟨w3.heap.size, 5, none⟩ (.bool y.p.whole)).setCell ⟨w3.heap.size, 6, none⟩ (.int .i64 y.p.off)).setCell ⟨w3.heap.size, 7, none⟩ (.bool y.p.more)).setCell ⟨w3.heap.size, 8, none⟩ (.slice y.a y.zs.length y.c)).heap[b]? = w4.heap[b]? := fun b hb => heap9 _ _ _ hb _ _ _ _ _ _ _ _ _
       refine hK.out _ _ ⟨⟨_, Z⟩, (kz _ (by omega)).trans X4⟩ (fun hH => ?_)
       clear hK K
       (first | (simp only [zA, zB, zC]) | skip)
       clear hH Rd G4 R4' KP KA R4 x0 x1 x2 x3 x4 x5 x6 x7 x8 fx
       refine wpAnyH_done (by kernel_rfl) ?_ _
       go_wp2
       go_meet
       case rel => exact ⟨w3.heap.size, y, rfl, (show MoW _ _ _ _ _ _ _ _ _ _ _ from ⟨Z, D4.kept fun b hb => kz b (fun e => by obtain ⟨_, _, cu, hc⟩ := D4.blk b hb; rw [e, Y4] at hc; cases hc), (show _ = _ by rw [set_at (set_at (set_at (set_at (set_at (set_at (set_at (set_at (set_at Y4))))))))]; rfl), hlo, l3⟩)⟩
     case rest =>
      obtain ⟨bp, y, rfl, M4⟩ := hcut
      obtain ⟨w4, rfl⟩ : ∃ w4, w4 = wc := ⟨_, rfl⟩
      have lbp := M4.out.lbp
      clear R3 X3 KX xa HRL HDL
      go_wp2_with fail
      (with_reducible refine (KP.out 4 (N + 3) _ M4.out.r.rd (by omega) (by omega) (by omega)).mono ?_)
      rintro e w5 ⟨z, rfl, z0', -, -, R5, G5⟩
      have M5 : Hid (MoW w rb (N + 4) lo bp now (some ⟨gs, 0, none⟩) n cl y w5) := M4.out.grown G5 R5
      clear M4 R5 G5
      have KB : Hid (∀ (M : Nat) (x : RV) (u : World), MoW w rb M lo bp now (some ⟨gs, 0, none⟩) n cl x u → Boxed u bp x.p (.slice x.a x.zs.length x.c) ∧ (∀ o, u.frozen? ⟨bp, o, none⟩ = false) ∧ Boxed u (w.heap.size + 1) zeroPk (.slice none 0 0) ∧ (∀ o, u.frozen? ⟨w.heap.size + 1, o, none⟩ = false)) := fun M x u h => ⟨Boxed.of_block h.bx, fun o => zUf h.bx o, Boxed.of_block h.r.res, fun o => zUf h.r.res o⟩
      have KD : Hid (∀ (j M : Nat) (x : RV) (u : World), j ≤ 6 → M ≤ 900000 → MoW w rb M lo bp now (some ⟨gs, 0, none⟩) n cl x u → Calls Tryz.prog 49 #[.pointer (some ⟨rb, 0, none⟩), .int .i64 (4 * (1 + (j : Int)))] u fun e u2 => ∃ (g c : Nat) (zs : List Int), e = .returned (.slice (some ⟨g, 0, none⟩) zs.length c) ∧ MoW w rb (M + 90) lo bp now (some ⟨gs, 0, none⟩) n cl x u2 ∧ MoW w rb (M + 90) lo bp now (some ⟨gs, 0, none⟩) n cl ⟨x.p, some ⟨g, 0, none⟩, c, zs⟩ (u2.setCell ⟨bp, 8, none⟩ (.slice (some ⟨g, 0, none⟩) zs.length c))) := fun j M x u hj hM h => by
       rw [show (4 * (1 + (j : Int))) = ((4 * (1 + j) : Nat) : Int) by omega]
       refine (l5Data_any rb M (4 * (1 + j)) u h.r.rd hM (by omega)).mono ?_
       rintro e u2 ⟨g, c, zs, rfl, o2, R2, G2, hby⟩
       have hl := own_len o2
       rw [← hl] at o2
       rw [← hl]
       have h2 := h.grown G2 (R2.mono (show M + 3 * (4 * (1 + j)) ≤ M + 90 by omega))
       exact ⟨g, c, zs, rfl, h2, h2.set (j := 8) rfl ((DataB.of_own o2 (by omega) hby).le (Nat.le_trans hll h.r.gr.size))⟩
      by_cases hz0 : z = 0
      ·subst hz0
       obtain ⟨⟨lx, c0, c1, c2, c3, c4, c5, c6, c7, c8⟩, fb, ⟨lz, z0, z1, z2, z3, z4, z5, z6, z7, z8⟩, fz⟩ := KB.out _ _ _ M5.out
       have FIN := M5.out.r.fin (M' := N + 3000) M5.out.data (by omega)
       go_wp2
       exact bodyPost_ret (v := .agg #[.int .i64 y.p.src, .int .i64 y.p.dst, .int .i64 y.p.kind, .int .i64 y.p.id, .int .i64 y.p.hops, .bool y.p.whole, .int .i64 y.p.off, .bool y.p.more, .slice y.a y.zs.length y.c]) (by simp [results, Tryz.results55, go_sem, z0, z1, z2, z3, z4, z5, z6, z7, z8]) rfl FIN
      ·have hzb0 : (z == 0) = false := beq_eq_false_iff_ne.2 hz0
       by_cases hz1 : z = 1
       ·subst hz1
        have KQ : Hid (∀ v : Int, Calls Tryz.prog 23 #[.pointer (some ⟨rb, 0, none⟩), .int .i64 2] (w5.setCell ⟨bp, 6, none⟩ (.int .i64 v)) fun e u2 => ∃ (k : Int) (x : RV), e = .returned (.int .i64 k) ∧ MoW w rb (N + 5) lo bp now (some ⟨gs, 0, none⟩) n cl x u2) := fun v => by
         have h6 : MoW w rb (N + 4) lo bp now (some ⟨gs, 0, none⟩) n cl ⟨⟨y.p.src, y.p.dst, y.p.kind, y.p.id, y.p.hops, y.p.whole, v, y.p.more⟩, y.a, y.c, y.zs⟩ (w5.setCell ⟨bp, 6, none⟩ (.int .i64 v)) := M5.out.set (j := 6) rfl M5.out.data.pk
         refine (pick_any rb (N + 4) 2 _ h6.r.rd (by omega) (by omega) (by omega)).mono ?_
         rintro e u2 ⟨k, rfl, -, -, -, R2, G2⟩
         exact ⟨k, _, rfl, h6.grown G2 R2⟩
        obtain ⟨⟨lx, c0, c1, c2, c3, c4, c5, c6, c7, c8⟩, fb, ⟨lz, z0, z1, z2, z3, z4, z5, z6, z7, z8⟩, fz⟩ := KB.out _ _ _ M5.out
        go_wp2_with fail
        (with_reducible refine (KQ.out _).mono ?_)
        rintro e w6 ⟨k, x, rfl, M6⟩
        clear KQ c0 c1 c2 c3 c4 c5 c6 c7 c8 fb lx lz z0 z1 z2 z3 z4 z5 z6 z7 z8 fz
        obtain ⟨⟨lx, c0, c1, c2, c3, c4, c5, c6, c7, c8⟩, fb, ⟨lz, z0, z1, z2, z3, z4, z5, z6, z7, z8⟩, fz⟩ := KB.out _ _ _ M6
        obtain ⟨b, hb⟩ : ∃ b : Bool, (k == 0) = b := ⟨_, rfl⟩
        have M7 : MoW w rb (N + 5) lo bp now (some ⟨gs, 0, none⟩) n cl ⟨⟨x.p.src, x.p.dst, x.p.kind, x.p.id, x.p.hops, x.p.whole, x.p.off, b⟩, x.a, x.c, x.zs⟩ (w6.setCell ⟨bp, 7, none⟩ (.bool b)) := M6.set (j := 7) rfl M6.data.pk
        have FIN := M7.r.fin (M' := N + 3000) M7.data (by omega)
        clear M7 M6
        go_wp2
        exact bodyPost_ret (v := .agg #[.int .i64 x.p.src, .int .i64 x.p.dst, .int .i64 x.p.kind, .int .i64 x.p.id, .int .i64 x.p.hops, .bool x.p.whole, .int .i64 x.p.off, .bool b, .slice x.a x.zs.length x.c]) (by simp [results, Tryz.results55, go_sem, z0, z1, z2, z3, z4, z5, z6, z7, z8]) rfl FIN
       ·have hzb1 : (z == 1) = false := beq_eq_false_iff_ne.2 hz1
        by_cases hz2 : z = 2
        ·subst hz2
         have M5' : MoW w rb (N + 5) lo bp now (some ⟨gs, 0, none⟩) n cl y w5 := M5.out.grown (grown_of_below (Below.refl _ _)) (M5.out.r.rd.mono (by omega))
         have KQ : Hid (Calls Tryz.prog 23 #[.pointer (some ⟨rb, 0, none⟩), .int .i64 6] ((w5.setCell ⟨bp, 6, none⟩ (.int .i64 0)).setCell ⟨bp, 7, none⟩ (.bool true)) fun e u2 => ∃ (k : Nat) (x : RV), k < 6 ∧ e = .returned (.int .i64 k) ∧ MoW w rb (N + 6) lo bp now (some ⟨gs, 0, none⟩) n cl x u2) := by
          have h6 := (M5'.set (j := 6) (v := .int .i64 0) (x' := ⟨⟨y.p.src, y.p.dst, y.p.kind, y.p.id, y.p.hops, y.p.whole, 0, y.p.more⟩, y.a, y.c, y.zs⟩) rfl M5'.data.pk).set (j := 7) (v := .bool true) (x' := ⟨⟨y.p.src, y.p.dst, y.p.kind, y.p.id, y.p.hops, y.p.whole, 0, true⟩, y.a, y.c, y.zs⟩) rfl (M5'.set (j := 6) (v := .int .i64 0) (x' := ⟨⟨y.p.src, y.p.dst, y.p.kind, y.p.id, y.p.hops, y.p.whole, 0, y.p.more⟩, y.a, y.c, y.zs⟩) rfl M5'.data.pk).data.pk
          refine (pick_any rb (N + 5) 6 _ h6.r.rd (by omega) (by omega) (by omega)).mono ?_
          rintro e u2 ⟨k, rfl, k0, k1, -, R2, G2⟩
          have k2 := k1 (by omega)
          obtain ⟨j, rfl⟩ := Int.eq_ofNat_of_zero_le k0
          exact ⟨j, _, by omega, rfl, h6.grown G2 R2⟩
         obtain ⟨⟨lx, c0, c1, c2, c3, c4, c5, c6, c7, c8⟩, fb, ⟨lz, z0, z1, z2, z3, z4, z5, z6, z7, z8⟩, fz⟩ := KB.out _ _ _ M5'
         clear M5'
         go_wp2_with fail
         (with_reducible refine KQ.out.mono ?_)
         rintro e w7 ⟨j, x, hj, rfl, M7⟩
         clear KQ c0 c1 c2 c3 c4 c5 c6 c7 c8 fb lx lz z0 z1 z2 z3 z4 z5 z6 z7 z8 fz
         go_wp2_with fail
         (with_reducible refine (KD.out j (N + 6) x _ (by omega) (by omega) M7).mono ?_)
         rintro e w8 ⟨g, c, zs, rfl, M8, M9⟩
         obtain ⟨⟨lx, c0, c1, c2, c3, c4, c5, c6, c7, c8⟩, fb, ⟨lz, z0, z1, z2, z3, z4, z5, z6, z7, z8⟩, fz⟩ := KB.out _ _ _ M8
         have FIN := M9.r.fin (M' := N + 3000) M9.data (by omega)
         clear M7 M8 M9
         go_wp2
         exact bodyPost_ret (v := .agg #[.int .i64 x.p.src, .int .i64 x.p.dst, .int .i64 x.p.kind, .int .i64 x.p.id, .int .i64 x.p.hops, .bool x.p.whole, .int .i64 x.p.off, .bool x.p.more, .slice (some ⟨g, 0, none⟩) zs.length c]) (by simp [results, Tryz.results55, go_sem, z0, z1, z2, z3, z4, z5, z6, z7, z8]) rfl FIN
        ·have hzb2 : (z == 2) = false := beq_eq_false_iff_ne.2 hz2
         go_wp2_with fail
         (with_reducible refine (KP.out 2 (N + 4) _ M5.out.r.rd (by omega) (by omega) (by omega)).mono ?_)
         rintro e w6 ⟨k, rfl, -, -, -, R6, G6⟩
         have M6 := M5.out.grown G6 R6
         clear R6 G6 M5
         obtain ⟨b, hb⟩ : ∃ b : Bool, (k == 0) = b := ⟨_, rfl⟩
         have KQ : Hid (Calls Tryz.prog 23 #[.pointer (some ⟨rb, 0, none⟩), .int .i64 3] (w6.setCell ⟨bp, 7, none⟩ (.bool b)) fun e u2 => ∃ (k : Nat) (x : RV), k < 3 ∧ e = .returned (.int .i64 k) ∧ MoW w rb (N + 6) lo bp now (some ⟨gs, 0, none⟩) n cl x u2) := by
          have h6 := M6.set (j := 7) (v := .bool b) (x' := ⟨⟨y.p.src, y.p.dst, y.p.kind, y.p.id, y.p.hops, y.p.whole, y.p.off, b⟩, y.a, y.c, y.zs⟩) rfl M6.data.pk
          refine (pick_any rb (N + 5) 3 _ h6.r.rd (by omega) (by omega) (by omega)).mono ?_
          rintro e u2 ⟨k, rfl, k0, k1, -, R2, G2⟩
          have k2 := k1 (by omega)
          obtain ⟨j, rfl⟩ := Int.eq_ofNat_of_zero_le k0
          exact ⟨j, _, by omega, rfl, h6.grown G2 R2⟩
         obtain ⟨⟨lx, c0, c1, c2, c3, c4, c5, c6, c7, c8⟩, fb, ⟨lz, z0, z1, z2, z3, z4, z5, z6, z7, z8⟩, fz⟩ := KB.out _ _ _ M6
         clear M6
         go_wp2_with fail
         (with_reducible refine KQ.out.mono ?_)
         rintro e w7 ⟨j, x, hj, rfl, M7⟩
         clear KQ c0 c1 c2 c3 c4 c5 c6 c7 c8 fb lx lz z0 z1 z2 z3 z4 z5 z6 z7 z8 fz
         go_wp2_with fail
         (with_reducible refine (KD.out j (N + 6) x _ (by omega) (by omega) M7).mono ?_)
         rintro e w8 ⟨g, c, zs, rfl, M8, M9⟩
         obtain ⟨⟨lx, c0, c1, c2, c3, c4, c5, c6, c7, c8⟩, fb, ⟨lz, z0, z1, z2, z3, z4, z5, z6, z7, z8⟩, fz⟩ := KB.out _ _ _ M8
         have FIN := M9.r.fin (M' := N + 3000) M9.data (by omega)
         clear M7 M8 M9
         go_wp2
         exact bodyPost_ret (v := .agg #[.int .i64 x.p.src, .int .i64 x.p.dst, .int .i64 x.p.kind, .int .i64 x.p.id, .int .i64 x.p.hops, .bool x.p.whole, .int .i64 x.p.off, .bool x.p.more, .slice (some ⟨g, 0, none⟩) zs.length c]) (by simp [results, Tryz.results55, go_sem, z0, z1, z2, z3, z4, z5, z6, z7, z8]) rfl FIN
end Go.Proofs.YtjbkgmbakjnlhaaGreatDoor
