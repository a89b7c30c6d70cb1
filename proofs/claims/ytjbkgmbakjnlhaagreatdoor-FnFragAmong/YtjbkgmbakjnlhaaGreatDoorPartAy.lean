import Derived.Test.YtjbkgmbakjnlhaaGreatDoorPartAx
import Derived.Test.YtjbkgmbakjnlhaaGreatDoorSpecJ
import Derived.Test.YtjbkgmbakjnlhaaGreatDoorPartAu
import Derived.Test.YtjbkgmbakjnlhaaGreatDoorPartAa
import Derived.Test.YtjbkgmbakjnlhaaGreatDoorPartAv
namespace Go.Proofs.YtjbkgmbakjnlhaaGreatDoor
set_option maxRecDepth 100000
open Go.RowKit
set_option maxHeartbeats 25600000 in
theorem wfLast_true (gg nG cG : Nat) (G : List RV) (x y : RV) (w : World) (hG : RL w gg G) (hn : G.length = nG) (hn1 : nG < 40) (hx : ROk w x) (hy : ROk w y) (h1 : (joinL (G.map RV.key)).1 ≠ 0) (h2 : joinL ((G ++ [x]).map RV.key) = (0, y.key)) :
  Calls Tryz.prog 18 #[.slice (some ⟨gg, 0, none⟩) nG cG, .agg #[.int .i64 x.p.src, .int .i64 x.p.dst, .int .i64 x.p.kind, .int .i64 x.p.id, .int .i64 x.p.hops, .bool x.p.whole, .int .i64 x.p.off, .bool x.p.more, .slice x.a x.zs.length x.c], .agg #[.int .i64 y.p.src, .int .i64 y.p.dst, .int .i64 y.p.kind, .int .i64 y.p.id, .int .i64 y.p.hops, .bool y.p.whole, .int .i64 y.p.off, .bool y.p.more, .slice y.a y.zs.length y.c]] w fun e w' => e = .returned (.bool true) ∧ Below w.heap.size w w' := by
 obtain ⟨ti, hti, hy0, hy1, hy2⟩ := info_parts Tryz.info9
 have HN : Hid (G.length = nG) := hn
 have HJ0 : Hid (joinL ((G ++ [x]).map RV.key) = (0, y.key)) := h2
 have HGW : Hid (RL w gg G) := hG
 have HXW : Hid (ROk w x) := hx
 have HYW : Hid (ROk w y) := hy
 have KJ : Hid (∀ u, Below w.heap.size w u → Calls Tryz.prog 53 #[.slice (some ⟨gg, 0, none⟩) nG cG] u fun e w' => ∃ (jc : Int) (jp : Pk) (ja : Option Addr) (jn jk : Nat), e = .returned (.tuple #[.agg #[.int .i64 jp.src, .int .i64 jp.dst, .int .i64 jp.kind, .int .i64 jp.id, .int .i64 jp.hops, .bool jp.whole, .int .i64 jp.off, .bool jp.more, .slice ja jn jk], .int .i64 jc]) ∧ (jc != 0) = true ∧ Below u.heap.size u w') := fun u h => by
  have h5 := specJoin_any gg cG G u (hG.below h) (by omega)
  rw [hn] at h5
  refine h5.mono ?_
  rintro e w' ⟨a, c, rfl, -, hb⟩
  exact ⟨_, (joinL (G.map RV.key)).2.1, a, (joinL (G.map RV.key)).2.2.length, c, rfl, bne_iff_ne.2 h1, hb⟩
 clear hG hx hy hn h1 h2
 go_enter Tryz.func18, Tryz.ntmps18
 go_wp2_with fail
 (with_reducible refine (KJ.out _ (Joins.below_alloc2 _ _ _)).mono ?_)
 rintro e w2 ⟨jc, jp, ja, jn, jk, rfl, hjc, b2⟩
 have B2 : Below w.heap.size w w2 := (Joins.below_alloc2 _ _ _).trans (b2.mono (by simp; omega))
 have s2 : w.heap.size + 2 ≤ w2.heap.size := by have := b2.size; simpa using this
 have X2 : w2.heap[w.heap.size]? = some (.cells (pcells x.p (.slice x.a x.zs.length x.c)) 29 (0, 0)) := (b2.block _ (by simp; omega)).trans ((zHa (by simp)).trans (heap_new _ _ _ rfl))
 have Y2 : w2.heap[w.heap.size + 1]? = some (.cells (pcells y.p (.slice y.a y.zs.length y.c)) 29 (0, 0)) := (b2.block _ (by simp)).trans (heap_new _ _ _ (by simp))
 clear b2 KJ
 go_upto_region 2 with fail
 obtain ⟨w3, hw3⟩ : ∃ w3, w3 = w2.alloc (.cells #[.int .i64 jp.src, .int .i64 jp.dst, .int .i64 jp.kind, .int .i64 jp.id, .int .i64 jp.hops, .bool jp.whole, .int .i64 jp.off, .bool jp.more, .slice ja jn jk] 29) := ⟨_, rfl⟩
 rw [← hw3]
 have b3 : Below w2.heap.size w2 w3 := by rw [hw3]; exact zBa _ _
 have HB3 : Hid (Below w.heap.size w w3) := B2.trans (b3.mono (by omega))
 have HBX : Hid (∀ u, Below w3.heap.size w3 u → Boxed u w.heap.size x.p (.slice x.a x.zs.length x.c)) := fun u h => Boxed.of_block ((h.block _ (by have := b3.size; omega)).trans ((b3.block _ (by omega)).trans X2))
 have HBY : Hid (∀ u, Below w3.heap.size w3 u → Boxed u (w.heap.size + 1) y.p (.slice y.a y.zs.length y.c)) := fun u h => Boxed.of_block ((h.block _ (by have := b3.size; omega)).trans ((b3.block _ (by omega)).trans Y2))
 have HRP : Hid (∀ u, Below w3.heap.size w3 u → RL u gg G) := fun u h => (HGW.out.below HB3.out).below h
 have HXR : Hid (∀ u, Below w3.heap.size w3 u → ROk u x) := fun u h => (HXW.out.below HB3.out).below h
 have HYR : Hid (∀ u, Below w3.heap.size w3 u → ROk u y) := fun u h => (HYW.out.below HB3.out).below h
 clear hw3 b3 B2 X2 Y2 HGW HXW HYW
 go_cut [9, 10] from 11 (fun s9 s10 wx => ∃ (z : Nat) (aY : Option Addr) (cY : Nat), s9 = .pointer (some ⟨z, 0, none⟩) ∧ s10 = .int .i64 0 ∧ wx.heap[z]? = some (.cells (pcells y.p (.slice aY y.zs.length cY)) 29 (0, 0)) ∧ wx.ownsRow w3.heap.size 5 1 (.slice aY y.zs.length cY) y.zs.length (y.zs.map (.int .u8)) ∧ Below w3.heap.size w3 wx)
 case first =>
  go_wp2_with fail
  refine wp_region_held_drew (S := fun u => Below w3.heap.size w3 u) (by kernel_rfl) (draw1 _) (fun hH => ?_)
  refine zTk 1 18 (.slice (some ⟨gg, 0, none⟩) nG cG) rfl (fun w hS => by go_simp) hH ?_; simp only [Act.put, zX, zY, zZ]
  refine zTk 3 20 (.agg #[.int .i64 x.p.src, .int .i64 x.p.dst, .int .i64 x.p.kind, .int .i64 x.p.id, .int .i64 x.p.hops, .bool x.p.whole, .int .i64 x.p.off, .bool x.p.more, .slice x.a x.zs.length x.c]) rfl (fun w hS => by obtain ⟨lq, q0, q1, q2, q3, q4, q5, q6, q7, q8⟩ := HBX.out _ hS; go_simp) hH ?_; simp only [Act.put, zX, zY, zZ]
  refine app_region (W := w3) (n := nG) (xs := G.flatMap RV.cells) (ys := x.cells) (yc := pcells x.p (.slice x.a x.zs.length x.c)) (zc := #[.int .i64 0, .int .i64 0, .int .i64 0, .int .i64 0, .int .i64 0, .bool false, .int .i64 0, .bool false, .slice none 0 0]) _ 0 2 4 5 6 10 17 19 21 22 23 9 18 20 (fun b0 b2 b11 b12 b13 bz => #[b0, true, b2, true, b11, b12, b13, false, false, false, bz, false, false]) 5 23 53 (fun u g3 c3 r w' => JoinPost ((G ++ [x]).map RV.key) u (.returned r) w') ⟨gg, 0, none⟩ cG (.agg #[.int .i64 x.p.src, .int .i64 x.p.dst, .int .i64 x.p.kind, .int .i64 x.p.id, .int .i64 x.p.hops, .bool x.p.whole, .int .i64 x.p.off, .bool x.p.more, .slice x.a x.zs.length x.c]) _ _ ti (fun _ h => h) ?g1 ?g2 (by decide) ?g3 rfl rfl ?g4 ?g5 ?g6 rfl rfl rfl rfl rfl rfl rfl rfl ?g7 Tryz.underlying23 hti hy0 hy1 hy2 ?g8 ?g9 (flatR_one _) rfl rfl (rcells_one _) (by omega) ?g10 ?x0 ?x1 _ hH _ (by kernel_rfl) _ (by kernel_rfl)
  case g1 =>
   intro b0 b2 b11 b12 bz
   exact ⟨by kernel_rfl, by kernel_rfl, by kernel_rfl, by kernel_rfl, by kernel_rfl, by kernel_rfl⟩
  case g2 =>
   intro b0 b2 b11 b12 bz
   cases b0 <;> cases b2 <;> cases b11 <;> cases b12 <;> cases bz <;> kernel_rfl
  case g3 => intro d hd; simp at hd; rcases hd with rfl | rfl | rfl | rfl <;> (simp; done)
  case g4 => intro a w K h; exact wpOp_made rfl rfl 17 rfl (by go_simp) h
  case g5 =>
   intro a w K hv h
   simp only [Act.eval, Array.getD_eq_getD_getElem?] at hv
   exact wpOp_made rfl rfl 21 rfl (by go_simp; rfl) h
  case g6 => intro a w K h; exact wpOp_made rfl rfl 9 rfl (by go_simp) h
  case g7 =>
   intro a w K v hv h
   simp only [Act.eval, Array.getD_eq_getD_getElem?] at hv
   exact wpOp_call rfl rfl 23 rfl 53 #[v] (by go_simp) h
  case g8 => rw [flatR_len, HN.out]
  case g9 => intro u hu j v hv; exact (HRP.out u hu).src j v hv
  case g10 =>
   intro u g3 c3 hu ho
   have R := RL.of_cells (xs := G ++ [x]) (by rw [List.flatMap_append]; simpa using ho) (fun y hy => by
    rcases List.mem_append.1 hy with h | h
    ·exact (HRP.out u hu).each y h
    ·rw [List.mem_singleton.1 h]; exact HXR.out u hu)
   have h5 := specJoin_any g3 c3 (G ++ [x]) u R (by simp; have := HN.out; omega)
   rw [List.length_append, HN.out] at h5
   exact h5.mono fun e w' h => joined_ret h
  case x0 =>
   intro e g c y' g3 c3 z u r w' hu hb hp
   obtain ⟨aY, cY, rfl, oY⟩ := joined_at hp HJ0.out
   have hH : Below w3.heap.size w3 w' := hu.trans (hb.mono hu.size)
   have oY' := Joins.ownsRow_le oY hu.size
   clear hp hb oY hu
   simp only [appAct, pf, cond_true, cond_false, Act.put, zX, zY, zZ]
   refine zTk 7 16 (.tuple #[.agg #[.int .i64 y.p.src, .int .i64 y.p.dst, .int .i64 y.p.kind, .int .i64 y.p.id, .int .i64 y.p.hops, .bool y.p.whole, .int .i64 y.p.off, .bool y.p.more, .slice aY y.zs.length cY], .int .i64 0]) rfl (fun w hS => by go_simp) hH ?_; simp only [Act.put, zX, zY, zZ]
   refine zTk 8 24 (.agg #[.int .i64 y.p.src, .int .i64 y.p.dst, .int .i64 y.p.kind, .int .i64 y.p.id, .int .i64 y.p.hops, .bool y.p.whole, .int .i64 y.p.off, .bool y.p.more, .slice aY y.zs.length cY]) rfl (fun w hS => by go_simp) hH ?_; simp only [Act.put, zX, zY, zZ]
   refine zTk 9 25 (.int .i64 0) rfl (fun w hS => by go_simp) hH ?_; simp only [Act.put, zX, zY, zZ]
   refine zRd 10 (by kernel_rfl) rfl (fun K hK => ?_)
   have hzW := hH.size
   have oY'' := own_below oY' (zBa w' (.cells #[.int .i64 0, .int .i64 0, .int .i64 0, .int .i64 0, .int .i64 0, .bool false, .int .i64 0, .bool false, .slice none 0 0] 29))
   go_simp
   refine hK.out _ _ (hH.alloc hH.size _) (fun hH => ?_)
   clear hK K
   have hz : (w'.alloc (.cells #[.int .i64 0, .int .i64 0, .int .i64 0, .int .i64 0, .int .i64 0, .bool false, .int .i64 0, .bool false, .slice none 0 0] 29)).heap[w'.heap.size]? = some (.cells #[.int .i64 0, .int .i64 0, .int .i64 0, .int .i64 0, .int .i64 0, .bool false, .int .i64 0, .bool false, .slice none 0 0] 29 (0, 0)) := heap_new _ _ _ rfl
   refine zRd 11 (by kernel_rfl) rfl (fun K hK => ?_)
   rw [if_pos (by rfl)]
   refine wp_store_row 29 (.tmp 9) (.tmp 24) rfl (w'.heap.size) (pcells y.p (.slice aY y.zs.length cY)) (by rfl) (by rfl) 29 _ hz info9' rfl (pcells_all1 _ _ _ _) ?_
   obtain ⟨f1, f2, f3⟩ := box_row (cs := pcells y.p (.slice aY y.zs.length cY)) hH hz hzW oY''
   refine hK.out _ _ f3 (fun hH => ?_)
   clear hK K
   simp only [Act.put, zX, zY, zZ]
   refine zTk 12 10 (.int .i64 0) rfl (fun w hS => by go_simp) hH ?_; simp only [Act.put, zX, zY, zZ]
   refine wpAnyH_done (by kernel_rfl) ?_ _
   go_wp2_with fail
   go_meet
   case rel => exact ⟨w'.heap.size, aY, cY, rfl, rfl, f1, f2, f3⟩
  case x1 =>
   intro e g c y' g3 c3 z u r w' hu hb hp hz hzW
   obtain ⟨aY, cY, rfl, oY⟩ := joined_at hp HJ0.out
   have hH : Below w3.heap.size w3 w' := hu.trans (hb.mono hu.size)
   have oY' := Joins.ownsRow_le oY hu.size
   clear hp hb oY hu
   simp only [appAct, pf, cond_true, Act.put, zX, zY, zZ]
   refine zTk 7 16 (.tuple #[.agg #[.int .i64 y.p.src, .int .i64 y.p.dst, .int .i64 y.p.kind, .int .i64 y.p.id, .int .i64 y.p.hops, .bool y.p.whole, .int .i64 y.p.off, .bool y.p.more, .slice aY y.zs.length cY], .int .i64 0]) rfl (fun w hS => by go_simp) hH ?_; simp only [Act.put, zX, zY, zZ]
   refine zTk 8 24 (.agg #[.int .i64 y.p.src, .int .i64 y.p.dst, .int .i64 y.p.kind, .int .i64 y.p.id, .int .i64 y.p.hops, .bool y.p.whole, .int .i64 y.p.off, .bool y.p.more, .slice aY y.zs.length cY]) rfl (fun w hS => by go_simp) hH ?_; simp only [Act.put, zX, zY, zZ]
   refine zTk 9 25 (.int .i64 0) rfl (fun w hS => by go_simp) hH ?_; simp only [Act.put, zX, zY, zZ]
   refine zRd 11 (by kernel_rfl) rfl (fun K hK => ?_)
   rw [if_pos (by rfl)]
   refine wp_store_row 29 (.tmp 9) (.tmp 24) rfl (z) (pcells y.p (.slice aY y.zs.length cY)) (by rfl) (by rfl) 29 _ hz info9' rfl (pcells_all1 _ _ _ _) ?_
   obtain ⟨f1, f2, f3⟩ := box_row (cs := pcells y.p (.slice aY y.zs.length cY)) hH hz hzW oY'
   refine hK.out _ _ f3 (fun hH => ?_)
   clear hK K
   simp only [Act.put, zX, zY, zZ]
   refine zTk 12 10 (.int .i64 0) rfl (fun w hS => by go_simp) hH ?_; simp only [Act.put, zX, zY, zZ]
   refine wpAnyH_done (by kernel_rfl) ?_ _
   go_wp2_with fail
   go_meet
   case rel => exact ⟨z, aY, cY, rfl, rfl, f1, f2, f3⟩
 case rest =>
  obtain ⟨z, aY, cY, rfl, rfl, Z4, o4, b4⟩ := hcut
  obtain ⟨w4, rfl⟩ : ∃ w4, w4 = wc := ⟨_, rfl⟩
  have KS : Hid (Calls Tryz.prog 12 #[.agg #[.int .i64 y.p.src, .int .i64 y.p.dst, .int .i64 y.p.kind, .int .i64 y.p.id, .int .i64 y.p.hops, .bool y.p.whole, .int .i64 y.p.off, .bool y.p.more, .slice aY y.zs.length cY], .agg #[.int .i64 y.p.src, .int .i64 y.p.dst, .int .i64 y.p.kind, .int .i64 y.p.id, .int .i64 y.p.hops, .bool y.p.whole, .int .i64 y.p.off, .bool y.p.more, .slice y.a y.zs.length y.c]] w4 fun e w' => e = .returned (.bool true) ∧ Below w4.heap.size w4 w') := wfSame_same y.p aY y.a y.zs.length cY y.c y.zs w4 (RdB.of_own rfl o4) (HYR.out w4 b4).rd (HYR.out w4 b4).len
  obtain ⟨lz, z0, z1, z2, z3, z4, z5, z6, z7, z8⟩ := Boxed.of_block Z4
  obtain ⟨ly, y0, y1, y2, y3, y4, y5, y6, y7, y8⟩ := HBY.out w4 b4
  have HB4 : Hid (Below w.heap.size w w4) := HB3.out.trans (b4.mono HB3.out.size)
  have hnw : IntKind.i64.wrap ((nG : Int) + 1) = (nG : Int) + 1 := by rw [IntKind.wrap_i64]; omega
  have hn40 : ¬ ((nG : Int) + 1 > 40) := by omega
  have hn41 : ¬ ((40 : Int) < (nG : Int) + 1) := by omega
  clear b4 o4 Z4 HBX HBY HRP HXR HYR HB3 HJ0 HN
  go_wp2_with fail
  (with_reducible refine KS.out.mono ?_)
  rintro e w5 ⟨rfl, b5⟩
  have FIN : Hid (Below w.heap.size w w5) := HB4.out.trans (b5.mono HB4.out.size)
  clear b5 HB4 KS
  go_wp2
  go_ret
  exact ⟨rfl, FIN.out⟩
theorem bytes_cov {L : List PB} : ∀ (n : Nat) (bs : List Int), bytesL L n = some bs → ∀ j, j < n → Cov L j := by
 intro n
 induction n with
 | zero => intro bs _ j hj; omega
 | succ n ih =>
  intro bs h j hj
  unfold bytesL at h
  split at h
  ·rename_i bs' x hb hf
   rcases Nat.lt_or_ge j n with hlt | hge
   ·exact ih bs' hb j hlt
   ·obtain rfl : j = n := by omega
    have h1 := List.find?_some hf
    have h2 := List.mem_of_find?_eq_some hf
    unfold hasB endOf at h1
    rw [Bool.and_eq_true, decide_eq_true_eq, decide_eq_true_eq] at h1
    exact ⟨x, h2, h1⟩
  ·cases h
theorem piece_ok {p : Pk} {zs : List Int} {x : PB} (hw : WholeOk p zs.length) (h : PieceOf p zs x) : okB x.1 x.2.length = true := by
 obtain ⟨m, l, h⟩ := h
 exact h.ok hw
theorem pieces_join {p : Pk} {zs : List Int} {L : List PB} (hw : WholeOk p zs.length) (he : ∀ y ∈ L, PieceOf p zs y) (hne : L ≠ []) (hl : L.length ≤ 40) : (Ways p zs L ∧ joinL L = (0, (p, zs))) ∨ (¬ Ways p zs L ∧ (joinL L).1 = 3) := by
 by_cases h : Ways p zs L
 ·exact Or.inl ⟨h, join_ways hw h hl⟩
 refine Or.inr ⟨h, ?_⟩
 have ha : alikeL L = true := (alikeL_iff L).2 ⟨hne, hl, fun x hx y hy => (alikeB_iff x y).2 (by
  obtain ⟨a1, a2, a3, a4, -⟩ := piece_key (he x hx)
  obtain ⟨b1, b2, b3, b4, -⟩ := piece_key (he y hy)
  exact ⟨piece_ok hw (he x hx), piece_ok hw (he y hy), a1.trans b1.symm, a2.trans b2.symm, a3.trans b3.symm, a4.trans b4.symm⟩)⟩
 have hd : disagreeL L = false := by
  cases e : disagreeL L with
  | false => rfl
  | true =>
   obtain ⟨x, hx, y, hy, hxy⟩ := (disagreeL_iff L).1 e
   rw [against_no (he x hx) (he y hy)] at hxy
   cases hxy
 unfold joinL
 rw [if_pos ha, if_neg (by rw [hd]; decide)]
 cases hE : endL L with
 | none => rfl
 | some e =>
  simp only
  cases hB : bytesL L e.toNat with
  | none => rfl
  | some bs =>
   exfalso
   unfold endL at hE
   rw [Option.map_eq_some_iff] at hE
   obtain ⟨y, hy, rfl⟩ := hE
   have h1 := List.find?_some hy
   have h2 := List.mem_of_find?_eq_some hy
   obtain ⟨m, l, hp⟩ := he y h2
   have hm : y.1.more = false := by simpa using h1
   have h3 := hp.moreIs
   rw [hm] at h3
   have h4 := of_decide_eq_false h3.symm
   have h5 := hp.2.2.2.1
   have h6 := hp.endIs
   rw [h6] at hB
   exact h ⟨he, fun j hj => bytes_cov _ bs hB j (by simp; omega), ⟨y, h2, hm⟩⟩
theorem ways_nil {p : Pk} {zs : List Int} : ¬ Ways p zs [] := fun h => by
 obtain ⟨y, hy, _⟩ := h.ends
 cases hy
theorem ways_mem {p : Pk} {zs : List Int} {L L' : List PB} (h : ∀ y, y ∈ L ↔ y ∈ L') : Ways p zs L ↔ Ways p zs L' := ⟨fun w => w.mix (fun y => (h y).1) (fun y => (h y).2), fun w => w.mix (fun y => (h y).2) (fun y => (h y).1)⟩
theorem nodup_le {α : Type} [DecidableEq α] : ∀ (l m : List α), l.Nodup → (∀ x ∈ l, x ∈ m) → l.length ≤ m.length
 | [], m, _, _ => by simp
 | x :: l, m, hn, hs => by
  have hx := hs x (List.mem_cons_self ..)
  rw [List.nodup_cons] at hn
  have h1 := nodup_le l (m.erase x) hn.2 (fun y hy => (List.mem_erase_of_ne (fun e : y = x => hn.1 (e ▸ hy))).2 (hs y (List.mem_cons_of_mem _ hy)))
  rw [List.length_erase_of_mem hx] at h1
  have h2 : 0 < m.length := List.length_pos_of_mem hx
  simp only [List.length_cons]
  omega
def keys4 (p : Pk) : List K4 := [k4of p, (0, 0, 1, 0), (1, 0, 1, 0), (2, 0, 1, 0)]
structure Am (p : Pk) (ks : List SK) (G : List PB) : Prop where
 nd : (ks.map keyS).Nodup
 mem : ∀ s ∈ ks, ∃ k ∈ keys4 p, keyS s = some k
 non : G = [] → ∀ s ∈ ks, keyS s ≠ some (k4of p)
 som : G ≠ [] → ∃ s ∈ ks, keyS s = some (k4of p) ∧ s.2.2 = false ∧ (∀ y, y ∈ s.1 ↔ y ∈ G) ∧ s.1.length ≤ G.length
theorem Am.nil (p : Pk) : Am p [] [] := ⟨by simp, (fun s h => by cases h), (fun _ s h => by cases h), fun h => absurd rfl h⟩
theorem Am.room {p : Pk} {ks : List SK} {G : List PB} {k : K4} (h : Am p ks G) (hk : k ∈ keys4 p) (hn : ∀ s ∈ ks, keyS s ≠ some k) : roomK ks = ks := by
 have h1 := nodup_le (some k :: ks.map keyS) ((keys4 p).map some) (List.nodup_cons.2 ⟨fun hm => by
  obtain ⟨s, hs, e⟩ := List.mem_map.1 hm
  exact hn s hs e, h.nd⟩) (fun o ho => by
  rcases List.mem_cons.1 ho with rfl | ho
  ·exact List.mem_map.2 ⟨k, hk, rfl⟩
  ·obtain ⟨s, hs, rfl⟩ := List.mem_map.1 ho
   obtain ⟨k', hk', e⟩ := h.mem s hs
   exact List.mem_map.2 ⟨k', hk', e.symm⟩)
 simp [keys4] at h1
 unfold roomK
 rw [if_neg (by omega)]
theorem Am.at_ {p : Pk} {ks : List SK} {G : List PB} {s : SK} {now : Int} {x : PB} (h : Am p ks G) (hs : s ∈ ks) (hk : keyS s = some (k4of x.1)) : ∃ i, ks[i]? = some s ∧ pieceK now ks x = putK ks i s x := by
 obtain ⟨i, hi⟩ := List.getElem?_of_mem hs
 refine ⟨i, hi, piece_at hi hk fun j t hj ht e => ?_⟩
 have hp := List.pairwise_iff_getElem.1 h.nd
 obtain ⟨h1, h1'⟩ := List.getElem?_eq_some_iff.1 hi
 obtain ⟨h2, h2'⟩ := List.getElem?_eq_some_iff.1 ht
 have := hp j i (by rw [List.length_map]; exact h2) (by rw [List.length_map]; exact h1) hj
 rw [List.getElem_map, List.getElem_map, h1', h2', hk, e] at this
 exact this rfl
theorem keys_set {ks : List SK} {i : Nat} {s t : SK} (hi : ks[i]? = some s) (hk : keyS t = keyS s) : (ks.set i t).map keyS = ks.map keyS := by
 rw [List.map_set, hk]
 obtain ⟨h1, h2⟩ := List.getElem?_eq_some_iff.1 hi
 have h3 : keyS s = (ks.map keyS)[i]'(by rw [List.length_map]; exact h1) := by rw [List.getElem_map, h2]
 rw [h3, List.set_getElem_self]
theorem keyS_app {s : SK} {k : K4} (x : PB) (o : Int) (b : Bool) (h : keyS s = some k) : keyS (s.1 ++ [x], o, b) = keyS s := by
 obtain ⟨L, a, c⟩ := s
 cases L with
 | nil => cases h
 | cons z r => rfl
theorem keyS_spoil (s : SK) : keyS (spoilK s) = keyS s := by
 obtain ⟨L, a, c⟩ := s
 cases L <;> rfl
theorem Am.set {p : Pk} {ks : List SK} {G : List PB} {i : Nat} {s t : SK} (h : Am p ks G) (hi : ks[i]? = some s) (hk : keyS t = keyS s) (hn : keyS s ≠ some (k4of p)) : Am p (ks.set i t) G := by
 have hmem : ∀ u ∈ ks.set i t, u = t ∨ u ∈ ks := fun u hu => by
  rcases List.mem_or_eq_of_mem_set hu with h1 | h1
  ·exact Or.inr h1
  ·exact Or.inl h1
 have hs := List.mem_of_getElem? hi
 refine ⟨by rw [keys_set hi hk]; exact h.nd, fun u hu => ?_, fun hG u hu => ?_, fun hG => ?_⟩
 ·rcases hmem u hu with rfl | h1
  ·obtain ⟨k, h2, h3⟩ := h.mem s hs
   exact ⟨k, h2, hk.trans h3⟩
  ·exact h.mem u h1
 ·rcases hmem u hu with rfl | h1
  ·rw [hk]; exact hn
  ·exact h.non hG u h1
 ·obtain ⟨u, hu, r1, r⟩ := h.som hG
  obtain ⟨j, hj⟩ := List.getElem?_of_mem hu
  have hne : i ≠ j := fun e => by
   subst e
   rw [hi] at hj
   obtain rfl := Option.some.inj hj
   exact hn r1
  exact ⟨u, List.mem_of_getElem? (i := j) (by rw [List.getElem?_set_ne hne]; exact hj), r1, r⟩
theorem Am.erase {p : Pk} {ks : List SK} {G : List PB} {i : Nat} {s : SK} (h : Am p ks G) (hi : ks[i]? = some s) (hn : keyS s ≠ some (k4of p)) : Am p (ks.eraseIdx i) G := by
 refine ⟨?_, fun u hu => h.mem u (List.mem_of_mem_eraseIdx hu), fun hG u hu => h.non hG u (List.mem_of_mem_eraseIdx hu), fun hG => ?_⟩
 ·rw [map_erase']
  exact h.nd.sublist (List.eraseIdx_sublist ..)
 ·obtain ⟨u, hu, r1, r⟩ := h.som hG
  obtain ⟨j, hj⟩ := List.getElem?_of_mem hu
  exact ⟨u, List.mem_eraseIdx_iff_getElem?.2 ⟨j, fun e => (by
   subst e
   rw [hi] at hj
   obtain rfl := Option.some.inj hj
   exact hn r1), hj⟩, r1, r⟩
theorem told_src {s : SK} {x : PB} {k : K4} (hs : keyS s = some k) (h : (joinL (s.1 ++ [x])).1 = 0) : (joinL (s.1 ++ [x])).2.1.src = k.1 := by
 obtain ⟨e, bs, -, -, -, h4⟩ := join_parts h
 rw [h4]
 obtain ⟨L, a, c⟩ := s
 cases L with
 | nil => cases hs
 | cons z r =>
  have : k4of z.1 = k := Option.some.inj hs
  rw [← this]
  rfl
theorem Am.other {p : Pk} {ks ks' : List SK} {G : List PB} {x y : PB} {now c : Int} (h : Am p ks G) (h9 : p.src = 9) (hx : k4of x.1 ∈ [((0, 0, 1, 0) : K4), (1, 0, 1, 0), (2, 0, 1, 0)]) (hk : takeK now ks x = (ks', y, c)) : Am p ks' G ∧ (c = 0 → y.1.src ≠ 9) := by
 have hs : x.1.src = 0 ∨ x.1.src = 1 ∨ x.1.src = 2 := by
  simp only [List.mem_cons, List.not_mem_nil, or_false] at hx
  rcases hx with e | e | e
  ·exact Or.inl (congrArg Prod.fst e)
  ·exact Or.inr (Or.inl (congrArg Prod.fst e))
  ·exact Or.inr (Or.inr (congrArg Prod.fst e))
 have hx4 : k4of x.1 ∈ keys4 p := List.mem_cons_of_mem _ hx
 have hne : k4of x.1 ≠ k4of p := fun e => by
  have e1 : x.1.src = p.src := congrArg Prod.fst e
  omega
 unfold takeK at hk
 split at hk
 ·split at hk
  ·cases hk
   exact ⟨h, fun _ => by omega⟩
  ·by_cases hex : ∃ s ∈ ks, keyS s = some (k4of x.1)
   ·obtain ⟨s, hs1, hs2⟩ := hex
    obtain ⟨i, hi, e⟩ := h.at_ (now := now) hs1 hs2
    rw [e] at hk
    have hsn : keyS s ≠ some (k4of p) := fun e => hne (Option.some.inj (hs2.symm.trans e))
    unfold putK at hk
    split at hk
    ·cases hk; exact ⟨h, fun h0 => by cases h0⟩
    ·split at hk
     ·cases hk; exact ⟨h, fun h0 => by cases h0⟩
     ·split at hk
      ·cases hk; exact ⟨h.set hi (keyS_spoil s) hsn, fun h0 => by cases h0⟩
      ·split at hk
       ·rename_i hj
        cases hk
        refine ⟨h.erase hi hsn, fun _ => ?_⟩
        rw [told_src hs2 hj]
        show x.1.src ≠ 9
        omega
       ·split at hk
        ·cases hk; exact ⟨h.set hi (keyS_app x _ _ hs2) hsn, fun h0 => by cases h0⟩
        ·cases hk; exact ⟨h.set hi (keyS_spoil s) hsn, fun h0 => by cases h0⟩
   ·have hno : ∀ s ∈ ks, keyS s ≠ some (k4of x.1) := fun s hs1 hs2 => hex ⟨s, hs1, hs2⟩
    rw [piece_none hno, h.room hx4 hno] at hk
    cases hk
    refine ⟨⟨?_, fun s hs => ?_, fun hG s hs => ?_, fun hG => ?_⟩, fun h0 => by cases h0⟩
    ·rw [List.map_append, List.nodup_append]
     refine ⟨h.nd, by simp, fun a ha b hb e => ?_⟩
     obtain ⟨s, hs1, rfl⟩ := List.mem_map.1 ha
     rw [List.map_cons, List.map_nil, List.mem_singleton] at hb
     exact hno s hs1 (e.trans hb)
    ·rcases List.mem_append.1 hs with h1 | h1
     ·exact h.mem s h1
     ·rw [List.mem_singleton.1 h1]
      exact ⟨_, hx4, rfl⟩
    ·rcases List.mem_append.1 hs with h1 | h1
     ·exact h.non hG s h1
     ·rw [List.mem_singleton.1 h1]
      exact fun e => hne (Option.some.inj e)
    ·obtain ⟨s, hs, r⟩ := h.som hG
     exact ⟨s, List.mem_append_left _ hs, r⟩
 ·cases hk
  exact ⟨h, fun h0 => by cases h0⟩
theorem Am.mine {p : Pk} {ds : List Int} {ks ks' : List SK} {G : List PB} {x y : PB} {now c : Int} (h : Am p ks G) (hw : WholeOk p ds.length) (hG : ∀ z ∈ G, PieceOf p ds z) (hx : PieceOf p ds x) (hxw : ¬ (x.1.off = 0 ∧ x.1.more = false)) (hl : G.length < 40) (hd : 0 < ds.length) (hn : ¬ Ways p ds G) (hk : takeK now ks x = (ks', y, c)) :
  (c = 0 ∧ y = (p, ds) ∧ Ways p ds (G ++ [x])) ∨ (c ≠ 0 ∧ Am p ks' (G ++ [x]) ∧ ¬ Ways p ds (G ++ [x])) := by
 have hxk : k4of x.1 = k4of p := by
  obtain ⟨a1, a2, a3, a4, -⟩ := piece_key hx
  simp only [k4of, a1, a2, a3, a4]
 have hne : G ++ [x] ≠ [] := by simp
 unfold takeK at hk
 rw [if_pos (piece_ok hw hx), if_neg hxw] at hk
 by_cases hG0 : G = []
 ·subst hG0
  have hno : ∀ s ∈ ks, keyS s ≠ some (k4of x.1) := fun s hs => by rw [hxk]; exact h.non rfl s hs
  rw [piece_none hno, h.room (by rw [hxk]; exact List.mem_cons_self ..) hno] at hk
  cases hk
  refine Or.inr ⟨by decide, ⟨?_, fun s hs => ?_, fun h0 => absurd h0 hne, fun _ => ⟨_, List.mem_append_right _ (List.mem_singleton.2 rfl), congrArg some hxk, rfl, fun y => Iff.rfl, Nat.le_refl _⟩⟩, fun hW => ?_⟩
  ·rw [List.map_append, List.nodup_append]
   refine ⟨h.nd, by simp, fun a ha b hb e => ?_⟩
   obtain ⟨s, hs1, rfl⟩ := List.mem_map.1 ha
   rw [List.map_cons, List.map_nil, List.mem_singleton] at hb
   exact hno s hs1 (e.trans hb)
  ·rcases List.mem_append.1 hs with h1 | h1
   ·exact h.mem s h1
   ·rw [List.mem_singleton.1 h1]
    exact ⟨_, List.mem_cons_self .., congrArg some hxk⟩
  ·obtain ⟨z, hz, hm⟩ := hW.ends
   obtain rfl := List.mem_singleton.1 hz
   obtain ⟨z', hz', h1, h2⟩ := hW.cov 0 hd
   obtain rfl := List.mem_singleton.1 hz'
   obtain ⟨m, l, hp⟩ := hx
   have h3 := hp.off
   exact hxw ⟨by omega, hm⟩
 ·obtain ⟨s, hs, hsk, hsb, hsm, hsl⟩ := h.som hG0
  obtain ⟨i, hi, e⟩ := h.at_ (now := now) hs (hsk.trans (congrArg some hxk.symm))
  rw [e] at hk
  by_cases hxs : x ∈ s.1
  ·rw [put_told hsb hxs] at hk
   cases hk
   have hset : ∀ y, y ∈ G ++ [x] ↔ y ∈ G := fun y => ⟨fun hy => by
    rcases List.mem_append.1 hy with h1 | h1
    ·exact h1
    ·rw [List.mem_singleton.1 h1]; exact (hsm x).1 hxs, fun hy => List.mem_append_left _ hy⟩
   refine Or.inr ⟨by decide, ⟨h.nd, h.mem, fun h0 => absurd h0 hne, fun _ => ⟨s, hs, hsk, hsb, fun y => (hsm y).trans (hset y).symm, by rw [List.length_append]; omega⟩⟩, fun hW => hn ((ways_mem hset).1 hW)⟩
  ·have hset : ∀ y, y ∈ s.1 ++ [x] ↔ y ∈ G ++ [x] := fun y => by rw [List.mem_append, List.mem_append, hsm y]
   have hp : ∀ y ∈ s.1 ++ [x], PieceOf p ds y := fun y hy => by
    rcases List.mem_append.1 hy with h1 | h1
    ·exact hG y ((hsm y).1 h1)
    ·rw [List.mem_singleton.1 h1]; exact hx
   rcases pieces_join hw hp (by simp) (by rw [List.length_append]; simp; omega) with ⟨hW, hj⟩ | ⟨hW, hj⟩
   ·rw [put_goes hsb hxs (by omega) (by rw [hj])] at hk
    rw [hj] at hk
    cases hk
    exact Or.inl ⟨rfl, rfl, (ways_mem hset).1 hW⟩
   ·rw [put_grows hsb hxs (by omega) hj] at hk
    cases hk
    have hk2 : keyS (s.1 ++ [x], s.2.1, s.2.2) = keyS s := keyS_app x _ _ hsk
    obtain ⟨h1, h1'⟩ := List.getElem?_eq_some_iff.1 hi
    refine Or.inr ⟨by decide, ⟨by rw [keys_set hi hk2]; exact h.nd, fun u hu => ?_, fun h0 => absurd h0 hne, fun _ => ⟨_, List.mem_of_getElem? (i := i) (List.getElem?_set_self h1), hk2.trans hsk, hsb, hset, by simp only [List.length_append]; omega⟩⟩, fun hW2 => hW ((ways_mem hset).2 hW2)⟩
    rcases List.mem_or_eq_of_mem_set hu with h2 | h2
    ·exact h.mem u h2
    ·rw [h2, hk2]; exact h.mem s hs
theorem among_before {p : Pk} {ds : List Int} {G : List PB} (hw : WholeOk p ds.length) (hG : ∀ z ∈ G, PieceOf p ds z) (hn : ¬ Ways p ds G) : (joinL G).1 ≠ 0 := by
 by_cases h0 : G = []
 ·subst h0
  decide
 by_cases hl : G.length ≤ 40
 ·rcases pieces_join hw hG h0 hl with ⟨h, _⟩ | ⟨_, h⟩
  ·exact absurd h hn
  ·omega
 ·rw [join_many (by omega)]
  decide
def Mine (p : Pk) (ds : List Int) (y : PV) : Prop := PieceOf p ds y.key ∧ ¬ (y.p.off = 0 ∧ y.p.more = false)
def Oth (y : PV) : Prop := k4of y.p ∈ [((0, 0, 1, 0) : K4), (1, 0, 1, 0), (2, 0, 1, 0)]
def is9 (y : PV) : Bool := y.p.src == 9
structure Drawn (p : Pk) (ds : List Int) (qs : List PV) : Prop where
 each : ∀ y ∈ qs, (y.p.src = 9 ∧ Mine p ds y) ∨ Oth y
 ways : Ways p ds ((qs.filter is9).map PV.key)
 few : (qs.filter is9).length ≤ 40
 fine : Fine qs
theorem Oth.src {y : PV} (h : Oth y) : y.p.src = 0 ∨ y.p.src = 1 ∨ y.p.src = 2 := by
 have h' : k4of y.p ∈ [((0, 0, 1, 0) : K4), (1, 0, 1, 0), (2, 0, 1, 0)] := h
 simp only [List.mem_cons, List.not_mem_nil, or_false] at h'
 rcases h' with e | e | e
 ·exact Or.inl (congrArg Prod.fst e)
 ·exact Or.inr (Or.inl (congrArg Prod.fst e))
 ·exact Or.inr (Or.inr (congrArg Prod.fst e))
theorem Oth.not9 {y : PV} (h : Oth y) : is9 y = false := by
 have := h.src
 unfold is9
 rw [beq_eq_false_iff_ne]
 omega
theorem Drawn.ins {p : Pk} {ds : List Int} {qs : List PV} {y : PV} (h : Drawn p ds qs) (hy : Oth y) (hl : y.zs.length ≤ 1048576) (hb : ∀ z ∈ y.zs, 0 ≤ z ∧ z ≤ 255) (k : Nat) : Drawn p ds (qs.take k ++ [y] ++ qs.drop k) := by
 have e : (qs.take k ++ [y] ++ qs.drop k).filter is9 = qs.filter is9 := by
  rw [List.filter_append, List.filter_append, List.filter_cons, if_neg (by rw [hy.not9]; decide), List.filter_nil, List.append_nil, ← List.filter_append, List.take_append_drop]
 have hm : ∀ z ∈ qs.take k ++ [y] ++ qs.drop k, z = y ∨ z ∈ qs := fun z hz => by
  rcases List.mem_append.1 hz with h1 | h1
  ·rcases List.mem_append.1 h1 with h2 | h2
   ·exact Or.inr (List.mem_of_mem_take h2)
   ·exact Or.inl (List.mem_singleton.1 h2)
  ·exact Or.inr (List.mem_of_mem_drop h1)
 refine ⟨fun z hz => ?_, by rw [e]; exact h.ways, by rw [e]; exact h.few, fun z hz => ?_⟩
 ·rcases hm z hz with rfl | h1
  ·exact Or.inr hy
  ·exact h.each z h1
 ·rcases hm z hz with rfl | h1
  ·exact ⟨hl, hb⟩
  ·exact h.fine z h1
theorem cut_part {p : Pk} {ds : List Int} {most : Int} (hw : WholeOk p ds.length) (h0 : 12 ≤ most) (h1 : most < 8 + ds.length) : (∀ y ∈ cutL p ds most, ¬ (y.1.off = 0 ∧ y.1.more = false)) ∧ (cutL p ds most).length ≤ 32 := by
 obtain ⟨hok, hwh, hof, hmo⟩ := hw
 have h128 := (ok_parts hok).2.2.2.2.2.2
 rw [hof] at h128
 obtain ⟨c4, c0⟩ := cutN_facts h0
 have hcn : (cutN most : Int) ≤ most - 8 := by unfold cutN; omega
 have e : cutL p ds most = cutTo p ds (cutN most) ((ds.length + cutN most - 1) / cutN most) := by
  unfold cutL
  rw [if_pos hok, if_neg (by omega), if_neg (by omega), if_neg (by rw [hwh]; decide)]
 rw [e]
 unfold cutTo
 refine ⟨fun y hy => ?_, ?_⟩
 ·obtain ⟨i, _, rfl⟩ := List.mem_map.1 hy
  rintro ⟨e1, e2⟩
  have e3 : p.off + ((i * cutN most : Nat) : Int) = 0 := e1
  have e4 : (if i * cutN most + cutN most < ds.length then true else p.more) = false := e2
  rw [if_pos (by omega)] at e4
  cases e4
 ·rw [List.length_map, List.length_range]
  have : (ds.length + cutN most - 1) / cutN most ≤ (ds.length + cutN most - 1) / 4 := Nat.div_le_div_left c4 (by omega)
  rcases Nat.lt_or_ge ((ds.length + cutN most - 1) / cutN most) 33 with h | h
  ·omega
  ·have h2 : 33 * cutN most ≤ ds.length + cutN most - 1 := Nat.le_trans (Nat.mul_le_mul_right _ h) (Nat.div_mul_le_self _ _)
   omega
theorem Drawn.start {p : Pk} {ds : List Int} {ps qs : List PV} {most : Int} (hw : WholeOk p ds.length) (h9 : p.src = 9) (hby : ∀ z ∈ ds, 0 ≤ z ∧ z ≤ 255) (hk : ps.map PV.key = cutL p ds most) (h0 : 12 ≤ most) (h1 : most < 8 + ds.length) (hl : ds.length ≤ 200) (q1 : ∀ y ∈ qs, y ∈ ps) (q2 : ∀ y ∈ ps, y ∈ qs) (hn : qs.length ≤ ps.length + 3) : Drawn p ds qs := by
 obtain ⟨c1, c2⟩ := cut_part hw h0 h1
 have hps : ps.length ≤ 32 := by rw [← hk, List.length_map] at c2; exact c2
 have hpc : ∀ y ∈ qs, PieceOf p ds y.key := fun y hy => cut_piece hw (piece_whole hw) h0 y.key (by rw [← hk]; exact List.mem_map.2 ⟨y, q1 y hy, rfl⟩)
 have h9' : ∀ y ∈ qs, y.p.src = 9 := fun y hy => (piece_key (hpc y hy)).1.trans h9
 have e : qs.filter is9 = qs := List.filter_eq_self.2 fun y hy => by unfold is9; rw [h9' y hy]; rfl
 refine ⟨fun y hy => Or.inl ⟨h9' y hy, hpc y hy, c1 y.key (by rw [← hk]; exact List.mem_map.2 ⟨y, q1 y hy, rfl⟩)⟩, ?_, by rw [e]; omega, fun y hy => ?_⟩
 ·rw [e]
  refine (ways_once hw h0).mix (fun y hy => ?_) (fun y hy => ?_)
  ·rw [← hk] at hy
   obtain ⟨z, hz, rfl⟩ := List.mem_map.1 hy
   exact List.mem_map.2 ⟨z, q2 z hz, rfl⟩
  ·obtain ⟨z, hz, rfl⟩ := List.mem_map.1 hy
   rw [← hk]
   exact List.mem_map.2 ⟨z, q1 z hz, rfl⟩
 ·obtain ⟨m, l, hp⟩ := hpc y hy
  have e1 : y.zs = (ds.drop m).take l := hp.2.1
  have e2 : y.zs.length ≤ ds.length := by rw [e1]; simp; omega
  exact ⟨by omega, fun z hz => hby z (by rw [e1] at hz; exact List.mem_of_mem_drop (List.mem_of_mem_take hz))⟩
def AmongPost (w : World) (e : Ending) (w' : World) : Prop :=
 ∃ (p : Pk) (gp cp : Nat) (ds : List Int) (gq cq : Nat) (qs : List PV), e = .returned (.tuple #[p.val (.slice (some ⟨gp, 0, none⟩) ds.length cp), .slice (some ⟨gq, 0, none⟩) qs.length cq]) ∧ WholeOk p ds.length ∧ p.src = 9 ∧ 0 < ds.length ∧ ds.length ≤ 200 ∧ (∀ z ∈ ds, 0 ≤ z ∧ z ≤ 255) ∧ w'.ownsRow w.heap.size 5 1 (.slice (some ⟨gp, 0, none⟩) ds.length cp) ds.length (ds.map (.int .u8)) ∧ PL w' w.heap.size (.slice (some ⟨gq, 0, none⟩) qs.length cq) qs ∧ Drawn p ds qs ∧ qs.length ≤ 100 ∧ Below w.heap.size w w'
end Go.Proofs.YtjbkgmbakjnlhaaGreatDoor
