import Derived.Test.YtjbkgmbakjnlhaaGreatDoorPartBa
import Derived.Test.YtjbkgmbakjnlhaaGreatDoorPartAw
import Derived.Test.YtjbkgmbakjnlhaaGreatDoorPartAx
import Derived.Test.YtjbkgmbakjnlhaaGreatDoorPartAy
import Derived.Test.YtjbkgmbakjnlhaaGreatDoorPartAz
import Derived.Test.YtjbkgmbakjnlhaaGreatDoorITake
namespace Go.Proofs.YtjbkgmbakjnlhaaGreatDoor
set_option maxRecDepth 100000
open Go.RowKit
theorem among_post {w v : World} {p : Pk} {g c b5 rb lo gq m cq : Nat} {ds : List Int} {qs : List PV} (h9 : p.src = 9) (hw : WholeOk p ds.length) (h0 : 0 < ds.length) (hl : ds.length ≤ 200) (hby : ∀ z ∈ ds, 0 ≤ z ∧ z ≤ 255) (h : WS w v p g c ds.length b5 rb lo ds) (hm : qs.length = m) (hq : PL v (b5 + 1) (.slice (some ⟨gq, 0, none⟩) m cq) qs) (hD : Drawn p ds qs) (hn : m ≤ 100) {x0 x1 x2 x3 x4 x5 x6 x7 x8 : Value} :
  AmongPost w (.returned (.tuple #[.agg #[.int .i64 p.src, .int .i64 p.dst, .int .i64 p.kind, .int .i64 p.id, .int .i64 p.hops, .bool p.whole, .int .i64 p.off, .bool p.more, .slice (some ⟨g, 0, none⟩) ds.length c], .slice (some ⟨gq, 0, none⟩) m cq])) (((((((((v.setCell ⟨w.heap.size, 0, none⟩ x0).setCell ⟨w.heap.size, 1, none⟩ x1).setCell ⟨w.heap.size, 2, none⟩ x2).setCell ⟨w.heap.size, 3, none⟩ x3).setCell ⟨w.heap.size, 4, none⟩ x4).setCell ⟨w.heap.size, 5, none⟩ x5).setCell ⟨w.heap.size, 6, none⟩ x6).setCell ⟨w.heap.size, 7, none⟩ x7).setCell ⟨w.heap.size, 8, none⟩ x8) := by
 subst hm
 have h1 := h.lo5
 have h2 := h.rbl
 have h3 := h.rbw
 refine ⟨p, g, c, ds, gq, cq, qs, rfl, hw, h9, h0, hl, hby, Joins.ownsRow_le (own9 h.own (by omega) _ _ _ _ _ _ _ _ _) (by omega), (PL.kept hq (fun k h1 h2 => heap9 _ _ _ (by omega) _ _ _ _ _ _ _ _ _)).le (by omega), hD, hn, below9 h.bel (Nat.le_refl _) _ _ _ _ _ _ _ _ _⟩
set_option maxHeartbeats 25600000 in
theorem drawAmong_any (a : Option Addr) (len cap : Nat) (zs : List Int) (w : World) (hr : RdB w a len zs) (hz : ∀ z ∈ zs, 0 ≤ z ∧ z ≤ 255) (hc : len ≤ cap) (hl : len ≤ 1048576) :
  Calls Tryz.prog 17 #[.slice a len cap] w (AmongPost w) := by
 have KO : Hid (Calls Tryz.prog 22 #[.slice a len cap] (w.alloc (.cells #[.int .i64 0, .int .i64 0, .int .i64 0, .int .i64 0, .int .i64 0, .bool false, .int .i64 0, .bool false, .slice none 0 0] 29)) fun e w1 => ∃ rb, e = .returned (.pointer (some ⟨rb, 0, none⟩)) ∧ (w.alloc (.cells #[.int .i64 0, .int .i64 0, .int .i64 0, .int .i64 0, .int .i64 0, .bool false, .int .i64 0, .bool false, .slice none 0 0] 29)).heap.size ≤ rb ∧ Rdr w1 rb 0 ∧ Below (w.alloc (.cells #[.int .i64 0, .int .i64 0, .int .i64 0, .int .i64 0, .int .i64 0, .bool false, .int .i64 0, .bool false, .slice none 0 0] 29)).heap.size (w.alloc (.cells #[.int .i64 0, .int .i64 0, .int .i64 0, .int .i64 0, .int .i64 0, .bool false, .int .i64 0, .bool false, .slice none 0 0] 29)) w1) := l1Open_any a len cap zs _ (hr.below (zBa _ _)) hz hc hl
 clear hr hz
 go_enter Tryz.func17, Tryz.ntmps17
 refine frA_end (C := fun a => Code.wp _ _ _ a _) rfl rfl rfl (fun f => ?_)
 refine wp_is (c' := (Option.getD Tryz.f17.body .skip)) (by kernel_rfl) ?_
 refine sq (by kernel_rfl) (am0 (fun f => then_n ?_))
 refine sq (by kernel_rfl) (am1 KO (fun f w1 rb hrb R1 b1 => then_n ?_))
 have hrb' : w.heap.size < rb := Nat.lt_of_lt_of_le (by simp) hrb
 have Z1 : w1.heap[w.heap.size]? = some (.cells (pcells zeroPk (.slice none 0 0)) 29 (0, 0)) := (b1.block _ (by simp)).trans (heap_new _ _ _ rfl)
 have B1 : Below w.heap.size w w1 := (zBa _ _).trans (b1.mono (by simp))
 refine sq (by kernel_rfl) (am2 hrb' R1 Z1 B1 (fun f w2 p g c ds b5 lo S2 hw2 hl2 hby2 R2 => then_n ?_))
 refine sq (by kernel_rfl) (am3 S2 R2 (fun f w3 S3 R3 => then_n ?_))
 refine sq (by kernel_rfl) (am4 (by omega) (wholeOk_src hw2) hl2 hby2 S3 R3 (fun f w4 g4 c4 es S4 hw4 h13 hl4 hby4 R4 => then_n ?_))
 refine amRest ?_ rfl hw4 hby4 h13 hl4 (by omega) S4 R4 (fun f u6 u7 u9 u10 u11 w5 gq m cq qs S5 P5 hm hm1 D5 => ?_)
 ·intro c d v a w
  cases d <;> exact id
 have HP : Hid (∀ x0 x1 x2 x3 x4 x5 x6 x7 x8, AmongPost w (.returned (.tuple #[.agg #[.int .i64 9, .int .i64 p.dst, .int .i64 p.kind, .int .i64 p.id, .int .i64 p.hops, .bool p.whole, .int .i64 p.off, .bool p.more, .slice (some ⟨g4, 0, none⟩) es.length c4], .slice (some ⟨gq, 0, none⟩) m cq])) (((((((((w5.setCell ⟨w.heap.size, 0, none⟩ x0).setCell ⟨w.heap.size, 1, none⟩ x1).setCell ⟨w.heap.size, 2, none⟩ x2).setCell ⟨w.heap.size, 3, none⟩ x3).setCell ⟨w.heap.size, 4, none⟩ x4).setCell ⟨w.heap.size, 5, none⟩ x5).setCell ⟨w.heap.size, 6, none⟩ x6).setCell ⟨w.heap.size, 7, none⟩ x7).setCell ⟨w.heap.size, 8, none⟩ x8)) := fun x0 x1 x2 x3 x4 x5 x6 x7 x8 => among_post (p := ⟨9, p.dst, p.kind, p.id, p.hops, p.whole, p.off, p.more⟩) rfl hw4 (by omega) hl4 hby4 S5 hm P5 D5 hm1
 have F5 : ∀ o, w5.frozen? ⟨w.heap.size, o, none⟩ = false := fun o => zUf S5.zero o
 obtain ⟨lz, z0, z1, z2, z3, z4, z5, z6, z7, z8⟩ := Boxed.of_block S5.zero
 obtain ⟨lb, s0, s1, s2, s3, s4, s5, s6, s7, s8⟩ := Boxed.of_block S5.box
 have hz5 := S5.zl
 have hbz : b5 ≠ w.heap.size := by have := S5.lo5; have := S5.rbl; omega
 have hb5 := S5.b5l
 clear S2 R2 S3 R3 S4 R4 S5 P5 D5 KO R1 b1 Z1 B1 hby2 hby4 hw2 hw4
 refine wp_is (c' := .seq _ _) rfl ?_
 unfold frA
 go_wp2
 refine bodyPost_ret (v := .tuple #[.agg #[.int .i64 9, .int .i64 p.dst, .int .i64 p.kind, .int .i64 p.id, .int .i64 p.hops, .bool p.whole, .int .i64 p.off, .bool p.more, .slice (some ⟨g4, 0, none⟩) es.length c4], .slice (some ⟨gq, 0, none⟩) m cq]) (by simp [results, Tryz.results17, go_sem, z0, z1, z2, z3, z4, z5, z6, z7, z8]) rfl ?_
 exact HP.out _ _ _ _ _ _ _ _ _
theorem then_r {R : Act → World → Prop} {Q : Exit → Act → World → Prop} {a : Act} {w : World} (h : Q .ret a w) : Exit.then R Q .ret a w := h
theorem blk_r {Q : Exit → Act → World → Prop} {a : Act} {w : World} {i : Nat} (h : Q .ret a w) : Exit.inBlock i Q .ret a w := h
structure LSt (w1 wr : World) (y : RV) (l : Nat) (ob : Option Addr) (cb : Nat) (ts : List SV) (gg nG cG : Nat) (G : List RV) : Prop where
 hl : l ≤ 4
 hlb : l ≤ cb
 hlx : cb ≤ 9223372036854775807
 len : ts.length = l
 ok : benchOk 0 ts
 q : ∀ u : World, (∀ b, b ≠ w1.heap.size + 1 → b ≠ gg → b < wr.heap.size → u.heap[b]? = wr.heap[b]?) → SLq u ob ts
 pbx : wr.heap[w1.heap.size]? = some (.cells (pcells y.p (.slice y.a y.zs.length y.c)) 29 (0, 0))
 box : wr.heap[w1.heap.size + 1]? = some (.cells #[.int .i64 0, .slice ob l cb] 27 (0, 0))
 own : wr.ownsRow (w1.heap.size + 2) 29 9 (.slice (some ⟨gg, 0, none⟩) nG cG) nG (G.flatMap RV.cells)
 gn : G.length = nG
 be : Below w1.heap.size w1 wr
theorem LSt.next {w1 wr wy wz : World} {y q : RV} {l cb gg nG cG zA zB m cl1 g' nG' cG' : Nat} {ob oa1 : Option Addr} {ts us : List SV} {G G' : List RV} (S : LSt w1 wr y l ob cb ts gg nG cG G) (T : TkD wr wy zA zB 0 oa1 m cl1 us q) (hm : m ≤ 4) (hmc : m ≤ cl1) (hmx : cl1 ≤ 9223372036854775807) (HM : us.length = m) (ok1 : benchOk 0 us)
  (hz : ∀ b, b < wy.heap.size → b ≠ gg → wz.heap[b]? = wy.heap[b]?) (hsz : wy.heap.size ≤ wz.heap.size) (own' : wz.ownsRow (w1.heap.size + 2) 29 9 (.slice (some ⟨g', 0, none⟩) nG' cG') nG' (G'.flatMap RV.cells)) (gn' : G'.length = nG') (hg' : g' = gg ∨ wy.heap.size ≤ g') (be : Below w1.heap.size w1 wz) :
  (wz.cell? ⟨zA, 0, none⟩ = some (.int .i64 0) ∧ wz.cell? ⟨zA, 1, none⟩ = some (.slice oa1 m cl1)) ∧ (wz.cell? ⟨w1.heap.size + 1, 0, none⟩ = some (.int .i64 0) ∧ wz.cell? ⟨w1.heap.size + 1, 1, none⟩ = some (.slice ob l cb)) ∧ (∀ o, wz.frozen? ⟨w1.heap.size + 1, o, none⟩ = false) ∧ LSt w1 ((wz.setCell ⟨w1.heap.size + 1, 0, none⟩ (.int .i64 0)).setCell ⟨w1.heap.size + 1, 1, none⟩ (.slice oa1 m cl1)) y m oa1 cl1 us g' nG' cG' G' := by
 have sr := T.be.size
 have lgg := own_lt S.own gg rfl
 have lg' := own_lt own' g' rfl
 have lbb := lt_of_block S.box
 have lzA := lt_of_block T.bxA
 have loA := T.lowA
 have ZA : wz.heap[zA]? = some (.cells #[.int .i64 0, .slice oa1 m cl1] 27 (0, 0)) := (hz zA lzA (by omega)).trans T.bxA
 have ZB : wz.heap[w1.heap.size + 1]? = some (.cells #[.int .i64 0, .slice ob l cb] 27 (0, 0)) := (hz _ (by omega) (by omega)).trans ((T.be.block _ lbb).trans S.box)
 refine ⟨⟨zCr ZA, zCr ZA⟩, ⟨zCr ZB, zCr ZB⟩, fun o => zUf ZB o, hm, hmc, hmx, HM, ok1, fun u h => ?_, ?_, ?_, ?_, gn', ?_⟩
 ·refine (T.q u fun b hb1 hb2 => ?_).1
  exact (h b (by omega) (by omega) (by simp [World.setCell]; omega)).trans ((zHs (by simp only; omega)).trans ((zHs (by simp only; omega)).trans (hz b hb2 (by omega))))
 ·exact (zHs (by simp only; omega)).trans ((zHs (by simp only; omega)).trans ((hz _ (by omega) (by omega)).trans ((T.be.block _ (by omega)).trans S.pbx)))
 ·rw [set_at (set_at ZB)]
  rfl
 ·exact own_kept own' fun j hj => by
   have hj' : g' = j := by cases hj; rfl
   subst hj'
   exact (zHs (by simp only; omega)).trans (zHs (by simp only; omega))
 ·exact Below.setCell (Below.setCell be (by simp only; omega) _) (by simp only; omega) _
set_option maxHeartbeats 25600000 in
theorem lwRnd {Q : Exit → Act → World → Prop} (hP : PanicOk Q) {w1 wr : World} {gl n cl k l cb gg nG cG : Nat} {ob : Option Addr} {ts : List SV} {xs G : List RV} {y : RV} {v0 v1 v2 v8 v9 v10 : Value} {f : Nat → Value} (hn : n ≤ 112) (C : LCx w1 gl n xs) (Y : ∀ u, Below w1.heap.size w1 u → ROk u y) (hw : WholeOk y.p y.zs.length) (h9 : y.p.src = 9) (hd : 0 < y.zs.length) (D : DrawnR y.p y.zs xs) (S : LSt w1 wr y l ob cb ts gg nG cG G) (A : ASt y.p y.zs xs k ts G)
  (hR : Hid (∀ f u8 u9 u10 wy, Below w1.heap.size w1 wy → Q .ret (frL v0 v1 (.bool true) (.pointer (some ⟨w1.heap.size, 0, none⟩)) (.slice (some ⟨gl, 0, none⟩) n cl) (.pointer (some ⟨w1.heap.size + 1, 0, none⟩)) (.slice (some ⟨gg, 0, none⟩) nG cG) (.int .i64 k) (u8) (u9) (u10) f) wy)) (hN : Hid (k < n → ∀ f u8 u9 u10 wx l' ob' cb' ts' gg' nG' cG' G', LSt w1 wx y l' ob' cb' ts' gg' nG' cG' G' → ASt y.p y.zs xs (k + 1) ts' G' → Q .normal (frL v0 v1 v2 (.pointer (some ⟨w1.heap.size, 0, none⟩)) (.slice (some ⟨gl, 0, none⟩) n cl) (.pointer (some ⟨w1.heap.size + 1, 0, none⟩)) (.slice (some ⟨gg', 0, none⟩) nG' cG') (.int .i64 (k + 1 : Nat)) (u8) (u9) (u10) f) wx)) : (Cd.inn (Cd.inn (Cd.snd (Cd.fst (Cd.snd (Cd.snd (Cd.snd (Cd.snd (Cd.snd (Option.getD Tryz.f4.body .skip)))))))))).wp Tryz.prog Q (frL v0 v1 v2 (.pointer (some ⟨w1.heap.size, 0, none⟩)) (.slice (some ⟨gl, 0, none⟩) n cl) (.pointer (some ⟨w1.heap.size + 1, 0, none⟩)) (.slice (some ⟨gg, 0, none⟩) nG cG) (.int .i64 k) v8 v9 v10 f) wr := by
 have hkx := A.last D
 have hkn : k < n := by rw [← C.len.out]; exact hkx
 have hki : (k : Int) < (n : Int) := by omega
 obtain ⟨x, hx⟩ := get_of_lt hkx
 refine sq (by kernel_rfl) (lw7 hki (fun f => then_n ?_))
 have lbb := lt_of_block S.box
 have hbs := S.be.size
 have hSL : SLq wr ob ts := S.q wr fun b _ _ _ => rfl
 have HBC : Hid (∀ u, Below wr.heap.size wr u → u.cell? ⟨w1.heap.size + 1, 0, none⟩ = some (.int .i64 0) ∧ u.cell? ⟨w1.heap.size + 1, 1, none⟩ = some (.slice ob l cb)) := fun u h => ⟨zCr ((h.block _ lbb).trans S.box), zCr ((h.block _ lbb).trans S.box)⟩
 have HXC : Hid (∀ u, Below wr.heap.size wr u → X9 u gl (k * 9) x) := fun u h => (C.at_.out u k x (S.be.trans (h.mono hbs)) hx).2
 have hxr : ∀ u, Below wr.heap.size wr u → ROk u x := fun u h => (C.at_.out u k x (S.be.trans (h.mono hbs)) hx).1
 have K9 : Hid (∀ u, Below wr.heap.size wr u → Calls Tryz.prog 10 #[.agg #[.int .i64 0, .slice ob l cb], .agg #[.int .i64 x.p.src, .int .i64 x.p.dst, .int .i64 x.p.kind, .int .i64 x.p.id, .int .i64 x.p.hops, .bool x.p.whole, .int .i64 x.p.off, .bool x.p.more, .slice x.a x.zs.length x.c]] u (fun e u' => ∃ (now' : Int) (oa' : Option Addr) (cl' : Nat) (us : List SV) (y : RV) (c : Int), e = .returned (.tuple #[.agg #[.int .i64 now', .slice oa' us.length cl'], .agg #[.int .i64 y.p.src, .int .i64 y.p.dst, .int .i64 y.p.kind, .int .i64 y.p.id, .int .i64 y.p.hops, .bool y.p.whole, .int .i64 y.p.off, .bool y.p.more, .slice y.a y.zs.length y.c], .int .i64 c]) ∧ TakeP 0 ts x.key now' (us.map SV.key) y.key c ∧ us.length ≤ 4 ∧ us.length ≤ cl' ∧ cl' ≤ 9223372036854775807 ∧ BT u' u.heap.size oa' us ∧ DataB u' u.heap.size y ∧ Below u.heap.size u u')) := fun u h => by
  have h5 := implTake_any 0 ob cb ts x u (hSL.below h) (by rw [S.len]; have := S.hl; omega) (by rw [S.len]; exact S.hlb) S.hlx (hxr u h) (C.good.out u (S.be.trans (h.mono hbs)))
  rw [S.len] at h5
  refine h5.mono ?_
  rintro e u' ⟨now', ks, oa', cc, us, y, c, rfl, hP, hT, -, hb⟩
  have hk := hT.keys
  subst hk
  exact ⟨now', oa', cc, us, y, c, rfl, hP, hT.len, hT.cap, hT.capM, hT.ans.bt, hT.data, hb⟩
 refine sq (by kernel_rfl) (blk (i := 1) (by kernel_rfl) (sq (by kernel_rfl) (lw9 (((hP.then _).blk 1).then _) hki HBC HXC K9 (fun f wx zA zB now1 oa1 cl1 m us q c' hm hmc hmx HM HTP HT => then_n ?_))))
 obtain ⟨hnow, htk⟩ : now1 = 0 ∧ takeK 0 (ts.map SV.key) x.key = (us.map SV.key, q.key, c') := by
  rcases HTP with ⟨h, _⟩ | ⟨_, h1, h2⟩
  ·exact absurd S.ok h
  ·exact ⟨h1, h2⟩
 subst hnow
 have ok1 : benchOk 0 us := take_ok S.ok htk
 have sx := HT.be.size
 have lpb := lt_of_block S.pbx
 have HBP : ∀ u, Below wx.heap.size wx u → Boxed u w1.heap.size y.p (.slice y.a y.zs.length y.c) := fun u h => Boxed.of_block ((h.block _ (by omega)).trans ((HT.be.block _ lpb).trans S.pbx))
 have HBQ : ∀ u, Below wx.heap.size wx u → Boxed u zB q.p (.slice q.a q.zs.length q.c) := fun u h => Boxed.of_block ((h.block _ (lt_of_block HT.bxB)).trans HT.bxB)
 have hrx : ∀ u, Below wx.heap.size wx u → Below wr.heap.size wr u := fun u h => HT.be.trans (h.mono sx)
 have h1x : ∀ u, Below wx.heap.size wx u → Below w1.heap.size w1 u := fun u h => S.be.trans ((hrx u h).mono hbs)
 rcases A.step hw h9 hd D hx htk with ⟨hc0, hqk, hxw, hG40, hj1, hj2⟩ | ⟨hno, A'⟩
 ·obtain ⟨qp, qa, qc, qz⟩ := q
  obtain rfl : qp = y.p := congrArg Prod.fst hqk
  obtain rfl : qz = y.zs := congrArg Prod.snd hqk
  have hRL : RL wr gg G := RL.of_cells S.own (fun z hz => by
   rw [A.g] at hz
   obtain ⟨i, hi⟩ := List.getElem?_of_mem (List.mem_of_mem_take (List.mem_filter.1 hz).1)
   exact (C.at_.out wr i z S.be hi).1)
  have KS : Hid (∀ u, Below wx.heap.size wx u → Calls Tryz.prog 12 #[.agg #[.int .i64 y.p.src, .int .i64 y.p.dst, .int .i64 y.p.kind, .int .i64 y.p.id, .int .i64 y.p.hops, .bool y.p.whole, .int .i64 y.p.off, .bool y.p.more, .slice qa y.zs.length qc], .agg #[.int .i64 y.p.src, .int .i64 y.p.dst, .int .i64 y.p.kind, .int .i64 y.p.id, .int .i64 y.p.hops, .bool y.p.whole, .int .i64 y.p.off, .bool y.p.more, .slice y.a y.zs.length y.c]] u fun e w' => e = .returned (.bool true) ∧ Below u.heap.size u w') := fun u h => wfSame_same y.p qa y.a y.zs.length qc y.c y.zs u ((HT.below h).now.2).rd (Y u (h1x u h)).rd (Y u (h1x u h)).len
  have KL : Hid (∀ u, Below wx.heap.size wx u → Calls Tryz.prog 18 #[.slice (some ⟨gg, 0, none⟩) nG cG, .agg #[.int .i64 x.p.src, .int .i64 x.p.dst, .int .i64 x.p.kind, .int .i64 x.p.id, .int .i64 x.p.hops, .bool x.p.whole, .int .i64 x.p.off, .bool x.p.more, .slice x.a x.zs.length x.c], .agg #[.int .i64 y.p.src, .int .i64 y.p.dst, .int .i64 y.p.kind, .int .i64 y.p.id, .int .i64 y.p.hops, .bool y.p.whole, .int .i64 y.p.off, .bool y.p.more, .slice y.a y.zs.length y.c]] u fun e w' => e = .returned (.bool true) ∧ Below u.heap.size u w') := fun u h => wfLast_true gg nG cG G x y u (hRL.below (hrx u h)) S.gn (by rw [← S.gn]; exact hG40) (hxr u (hrx u h)) (Y u (h1x u h)) hj1 hj2
  refine sq (by kernel_rfl) ?_
  refine lw10_yes (q := ⟨y.p, qa, qc, y.zs⟩) (y := y) (x := x) ?_ hki hxw hc0 rfl ?_ KS KL ?_
  ·exact (((hP.then _).blk 1).then _)
  ·exact (fun u h => ⟨HBQ u h, HBP u h, HXC.out u (hrx u h)⟩)
  ·exact (fun f wy E => then_r (blk_r (then_r (hR.out f _ _ _ wy (h1x wy E)))))
 ·refine sq (by kernel_rfl) (lw10_no (HBQ wx (Below.refl _ _)) (HBP wx (Below.refl _ _)) (by rw [h9]; exact hno) (fun f => then_n ?_))
  refine sq (by kernel_rfl) (sq (by kernel_rfl) (lw12 ((((hP.then _).blk 1).then _).then _) hki (fun u h => ⟨HBP u h, HXC.out u (hrx u h)⟩) (fun a wy hb E hf => then_n ?_)))
  obtain ⟨f, rfl⟩ := hf
  have T := HT.below E
  have sy := E.size
  have oy := own_below (own_below S.own HT.be) E
  have lgg := own_lt S.own gg rfl
  have e9 : (x.p.src == y.p.src) = is9R x := by rw [h9]; rfl
  rw [e9] at hb
  cases h9x : is9R x with
  | true =>
   rw [h9x] at hb A'
   refine cd_t (by kernel_rfl) hb (lw13 hki (lo := w1.heap.size + 2) (G := G) (x := x) (by have h1 := S.gn; have h2 : G.length ≤ n := (by rw [A.g, ← C.len.out]; exact Nat.le_trans (List.length_filter_le _ _) (by rw [List.length_take]; omega)); omega) (by omega) (HXC.out wy (hrx wy E)) oy (fun f wz g' c2 hO hG hat => then_n ?_))
   have sz : wy.heap.size + 1 ≤ wz.heap.size := by have := hG.size; simpa using this
   have N := S.next T hm hmc hmx HM ok1 (fun b hb hne => (hG.block b (by simp; omega) (fun e => hne (Option.some.inj e))).trans (zHa hb)) (by omega) hO (by rw [List.length_append, S.gn]; rfl) (hat.imp id (fun h => by omega)) (((h1x wy E).alloc (by omega) _).grown hG (by simp; omega) (fun j hj => by cases hj; omega))
   exact lw14 N.1.1 N.1.2 N.2.1.1 N.2.1.2 N.2.2.1 (fun f => blk_n (then_n (lw8 (by omega) (fun f => hN.out hkn f _ _ _ _ m oa1 cl1 us g' (nG + 1) c2 (G ++ [x]) N.2.2.2 A'))))
  | false =>
   rw [h9x] at hb A'
   have N := S.next T hm hmc hmx HM ok1 (fun b hb hne => rfl) (Nat.le_refl _) oy S.gn (Or.inl rfl) (h1x wy E)
   exact cd_f (by kernel_rfl) hb (then_n (lw14 N.1.1 N.1.2 N.2.1.1 N.2.1.2 N.2.2.1 (fun f => blk_n (then_n (lw8 (by omega) (fun f => hN.out hkn f _ _ _ _ m oa1 cl1 us gg nG cG G N.2.2.2 A'))))))
def LwI (w1 : World) (gl n cl : Nat) (y : RV) (xs : List RV) (a : Act) (wr : World) : Prop := ∃ (k l cb gg nG cG : Nat) (ob : Option Addr) (ts : List SV) (G : List RV) (v0 v1 v2 v8 v9 v10 : Value) (f : Nat → Value), a = frL v0 v1 v2 (.pointer (some ⟨w1.heap.size, 0, none⟩)) (.slice (some ⟨gl, 0, none⟩) n cl) (.pointer (some ⟨w1.heap.size + 1, 0, none⟩)) (.slice (some ⟨gg, 0, none⟩) nG cG) (.int .i64 k) v8 v9 v10 f ∧ LSt w1 wr y l ob cb ts gg nG cG G ∧ ASt y.p y.zs xs k ts G
set_option maxHeartbeats 25600000 in
theorem lwLoop {Q : Exit → Act → World → Prop} (hP : PanicOk Q) {w1 : World} {gl n cl : Nat} {xs : List RV} {y : RV} (hn : n ≤ 112) (C : LCx w1 gl n xs) (Y : ∀ u, Below w1.heap.size w1 u → ROk u y) (hw : WholeOk y.p y.zs.length) (h9 : y.p.src = 9) (hd : 0 < y.zs.length) (D : DrawnR y.p y.zs xs) {a : Act} {w : World} (h0 : LwI w1 gl n cl y xs a w)
  (hR : Hid (∀ (v0 v1 v8 v9 v10 : Value) (gg nG cG k : Nat) (f : Nat → Value) (wy : World), Below w1.heap.size w1 wy → Q .ret (frL v0 v1 (.bool true) (.pointer (some ⟨w1.heap.size, 0, none⟩)) (.slice (some ⟨gl, 0, none⟩) n cl) (.pointer (some ⟨w1.heap.size + 1, 0, none⟩)) (.slice (some ⟨gg, 0, none⟩) nG cG) (.int .i64 k) v8 v9 v10 f) wy)) : (Code.loop (Cd.inn (Cd.inn (Cd.snd (Cd.fst (Cd.snd (Cd.snd (Cd.snd (Cd.snd (Cd.snd (Option.getD Tryz.f4.body .skip))))))))))).wp Tryz.prog Q a w := by
 refine wp_loop (LwI w1 gl n cl y xs) (fun a _ => n - (intOf (a.eval (.tmp 7))).toNat) h0 ?_
 rintro a wr ⟨k, l, cb, gg, nG, cG, ob, ts, G, v0, v1, v2, v8, v9, v10, f, rfl, S, A⟩
 refine lwRnd (hP.then _) hn C Y hw h9 hd D S A (fun f u8 u9 u10 wy E => then_r (hR.out v0 v1 u8 u9 u10 gg nG cG k f wy E)) (fun hkn f u8 u9 u10 wx l' ob' cb' ts' gg' nG' cG' G' S' A' => then_n ⟨⟨k + 1, l', cb', gg', nG', cG', ob', ts', G', _, _, _, _, _, _, f, rfl, S', A'⟩, ?_⟩)
 show n - (intOf (.int .i64 ((k + 1 : Nat) : Int))).toNat < n - (intOf (.int .i64 (k : Int))).toNat
 simp [intOf]
 omega
set_option maxHeartbeats 25600000 in
theorem amongLaw_any (a : Option Addr) (len cap : Nat) (w : World) (hlen : (len : Int) ≤ 1048576) (hg : GoodErr w)
  (hd : Hid (Calls Tryz.prog 17 #[.slice a len cap] w (AmongPost w))) :
  Calls Tryz.prog 4 #[.slice a len cap] w fun e w' => e = .returned (.bool true) ∧ Below w.heap.size w w' := by
 have HG0 : Hid (GoodErr w) := hg
 have hg0 := hg.lt
 clear hg
 go_enter Tryz.func4, Tryz.ntmps4
 go_wp2_with fail
 (with_reducible refine hd.out.mono ?_)
 rintro e w1 ⟨p, gp, cp, ds, gq, cq, qs, rfl, hw, h9, h0, hl, hby, own, hPL, hD, hn, B1⟩
 have s1 := B1.size
 have HB1 : Hid (Below w.heap.size w w1) := B1
 have hRL : RL w1 gq (qs.map PV.rv) := hPL.rl rfl hD.fine
 have C : LCx w1 gq qs.length (qs.map PV.rv) := ⟨(show (qs.map PV.rv).length = qs.length from List.length_map _), hRL.lt, (fun u i x hb hx => by
  have R := hRL.below hb
  obtain ⟨c0, c1, c2, c3, c4, c5, c6, c7, c8⟩ := R.elem i x hx
  exact ⟨R.each x (List.mem_of_getElem? hx), c0, c1, c2, c3, c4, c5, c6, c7, c8⟩), (fun u h => (HG0.out.below B1 hg0).below h (by omega))⟩
 have hcp := own_caps own
 have Y : Hid (∀ u, Below w1.heap.size w1 u → ROk u ⟨p, some ⟨gp, 0, none⟩, cp, ds⟩) := fun u h => ⟨(RdB.of_own rfl own).below h, (show ds.length ≤ 1048576 by omega), hcp.1, hcp.2, hby⟩
 have HC : Hid (LCx w1 gq qs.length (qs.map PV.rv)) := C
 have HD : Hid (DrawnR p ds (qs.map PV.rv) ∧ WholeOk p ds.length ∧ p.src = 9) := ⟨hD.rv, hw, h9⟩
 have e3 : ∀ (o1 o2 o3 : Obj), Below w1.heap.size w1 (((w1.alloc o1).alloc o2).alloc o3) := fun o1 o2 o3 => Joins.below_alloc3 w1 o1 o2 o3
 have S0 : Hid (LSt w1 (((w1.alloc (.cells #[.int .i64 p.src, .int .i64 p.dst, .int .i64 p.kind, .int .i64 p.id, .int .i64 p.hops, .bool p.whole, .int .i64 p.off, .bool p.more, .slice (some ⟨gp, 0, none⟩) ds.length cp] 29)).alloc (.cells #[.int .i64 0, .slice none 0 0] 27)).alloc (.cells #[] 29)) ⟨p, some ⟨gp, 0, none⟩, cp, ds⟩ 0 none 0 [] (w1.heap.size + 2) 0 0 []) := (show LSt _ _ _ _ _ _ _ _ _ _ _ from ⟨by omega, by omega, by omega, rfl, ⟨⟨by omega, by omega⟩, by simp, fun j s h => by simp at h⟩, (fun u _ => Or.inl rfl), (zHa (by simp; omega)).trans ((zHa (by simp)).trans (heap_new _ _ _ rfl)), (zHa (by simp)).trans (heap_new _ _ _ (by simp)), (PL.nil _ _ _ (by simp) (Nat.le_refl _)).row, rfl, e3 _ _ _⟩)
 clear hRL hPL own hby B1 HG0 hd C hD hw h9 hcp e3
 unfold Pk.val
 go_wp2_with fail
 refine wp_is (c' := .loop (Cd.inn (Cd.inn (Cd.snd (Cd.fst (Cd.snd (Cd.snd (Cd.snd (Cd.snd (Cd.snd (Option.getD Tryz.f4.body .skip))))))))))) (by kernel_rfl) ?_
 refine lwLoop ?_ (by omega) HC.out (y := ⟨p, some ⟨gp, 0, none⟩, cp, ds⟩) Y.out HD.out.2.1 HD.out.2.2 h0 HD.out.1 (frL_end (C := fun a => LwI w1 gq qs.length cq ⟨p, some ⟨gp, 0, none⟩, cp, ds⟩ (qs.map PV.rv) a _) rfl rfl rfl (fun f => ⟨0, 0, 0, w1.heap.size + 2, 0, 0, none, [], [], _, _, _, _, _, _, f, rfl, S0.out, ASt.zero _ _ _⟩)) (fun v0 v1 v8 v9 v10 gg nG cG k f wy E => blk_r (then_r ?_))
 ·intro c d v a w
  dsimp (zetaDelta := true) only [Exit.inBlock, Exit.then]
  cases d <;> exact id
 have FIN : Hid (Below w.heap.size w wy) := HB1.out.trans (E.mono s1)
 unfold frL
 go_ret
 exact ⟨rfl, FIN.out⟩
end Go.Proofs.YtjbkgmbakjnlhaaGreatDoor
