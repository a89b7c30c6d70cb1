/- The contract of DrawFragWays: a packet, and its pieces cut in two ways, turned around and doubled. -/
import Derived.Test.YtjbkgmbakjnlhaaMix
import Derived.Test.YtjbkgmbakjnlhaaPartAh
namespace Go.Proofs.Ytjbkgmbakjnlhaa
open Go.RowKit

theorem own_prefix {w : World} {base g n c k : Nat} {zs : List Int} (h : w.ownsRow base 5 1 (.slice (some ⟨g, 0, none⟩) n c) n (zs.map (.int .u8))) (hk : k ≤ n) : w.ownsRow base 5 1 (.slice (some ⟨g, 0, none⟩) k c) k ((zs.take k).map (.int .u8)) := by
  have hl := h.1
  rcases h.2 with ⟨hv, _⟩ | ⟨g', cap, cur, hv, hb, hh, hc, hm, hs, ht⟩
  · cases hv
  · cases hv
    refine ⟨by simp at hl ⊢; omega, Or.inr ⟨g, c, cur, rfl, hb, hh, by omega, hm, hs, ?_⟩⟩
    rw [List.map_take, ← ht, List.take_take, Nat.mul_one, Nat.mul_one, Nat.min_eq_left hk]
theorem wholeOk_le {p : Pk} {n k : Nat} (h : WholeOk p n) (hk : k ≤ n) : WholeOk p k := by
  obtain ⟨h1, h2, h3, h4⟩ := h
  refine ⟨?_, h2, h3, h4⟩
  simp only [okB, offB, moreB, Bool.and_eq_true, decide_eq_true_eq] at h1 ⊢
  obtain ⟨⟨⟨a, b⟩, c⟩, d⟩ := h1
  refine ⟨⟨⟨a, ⟨b.1, by omega⟩⟩, ?_⟩, d⟩
  rw [h4]
  rfl
/-- what is told of the pieces of a packet -/
structure Mixed (p : Pk) (ds : List Int) (qs : List PV) : Prop where
  ways : Ways p ds (qs.map PV.key)
  small : ∀ y ∈ qs, y.zs.length ≤ ds.length
  sub : ∀ y ∈ qs, ∀ z ∈ y.zs, z ∈ ds
theorem Mixed.of_cuts {p : Pk} {ds : List Int} {qs : List PV} (hw : WholeOk p ds.length) (h : CutsOf p ds (qs.map PV.key)) : Mixed p ds qs := ⟨CutsOf.ways hw h, cuts_small h, cuts_sub h⟩
theorem Mixed.both {p : Pk} {ds : List Int} {qs rs : List PV} (h : Mixed p ds qs) (h' : Mixed p ds rs) : Mixed p ds (qs ++ rs) := by
  refine ⟨by rw [List.map_append]; exact h.ways.both h'.ways.each, fun y hy => ?_, fun y hy => ?_⟩
  · rcases List.mem_append.1 hy with a | a
    · exact h.small y a
    · exact h'.small y a
  · rcases List.mem_append.1 hy with a | a
    · exact h.sub y a
    · exact h'.sub y a
theorem Mixed.mix {p : Pk} {ds : List Int} {ps qs : List PV} (h : Mixed p ds ps) (h1 : ∀ y ∈ qs, y ∈ ps) (h2 : ∀ y ∈ ps, y ∈ qs) : Mixed p ds qs := by
  refine ⟨h.ways.mix (fun k hk => ?_) (fun k hk => ?_), fun y hy => h.small y (h1 y hy), fun y hy => h.sub y (h1 y hy)⟩
  · obtain ⟨y, hy, rfl⟩ := List.mem_map.1 hk
    exact List.mem_map_of_mem (h2 y hy)
  · obtain ⟨y, hy, rfl⟩ := List.mem_map.1 hk
    exact List.mem_map_of_mem (h1 y hy)

/-- what DrawFragWays leaves -/
def WaysPost (w : World) (e : Ending) (w' : World) : Prop :=
  ∃ (p : Pk) (gp cp : Nat) (ds : List Int) (gq cq : Nat) (qs : List PV), e = .returned (.tuple #[p.val (.slice (some ⟨gp, 0, none⟩) ds.length cp), .slice (some ⟨gq, 0, none⟩) qs.length cq]) ∧ WholeOk p ds.length ∧ ds.length ≤ 200 ∧ (∀ z ∈ ds, 0 ≤ z ∧ z ≤ 255) ∧ w'.ownsRow w.heap.size 5 1 (.slice (some ⟨gp, 0, none⟩) ds.length cp) ds.length (ds.map (.int .u8)) ∧ PL w' w.heap.size (.slice (some ⟨gq, 0, none⟩) qs.length cq) qs ∧ Mixed p ds qs ∧ qs.length ≤ 3000 ∧ Below w.heap.size w w'

/-- where DrawFragWays stands between two draws -/
structure WS (w v : World) (p : Pk) (g c m b5 rb lo : Nat) (ds : List Int) : Prop where
  lo5 : lo ≤ b5
  b5l : b5 < v.heap.size
  rbw : w.heap.size < rb
  rbl : rb < lo
  zl : w.heap.size < v.heap.size
  box : v.heap[b5]? = some (.cells (pcells p (.slice (some ⟨g, 0, none⟩) m c)) 24 (0, 0))
  zero : v.heap[w.heap.size]? = some (.cells (pcells zeroPk (.slice none 0 0)) 24 (0, 0))
  own : v.ownsRow lo 5 1 (.slice (some ⟨g, 0, none⟩) ds.length c) ds.length (ds.map (.int .u8))
  bel : Below w.heap.size w v
theorem WS.kept {w v v' : World} {p : Pk} {g c m b5 rb lo k : Nat} {ds : List Int} (h : WS w v p g c m b5 rb lo ds) (hg : v.grownBy v' (some k)) (h1 : w.heap.size < k) (h2 : k ≠ b5) (h3 : k ≠ g) : WS w v' p g c m b5 rb lo ds :=
  ⟨h.lo5, Nat.lt_of_lt_of_le h.b5l hg.size, h.rbw, h.rbl, Nat.lt_of_lt_of_le h.zl hg.size, (hg.block _ h.b5l (fun e => h2 (Option.some.inj e).symm)).trans h.box, (hg.block _ h.zl (fun e => by have := Option.some.inj e; omega)).trans h.zero, own_kept h.own fun j e => hg.block j (own_lt h.own j e).2 (fun e' => by cases e; exact h3 (Option.some.inj e').symm), h.bel.trans ⟨hg.os, hg.tape, hg.output, hg.size, fun j hj => hg.block j (by have := h.bel.size; omega) (fun e => by have := Option.some.inj e; omega)⟩⟩
theorem WS.grown {w v v' : World} {p : Pk} {g c m b5 rb lo : Nat} {ds : List Int} (h : WS w v p g c m b5 rb lo ds) (hg : v.grownBy v' (some rb)) : WS w v' p g c m b5 rb lo ds :=
  h.kept hg h.rbw (by have := h.rbl; have := h.lo5; omega) (by have := h.rbl; have := (own_lt h.own g rfl).1; omega)
theorem WS.drew {w v : World} {p : Pk} {g c m b5 rb lo : Nat} {ds : List Int} (h : WS w v p g c m b5 rb lo ds) : WS w v.drew p g c m b5 rb lo ds :=
  h.grown (grown_below (draw1 _))
theorem ways_post {w v : World} {p : Pk} {g c m b5 rb lo gq cq : Nat} {ds : List Int} {qs : List PV} (hm : ds.length = m) (hw : WholeOk p ds.length) (hl : ds.length ≤ 200) (hby : ∀ z ∈ ds, 0 ≤ z ∧ z ≤ 255) (h : WS w v p g c m b5 rb lo ds) (hq : PL v (b5 + 1) (.slice (some ⟨gq, 0, none⟩) qs.length cq) qs) (hM : Mixed p ds qs) (hn : qs.length ≤ 3000) {x0 x1 x2 x3 x4 x5 x6 x7 x8 : Value} :
    WaysPost w (.returned (.tuple #[.agg #[.int .i64 p.src, .int .i64 p.dst, .int .i64 p.kind, .int .i64 p.id, .int .i64 p.hops, .bool p.whole, .int .i64 p.off, .bool p.more, .slice (some ⟨g, 0, none⟩) m c], .slice (some ⟨gq, 0, none⟩) qs.length cq])) (((((((((v.setCell ⟨w.heap.size, 0, none⟩ x0).setCell ⟨w.heap.size, 1, none⟩ x1).setCell ⟨w.heap.size, 2, none⟩ x2).setCell ⟨w.heap.size, 3, none⟩ x3).setCell ⟨w.heap.size, 4, none⟩ x4).setCell ⟨w.heap.size, 5, none⟩ x5).setCell ⟨w.heap.size, 6, none⟩ x6).setCell ⟨w.heap.size, 7, none⟩ x7).setCell ⟨w.heap.size, 8, none⟩ x8) := by
  subst hm
  have h1 := h.lo5
  have h2 := h.rbl
  have h3 := h.rbw
  refine ⟨p, g, c, ds, gq, cq, qs, rfl, hw, hl, hby, Joins.ownsRow_le (own9 h.own (by omega) _ _ _ _ _ _ _ _ _) (by omega), (PL.kept hq (fun k h1 h2 => heap9 _ _ _ (by omega) _ _ _ _ _ _ _ _ _)).le (by omega), hM, hn, below9 h.bel (Nat.le_refl _) _ _ _ _ _ _ _ _ _⟩
theorem WS.cells {w v : World} {p : Pk} {g c m b5 rb lo : Nat} {ds : List Int} (h : WS w v p g c m b5 rb lo ds) : v.cell? ⟨b5, 0, none⟩ = some (.int .i64 p.src) ∧ v.cell? ⟨b5, 1, none⟩ = some (.int .i64 p.dst) ∧ v.cell? ⟨b5, 2, none⟩ = some (.int .i64 p.kind) ∧ v.cell? ⟨b5, 3, none⟩ = some (.int .i64 p.id) ∧ v.cell? ⟨b5, 4, none⟩ = some (.int .i64 p.hops) ∧ v.cell? ⟨b5, 5, none⟩ = some (.bool p.whole) ∧ v.cell? ⟨b5, 6, none⟩ = some (.int .i64 p.off) ∧ v.cell? ⟨b5, 7, none⟩ = some (.bool p.more) ∧ v.cell? ⟨b5, 8, none⟩ = some (.slice (some ⟨g, 0, none⟩) m c) :=
  ⟨cell_of_row _ _ _ _ _ _ h.box, cell_of_row _ _ _ _ _ _ h.box, cell_of_row _ _ _ _ _ _ h.box, cell_of_row _ _ _ _ _ _ h.box, cell_of_row _ _ _ _ _ _ h.box, cell_of_row _ _ _ _ _ _ h.box, cell_of_row _ _ _ _ _ _ h.box, cell_of_row _ _ _ _ _ _ h.box, cell_of_row _ _ _ _ _ _ h.box⟩
/-- behind the reader's draws nothing old has turned -/
theorem below_of_grown {w w1 w2 : World} {rb : Nat} (hb : Below w.heap.size w w1) (hg : w1.grownBy w2 (some rb)) (hr : w.heap.size ≤ rb) : Below w.heap.size w w2 :=
  hb.trans ⟨hg.os, hg.tape, hg.output, hg.size, fun k hk => hg.block k (by have := hb.size; omega) (fun e => by have := Option.some.inj e; omega)⟩

set_option maxRecDepth 100000 in
set_option maxHeartbeats 12800000 in
theorem drawWays_any (a : Option Addr) (len cap : Nat) (zs : List Int) (w : World) (hr : RdB w a len zs) (hz : ∀ z ∈ zs, 0 ≤ z ∧ z ≤ 255) (hc : len ≤ cap) (hl : len ≤ 1048576) :
    Calls Try.prog 10 #[.slice a len cap] w (WaysPost w) := by
  obtain ⟨ti, hti, hy0, hy1, hy2⟩ := info_parts Try.info24
  go_enter Try.func10, Try.ntmps10
  go_wp2_with fail
  refine (l1Open_any a len cap zs _ (hr.below (Joins.below_alloc1 _ _)) hz hc hl).mono ?_
  rintro e w1 ⟨rb, rfl, hrb, R1, b1⟩
  have hrb' : w.heap.size < rb := Nat.lt_of_lt_of_le (by simp) hrb
  have Z1 : w1.heap[w.heap.size]? = some (.cells (pcells zeroPk (.slice none 0 0)) 24 (0, 0)) := (b1.block _ (by simp)).trans (heap_new _ _ _ rfl)
  have B1 : Below w.heap.size w w1 := (Joins.below_alloc1 _ _).trans (b1.mono (by simp))
  have hs1 := R1.lt
  clear b1 hr hz
  go_wp2_with fail
  refine (l5Whole_any rb 0 _ R1 (by omega)).mono ?_
  rintro e w2 ⟨p, g, c, len, zs, rfl, o2, hz, hl, hw, R2, G, hby⟩
  subst hz
  have hne : ∀ b, b < rb → some b ≠ some rb := fun b hb e => by have := Option.some.inj e; omega
  have Z2 := (G.block _ (lt_of_block Z1) (hne _ hrb')).trans Z1
  have B2 : Below w.heap.size w w2 := below_of_grown B1 G (by omega)
  have o2' : w2.ownsRow w1.heap.size 5 1 (.slice (some ⟨g, 0, none⟩) zs.length c) zs.length (zs.map (.int .u8)) := o2
  have hs2 := B2.size
  have hs12 := G.size
  have lg := own_lt o2 g rfl
  have hcc := own_caps o2
  clear G Z1 B1 R1 o2
  unfold Pk.val
  -- the packet's bytes, sixty at most
  obtain ⟨ds, hds⟩ : ∃ ds, zs.take 60 = ds := ⟨_, rfl⟩
  by_cases h60 : 60 < zs.length
  · have h60' : (60 : Int) < (zs.length : Int) := by omega
    have hdl : ds.length = 60 := by rw [← hds]; simp; omega
    have OD : Hid (w2.ownsRow w1.heap.size 5 1 (.slice (some ⟨g, 0, none⟩) ds.length c) ds.length (ds.map (.int .u8))) := by
      have h := own_prefix o2' (k := 60) (by omega)
      rw [hds] at h
      rw [hdl]
      exact h
    have HW : Hid (WholeOk p ds.length) := (by rw [hdl]; exact wholeOk_le hw (by omega))
    have HBY : Hid (∀ z ∈ ds, 0 ≤ z ∧ z ≤ 255) := fun z hz => hby z (by rw [← hds] at hz; exact List.mem_of_mem_take hz)
    have c60 : (60 : Int) ≤ (c : Int) := by omega
    clear hby o2' hw
    have KC : Hid (∀ N w', Rdr w' rb N → N ≤ 90000 → w'.ownsRow w1.heap.size 5 1 (.slice (some ⟨g, 0, none⟩) ds.length c) ds.length (ds.map (.int .u8)) → Calls Try.prog 35 #[.pointer (some ⟨rb, 0, none⟩), .agg #[.int .i64 p.src, .int .i64 p.dst, .int .i64 p.kind, .int .i64 p.id, .int .i64 p.hops, .bool p.whole, .int .i64 p.off, .bool p.more, .slice (some ⟨g, 0, none⟩) 60 c]] w' fun e w'' => ∃ (g' c' : Nat) (ps : List PV), e = .returned (.slice (some ⟨g', 0, none⟩) ps.length c') ∧ PL w'' w'.heap.size (.slice (some ⟨g', 0, none⟩) ps.length c') ps ∧ CutsOf p ds (ps.map PV.key) ∧ Rdr w'' rb (N + 4) ∧ w'.grownBy w'' (some rb)) := fun N w' hR hN ho => by
      have h := l5Cuts_any rb N _ p g c ds w' hR hN ho (by omega) (by omega)
      rw [hdl] at h; exact h
    go_wp2_with fail
    refine (KC.out 700 _ (R2.below (Joins.below_alloc1 _ _)) (by omega) (own_below OD.out (Joins.below_alloc1 _ _))).mono ?_
    rintro e w3 ⟨g3, c3, ps, rfl, P3, C3, R3, G3⟩
    have S3 : WS w w3 p g c 60 w2.heap.size rb w1.heap.size ds := (WS.mk (by omega) (by simp) hrb' hs1 (Nat.lt_of_lt_of_le (lt_of_block Z2) (Joins.below_alloc1 _ _).size) (heap_new _ _ _ rfl) ((Below.heap_alloc _ _ _ (lt_of_block Z2)).trans Z2) (own_below OD.out (Joins.below_alloc1 _ _)) (B2.trans ((Joins.below_alloc1 _ _).mono hs2)) : WS w (w2.alloc (.cells (pcells p (.slice (some ⟨g, 0, none⟩) 60 c)) 24)) p g c 60 w2.heap.size rb w1.heap.size ds).grown G3
    have Q3 : Hid (PL w3 (w2.heap.size + 1) (.slice (some ⟨g3, 0, none⟩) ps.length c3) ps) := P3.le (by simp)
    have hps := cuts_small_len C3 (by omega)
    have M3 : Hid (Mixed p ds ps) := Mixed.of_cuts HW.out C3
    clear G3 P3 C3 R2 Z2 B2 OD
    go_wp2_with fail
    refine (pick_any rb _ 2 _ R3 (by omega) (by omega) (by omega)).mono ?_
    rintro e w4 ⟨x, rfl, x0, x1, -, R4, G4⟩
    have S4 := S3.grown G4
    have Q4 : Hid (PL w4 (w2.heap.size + 1) (.slice (some ⟨g3, 0, none⟩) ps.length c3) ps) := Q3.out.grown G4 (by omega)
    clear S3 Q3 R3 G4
    by_cases hx : x = 0
    · subst hx
      obtain ⟨y0, y1, y2, y3, y4, y5, y6, y7, y8⟩ := S4.cells
      go_wp2_with fail
      refine (KC.out _ _ R4 (by omega) S4.own).mono ?_
      rintro e w5 ⟨g5, c5, qs, rfl, P5, C5, R5, G5⟩
      have S5 := S4.grown G5
      have Q5 : Hid (PL w5 (w2.heap.size + 1) (.slice (some ⟨g3, 0, none⟩) ps.length c3) ps) := Q4.out.grown G5 (by omega)
      have O5 : Hid (PL w5 (w2.heap.size + 1) (.slice (some ⟨g5, 0, none⟩) qs.length c5) qs) := P5.le S4.b5l
      have hqs := cuts_small_len C5 (by omega)
      have M5 : Hid (Mixed p ds (ps ++ qs)) := M3.out.both (Mixed.of_cuts HW.out C5)
      clear S4 Q4 R4 G5 P5 C5 y0 y1 y2 y3 y4 y5 y6 y7 y8
      go_wp2_with (at_builtin; refine wpList_append_own _ rfl _ _ 25 rfl (w2.heap.size + 1) 24 ti (.agg #[.int .i64 0, .int .i64 0, .int .i64 0, .int .i64 0, .int .i64 0, .bool false, .int .i64 0, .bool false, .slice none 0 0]) 9 88 Try.underlying25 hti hy0 hy1 hy2 rfl (by decide) (.slice (some ⟨g3, 0, none⟩) ps.length c3) ps.length (ps.flatMap PV.cells) rfl Q5.out.row ⟨g5, 0, none⟩ qs.length c5 (qs.flatMap PV.cells) rfl (flat_len qs) ?h1 ?h2 ?h3 ?h4 ?h5 ?_)
      case h1 => exact O5.out.src_all
      case h2 => exact flat_one _
      case h3 => unfold maxLen; omega
      case h4 => omega
      case h5 => exact S5.b5l
      intro v6 w6 ho6 hg6 hn6
      obtain ⟨g6, c6, rfl⟩ : ∃ g6 c6, v6 = .slice (some ⟨g6, 0, none⟩) (ps.length + qs.length) c6 := form_of ho6 hn6
      have S6 := S5.kept (k := g3) hg6 (by have := (own_lt Q5.out.row g3 rfl).1; omega) (by have := (own_lt Q5.out.row g3 rfl).1; omega) (fun e => own_ne Q5.out.row S5.own g rfl (by rw [← e]; rfl))
      have Q6 : Hid (PL w6 (w2.heap.size + 1) (.slice (some ⟨g6, 0, none⟩) (ps.length + qs.length) c6) (ps ++ qs)) := Q5.out.append O5.out.each ho6 hg6
      have R6 : Rdr w6 rb (700 + 4 + 1 + 4) := Rdr.keep R5 hg6.size (fun j hj => hg6.block j (by have := R5.lt; omega) (fun e => by have e' : j = g3 := Option.some.inj e; have := (own_lt Q5.out.row g3 rfl).1; omega))
      clear ho6 hg6 hn6 S5 Q5 O5 R5
      go_wp2_with fail
      have KM : Hid (Calls Try.prog 37 #[.pointer (some ⟨rb, 0, none⟩), .slice (some ⟨g6, 0, none⟩) (ps.length + qs.length) c6] w6.drew fun e w' => ∃ (gq cq : Nat) (rs : List PV), e = .returned (.slice (some ⟨gq, 0, none⟩) rs.length cq) ∧ PL w' (w2.heap.size + 1) (.slice (some ⟨gq, 0, none⟩) rs.length cq) rs ∧ (∀ y ∈ rs, y ∈ (ps ++ qs)) ∧ (∀ y ∈ (ps ++ qs), y ∈ rs) ∧ rs.length ≤ (ps.length + qs.length) + 3 ∧ Rdr w' rb (700 + 4 + 1 + 4 + ((ps.length + qs.length)) + 4) ∧ w6.drew.grownBy w' (some rb)) := l5Mix_any rb (700 + 4 + 1 + 4) (w2.heap.size + 1) g6 c6 ((ps.length + qs.length)) ((ps ++ qs)) w6.drew (by simp) (R6.below (draw1 _)) (by omega) (Q6.out.below (draw1 _)) (by omega) S6.b5l (by omega)
      have SD : Hid (WS w w6.drew p g c 60 w2.heap.size rb w1.heap.size ds) := S6.drew
      clear Q6 R6 KC
      refine wp_region_held_drew (S := fun v => v.heap[w2.heap.size]? = some (.cells (pcells p (.slice (some ⟨g, 0, none⟩) 60 c)) 24 (0, 0))) (by kernel_rfl) S6.box (fun hH => ?_)
      clear S6
      refine take_held 1 (some 31) (.pointer (some ⟨rb, 0, none⟩)) rfl rfl (by kernel_rfl) (by kernel_rfl) (by kernel_rfl) (fun _ _ _ h => h) (by rfl) (fun w hS => by obtain ⟨lx, s0, s1, s2, s3, s4, s5, s6, s7, s8⟩ := Boxed.of_block hS; go_simp) hH ?_
      simp only [Act.put, List.setIfInBounds_toArray, List.set_cons_zero, List.set_cons_succ]
      refine take_held 2 (some 32) (.slice (some ⟨g6, 0, none⟩) (ps.length + qs.length) c6) rfl rfl (by kernel_rfl) (by kernel_rfl) (by kernel_rfl) (fun _ _ _ h => h) (by rfl) (fun w hS => by obtain ⟨lx, s0, s1, s2, s3, s4, s5, s6, s7, s8⟩ := Boxed.of_block hS; go_simp) hH ?_
      simp only [Act.put, List.setIfInBounds_toArray, List.set_cons_zero, List.set_cons_succ]
      refine take_held 0 (some 30) (.agg #[.int .i64 p.src, .int .i64 p.dst, .int .i64 p.kind, .int .i64 p.id, .int .i64 p.hops, .bool p.whole, .int .i64 p.off, .bool p.more, .slice (some ⟨g, 0, none⟩) 60 c]) rfl rfl (by kernel_rfl) (by kernel_rfl) (by kernel_rfl) (fun _ _ _ h => h) (by rfl) (fun w hS => by obtain ⟨lx, s0, s1, s2, s3, s4, s5, s6, s7, s8⟩ := Boxed.of_block hS; go_simp) hH ?_
      simp only [Act.put, List.setIfInBounds_toArray, List.set_cons_zero, List.set_cons_succ]
      refine wpAnyH_ready (rs := [3]) (by kernel_rfl) (by simp) ?_
      refine AllReadyH.cons rfl (fun K hK => ?_) AllReadyH.nil
      go_simp
      with_reducible refine KM.out.mono ?_
      rintro e w7 ⟨g7, c7, rs, rfl, Q7, m71, m72, l7, R7, G7⟩
      have S7 := SD.out.grown G7
      have M7 : Hid (Mixed p ds rs) := M5.out.mix m71 m72
      have F7 : ∀ o, w7.frozen? ⟨w.heap.size, o, none⟩ = false := fun o => Joins.unfrozen_of_block S7.zero o
      obtain ⟨lz, z0, z1, z2, z3, z4, z5, z6, z7, z8⟩ := Boxed.of_block S7.zero
      have hz7 := S7.zl
      go_simp
      refine hK.out _ _ S7.box (fun hH => ?_)
      clear hK K
      refine wpAnyH_ready (rs := [4]) (by kernel_rfl) (by simp) ?_
      refine AllReadyH.cons rfl (fun K hK => ?_) AllReadyH.nil
      go_simp
      refine hK.out _ _ ((heap9 _ _ _ (by omega) _ _ _ _ _ _ _ _ _).trans S7.box) (fun hH => ?_)
      clear hK K
      refine take_held 5 (some 3) (.slice (some ⟨g7, 0, none⟩) rs.length c7) rfl rfl (by kernel_rfl) (by kernel_rfl) (by kernel_rfl) (fun _ _ _ h => h) (by rfl) (fun w hS => by obtain ⟨lx, s0, s1, s2, s3, s4, s5, s6, s7, s8⟩ := Boxed.of_block hS; go_simp) hH ?_
      simp only [Act.put, List.setIfInBounds_toArray, List.set_cons_zero, List.set_cons_succ]
      refine wpAnyH_done (by kernel_rfl) ?_ _
      go_wp2
      refine bodyPost_ret (v := .tuple #[.agg #[.int .i64 p.src, .int .i64 p.dst, .int .i64 p.kind, .int .i64 p.id, .int .i64 p.hops, .bool p.whole, .int .i64 p.off, .bool p.more, .slice (some ⟨g, 0, none⟩) 60 c], .slice (some ⟨g7, 0, none⟩) rs.length c7]) (by simp [results, Try.results10, go_sem, z0, z1, z2, z3, z4, z5, z6, z7, z8]) rfl ?_
      exact ways_post hdl HW.out (by omega) HBY.out S7 Q7 M7.out (by omega)
    · have hx' : ¬ (x = 0) := hx
      go_wp2_with fail
      have KM : Hid (Calls Try.prog 37 #[.pointer (some ⟨rb, 0, none⟩), .slice (some ⟨g3, 0, none⟩) ps.length c3] w4.drew fun e w' => ∃ (gq cq : Nat) (rs : List PV), e = .returned (.slice (some ⟨gq, 0, none⟩) rs.length cq) ∧ PL w' (w2.heap.size + 1) (.slice (some ⟨gq, 0, none⟩) rs.length cq) rs ∧ (∀ y ∈ rs, y ∈ ps) ∧ (∀ y ∈ ps, y ∈ rs) ∧ rs.length ≤ ps.length + 3 ∧ Rdr w' rb (700 + 4 + 1 + (ps.length) + 4) ∧ w4.drew.grownBy w' (some rb)) := l5Mix_any rb (700 + 4 + 1) (w2.heap.size + 1) g3 c3 (ps.length) (ps) w4.drew rfl (R4.below (draw1 _)) (by omega) (Q4.out.below (draw1 _)) (by omega) S4.b5l (by omega)
      have SD : Hid (WS w w4.drew p g c 60 w2.heap.size rb w1.heap.size ds) := S4.drew
      clear Q4 R4 KC
      refine wp_region_held_drew (S := fun v => v.heap[w2.heap.size]? = some (.cells (pcells p (.slice (some ⟨g, 0, none⟩) 60 c)) 24 (0, 0))) (by kernel_rfl) S4.box (fun hH => ?_)
      clear S4
      refine take_held 1 (some 31) (.pointer (some ⟨rb, 0, none⟩)) rfl rfl (by kernel_rfl) (by kernel_rfl) (by kernel_rfl) (fun _ _ _ h => h) (by rfl) (fun w hS => by obtain ⟨lx, s0, s1, s2, s3, s4, s5, s6, s7, s8⟩ := Boxed.of_block hS; go_simp) hH ?_
      simp only [Act.put, List.setIfInBounds_toArray, List.set_cons_zero, List.set_cons_succ]
      refine take_held 2 (some 32) (.slice (some ⟨g3, 0, none⟩) ps.length c3) rfl rfl (by kernel_rfl) (by kernel_rfl) (by kernel_rfl) (fun _ _ _ h => h) (by rfl) (fun w hS => by obtain ⟨lx, s0, s1, s2, s3, s4, s5, s6, s7, s8⟩ := Boxed.of_block hS; go_simp) hH ?_
      simp only [Act.put, List.setIfInBounds_toArray, List.set_cons_zero, List.set_cons_succ]
      refine take_held 0 (some 30) (.agg #[.int .i64 p.src, .int .i64 p.dst, .int .i64 p.kind, .int .i64 p.id, .int .i64 p.hops, .bool p.whole, .int .i64 p.off, .bool p.more, .slice (some ⟨g, 0, none⟩) 60 c]) rfl rfl (by kernel_rfl) (by kernel_rfl) (by kernel_rfl) (fun _ _ _ h => h) (by rfl) (fun w hS => by obtain ⟨lx, s0, s1, s2, s3, s4, s5, s6, s7, s8⟩ := Boxed.of_block hS; go_simp) hH ?_
      simp only [Act.put, List.setIfInBounds_toArray, List.set_cons_zero, List.set_cons_succ]
      refine wpAnyH_ready (rs := [3]) (by kernel_rfl) (by simp) ?_
      refine AllReadyH.cons rfl (fun K hK => ?_) AllReadyH.nil
      go_simp
      with_reducible refine KM.out.mono ?_
      rintro e w7 ⟨g7, c7, rs, rfl, Q7, m71, m72, l7, R7, G7⟩
      have S7 := SD.out.grown G7
      have M7 : Hid (Mixed p ds rs) := M3.out.mix m71 m72
      have F7 : ∀ o, w7.frozen? ⟨w.heap.size, o, none⟩ = false := fun o => Joins.unfrozen_of_block S7.zero o
      obtain ⟨lz, z0, z1, z2, z3, z4, z5, z6, z7, z8⟩ := Boxed.of_block S7.zero
      have hz7 := S7.zl
      go_simp
      refine hK.out _ _ S7.box (fun hH => ?_)
      clear hK K
      refine wpAnyH_ready (rs := [4]) (by kernel_rfl) (by simp) ?_
      refine AllReadyH.cons rfl (fun K hK => ?_) AllReadyH.nil
      go_simp
      refine hK.out _ _ ((heap9 _ _ _ (by omega) _ _ _ _ _ _ _ _ _).trans S7.box) (fun hH => ?_)
      clear hK K
      refine take_held 5 (some 3) (.slice (some ⟨g7, 0, none⟩) rs.length c7) rfl rfl (by kernel_rfl) (by kernel_rfl) (by kernel_rfl) (fun _ _ _ h => h) (by rfl) (fun w hS => by obtain ⟨lx, s0, s1, s2, s3, s4, s5, s6, s7, s8⟩ := Boxed.of_block hS; go_simp) hH ?_
      simp only [Act.put, List.setIfInBounds_toArray, List.set_cons_zero, List.set_cons_succ]
      refine wpAnyH_done (by kernel_rfl) ?_ _
      go_wp2
      refine bodyPost_ret (v := .tuple #[.agg #[.int .i64 p.src, .int .i64 p.dst, .int .i64 p.kind, .int .i64 p.id, .int .i64 p.hops, .bool p.whole, .int .i64 p.off, .bool p.more, .slice (some ⟨g, 0, none⟩) 60 c], .slice (some ⟨g7, 0, none⟩) rs.length c7]) (by simp [results, Try.results10, go_sem, z0, z1, z2, z3, z4, z5, z6, z7, z8]) rfl ?_
      exact ways_post hdl HW.out (by omega) HBY.out S7 Q7 M7.out (by omega)
  · have h60' : ¬ ((60 : Int) < (zs.length : Int)) := by omega
    have hde : ds = zs := by rw [← hds]; exact List.take_of_length_le (by omega)
    subst hde
    have OD : Hid (w2.ownsRow w1.heap.size 5 1 (.slice (some ⟨g, 0, none⟩) ds.length c) ds.length (ds.map (.int .u8))) := o2'
    have HW : Hid (WholeOk p ds.length) := hw
    have HBY : Hid (∀ z ∈ ds, 0 ≤ z ∧ z ≤ 255) := hby
    clear hby o2' hw hds
    have KC : Hid (∀ N w', Rdr w' rb N → N ≤ 90000 → w'.ownsRow w1.heap.size 5 1 (.slice (some ⟨g, 0, none⟩) ds.length c) ds.length (ds.map (.int .u8)) → Calls Try.prog 35 #[.pointer (some ⟨rb, 0, none⟩), .agg #[.int .i64 p.src, .int .i64 p.dst, .int .i64 p.kind, .int .i64 p.id, .int .i64 p.hops, .bool p.whole, .int .i64 p.off, .bool p.more, .slice (some ⟨g, 0, none⟩) ds.length c]] w' fun e w'' => ∃ (g' c' : Nat) (ps : List PV), e = .returned (.slice (some ⟨g', 0, none⟩) ps.length c') ∧ PL w'' w'.heap.size (.slice (some ⟨g', 0, none⟩) ps.length c') ps ∧ CutsOf p ds (ps.map PV.key) ∧ Rdr w'' rb (N + 4) ∧ w'.grownBy w'' (some rb)) := fun N w' hR hN ho => by
      have h := l5Cuts_any rb N _ p g c ds w' hR hN ho (by omega) (by omega)
      exact h
    go_wp2_with fail
    refine (KC.out 700 _ (R2.below (Joins.below_alloc1 _ _)) (by omega) (own_below OD.out (Joins.below_alloc1 _ _))).mono ?_
    rintro e w3 ⟨g3, c3, ps, rfl, P3, C3, R3, G3⟩
    have S3 : WS w w3 p g c ds.length w2.heap.size rb w1.heap.size ds := (WS.mk (by omega) (by simp) hrb' hs1 (Nat.lt_of_lt_of_le (lt_of_block Z2) (Joins.below_alloc1 _ _).size) (heap_new _ _ _ rfl) ((Below.heap_alloc _ _ _ (lt_of_block Z2)).trans Z2) (own_below OD.out (Joins.below_alloc1 _ _)) (B2.trans ((Joins.below_alloc1 _ _).mono hs2)) : WS w (w2.alloc (.cells (pcells p (.slice (some ⟨g, 0, none⟩) ds.length c)) 24)) p g c ds.length w2.heap.size rb w1.heap.size ds).grown G3
    have Q3 : Hid (PL w3 (w2.heap.size + 1) (.slice (some ⟨g3, 0, none⟩) ps.length c3) ps) := P3.le (by simp)
    have hps := cuts_small_len C3 (by omega)
    have M3 : Hid (Mixed p ds ps) := Mixed.of_cuts HW.out C3
    clear G3 P3 C3 R2 Z2 B2 OD
    go_wp2_with fail
    refine (pick_any rb _ 2 _ R3 (by omega) (by omega) (by omega)).mono ?_
    rintro e w4 ⟨x, rfl, x0, x1, -, R4, G4⟩
    have S4 := S3.grown G4
    have Q4 : Hid (PL w4 (w2.heap.size + 1) (.slice (some ⟨g3, 0, none⟩) ps.length c3) ps) := Q3.out.grown G4 (by omega)
    clear S3 Q3 R3 G4
    by_cases hx : x = 0
    · subst hx
      obtain ⟨y0, y1, y2, y3, y4, y5, y6, y7, y8⟩ := S4.cells
      go_wp2_with fail
      refine (KC.out _ _ R4 (by omega) S4.own).mono ?_
      rintro e w5 ⟨g5, c5, qs, rfl, P5, C5, R5, G5⟩
      have S5 := S4.grown G5
      have Q5 : Hid (PL w5 (w2.heap.size + 1) (.slice (some ⟨g3, 0, none⟩) ps.length c3) ps) := Q4.out.grown G5 (by omega)
      have O5 : Hid (PL w5 (w2.heap.size + 1) (.slice (some ⟨g5, 0, none⟩) qs.length c5) qs) := P5.le S4.b5l
      have hqs := cuts_small_len C5 (by omega)
      have M5 : Hid (Mixed p ds (ps ++ qs)) := M3.out.both (Mixed.of_cuts HW.out C5)
      clear S4 Q4 R4 G5 P5 C5 y0 y1 y2 y3 y4 y5 y6 y7 y8
      go_wp2_with (at_builtin; refine wpList_append_own _ rfl _ _ 25 rfl (w2.heap.size + 1) 24 ti (.agg #[.int .i64 0, .int .i64 0, .int .i64 0, .int .i64 0, .int .i64 0, .bool false, .int .i64 0, .bool false, .slice none 0 0]) 9 88 Try.underlying25 hti hy0 hy1 hy2 rfl (by decide) (.slice (some ⟨g3, 0, none⟩) ps.length c3) ps.length (ps.flatMap PV.cells) rfl Q5.out.row ⟨g5, 0, none⟩ qs.length c5 (qs.flatMap PV.cells) rfl (flat_len qs) ?h1 ?h2 ?h3 ?h4 ?h5 ?_)
      case h1 => exact O5.out.src_all
      case h2 => exact flat_one _
      case h3 => unfold maxLen; omega
      case h4 => omega
      case h5 => exact S5.b5l
      intro v6 w6 ho6 hg6 hn6
      obtain ⟨g6, c6, rfl⟩ : ∃ g6 c6, v6 = .slice (some ⟨g6, 0, none⟩) (ps.length + qs.length) c6 := form_of ho6 hn6
      have S6 := S5.kept (k := g3) hg6 (by have := (own_lt Q5.out.row g3 rfl).1; omega) (by have := (own_lt Q5.out.row g3 rfl).1; omega) (fun e => own_ne Q5.out.row S5.own g rfl (by rw [← e]; rfl))
      have Q6 : Hid (PL w6 (w2.heap.size + 1) (.slice (some ⟨g6, 0, none⟩) (ps.length + qs.length) c6) (ps ++ qs)) := Q5.out.append O5.out.each ho6 hg6
      have R6 : Rdr w6 rb (700 + 4 + 1 + 4) := Rdr.keep R5 hg6.size (fun j hj => hg6.block j (by have := R5.lt; omega) (fun e => by have e' : j = g3 := Option.some.inj e; have := (own_lt Q5.out.row g3 rfl).1; omega))
      clear ho6 hg6 hn6 S5 Q5 O5 R5
      go_wp2_with fail
      have KM : Hid (Calls Try.prog 37 #[.pointer (some ⟨rb, 0, none⟩), .slice (some ⟨g6, 0, none⟩) (ps.length + qs.length) c6] w6.drew fun e w' => ∃ (gq cq : Nat) (rs : List PV), e = .returned (.slice (some ⟨gq, 0, none⟩) rs.length cq) ∧ PL w' (w2.heap.size + 1) (.slice (some ⟨gq, 0, none⟩) rs.length cq) rs ∧ (∀ y ∈ rs, y ∈ (ps ++ qs)) ∧ (∀ y ∈ (ps ++ qs), y ∈ rs) ∧ rs.length ≤ (ps.length + qs.length) + 3 ∧ Rdr w' rb (700 + 4 + 1 + 4 + ((ps.length + qs.length)) + 4) ∧ w6.drew.grownBy w' (some rb)) := l5Mix_any rb (700 + 4 + 1 + 4) (w2.heap.size + 1) g6 c6 ((ps.length + qs.length)) ((ps ++ qs)) w6.drew (by simp) (R6.below (draw1 _)) (by omega) (Q6.out.below (draw1 _)) (by omega) S6.b5l (by omega)
      have SD : Hid (WS w w6.drew p g c ds.length w2.heap.size rb w1.heap.size ds) := S6.drew
      clear Q6 R6 KC
      refine wp_region_held_drew (S := fun v => v.heap[w2.heap.size]? = some (.cells (pcells p (.slice (some ⟨g, 0, none⟩) ds.length c)) 24 (0, 0))) (by kernel_rfl) S6.box (fun hH => ?_)
      clear S6
      refine take_held 1 (some 31) (.pointer (some ⟨rb, 0, none⟩)) rfl rfl (by kernel_rfl) (by kernel_rfl) (by kernel_rfl) (fun _ _ _ h => h) (by rfl) (fun w hS => by obtain ⟨lx, s0, s1, s2, s3, s4, s5, s6, s7, s8⟩ := Boxed.of_block hS; go_simp) hH ?_
      simp only [Act.put, List.setIfInBounds_toArray, List.set_cons_zero, List.set_cons_succ]
      refine take_held 2 (some 32) (.slice (some ⟨g6, 0, none⟩) (ps.length + qs.length) c6) rfl rfl (by kernel_rfl) (by kernel_rfl) (by kernel_rfl) (fun _ _ _ h => h) (by rfl) (fun w hS => by obtain ⟨lx, s0, s1, s2, s3, s4, s5, s6, s7, s8⟩ := Boxed.of_block hS; go_simp) hH ?_
      simp only [Act.put, List.setIfInBounds_toArray, List.set_cons_zero, List.set_cons_succ]
      refine take_held 0 (some 30) (.agg #[.int .i64 p.src, .int .i64 p.dst, .int .i64 p.kind, .int .i64 p.id, .int .i64 p.hops, .bool p.whole, .int .i64 p.off, .bool p.more, .slice (some ⟨g, 0, none⟩) ds.length c]) rfl rfl (by kernel_rfl) (by kernel_rfl) (by kernel_rfl) (fun _ _ _ h => h) (by rfl) (fun w hS => by obtain ⟨lx, s0, s1, s2, s3, s4, s5, s6, s7, s8⟩ := Boxed.of_block hS; go_simp) hH ?_
      simp only [Act.put, List.setIfInBounds_toArray, List.set_cons_zero, List.set_cons_succ]
      refine wpAnyH_ready (rs := [3]) (by kernel_rfl) (by simp) ?_
      refine AllReadyH.cons rfl (fun K hK => ?_) AllReadyH.nil
      go_simp
      with_reducible refine KM.out.mono ?_
      rintro e w7 ⟨g7, c7, rs, rfl, Q7, m71, m72, l7, R7, G7⟩
      have S7 := SD.out.grown G7
      have M7 : Hid (Mixed p ds rs) := M5.out.mix m71 m72
      have F7 : ∀ o, w7.frozen? ⟨w.heap.size, o, none⟩ = false := fun o => Joins.unfrozen_of_block S7.zero o
      obtain ⟨lz, z0, z1, z2, z3, z4, z5, z6, z7, z8⟩ := Boxed.of_block S7.zero
      have hz7 := S7.zl
      go_simp
      refine hK.out _ _ S7.box (fun hH => ?_)
      clear hK K
      refine wpAnyH_ready (rs := [4]) (by kernel_rfl) (by simp) ?_
      refine AllReadyH.cons rfl (fun K hK => ?_) AllReadyH.nil
      go_simp
      refine hK.out _ _ ((heap9 _ _ _ (by omega) _ _ _ _ _ _ _ _ _).trans S7.box) (fun hH => ?_)
      clear hK K
      refine take_held 5 (some 3) (.slice (some ⟨g7, 0, none⟩) rs.length c7) rfl rfl (by kernel_rfl) (by kernel_rfl) (by kernel_rfl) (fun _ _ _ h => h) (by rfl) (fun w hS => by obtain ⟨lx, s0, s1, s2, s3, s4, s5, s6, s7, s8⟩ := Boxed.of_block hS; go_simp) hH ?_
      simp only [Act.put, List.setIfInBounds_toArray, List.set_cons_zero, List.set_cons_succ]
      refine wpAnyH_done (by kernel_rfl) ?_ _
      go_wp2
      refine bodyPost_ret (v := .tuple #[.agg #[.int .i64 p.src, .int .i64 p.dst, .int .i64 p.kind, .int .i64 p.id, .int .i64 p.hops, .bool p.whole, .int .i64 p.off, .bool p.more, .slice (some ⟨g, 0, none⟩) ds.length c], .slice (some ⟨g7, 0, none⟩) rs.length c7]) (by simp [results, Try.results10, go_sem, z0, z1, z2, z3, z4, z5, z6, z7, z8]) rfl ?_
      exact ways_post rfl HW.out (by omega) HBY.out S7 Q7 M7.out (by omega)
    · have hx' : ¬ (x = 0) := hx
      go_wp2_with fail
      have KM : Hid (Calls Try.prog 37 #[.pointer (some ⟨rb, 0, none⟩), .slice (some ⟨g3, 0, none⟩) ps.length c3] w4.drew fun e w' => ∃ (gq cq : Nat) (rs : List PV), e = .returned (.slice (some ⟨gq, 0, none⟩) rs.length cq) ∧ PL w' (w2.heap.size + 1) (.slice (some ⟨gq, 0, none⟩) rs.length cq) rs ∧ (∀ y ∈ rs, y ∈ ps) ∧ (∀ y ∈ ps, y ∈ rs) ∧ rs.length ≤ ps.length + 3 ∧ Rdr w' rb (700 + 4 + 1 + (ps.length) + 4) ∧ w4.drew.grownBy w' (some rb)) := l5Mix_any rb (700 + 4 + 1) (w2.heap.size + 1) g3 c3 (ps.length) (ps) w4.drew rfl (R4.below (draw1 _)) (by omega) (Q4.out.below (draw1 _)) (by omega) S4.b5l (by omega)
      have SD : Hid (WS w w4.drew p g c ds.length w2.heap.size rb w1.heap.size ds) := S4.drew
      clear Q4 R4 KC
      refine wp_region_held_drew (S := fun v => v.heap[w2.heap.size]? = some (.cells (pcells p (.slice (some ⟨g, 0, none⟩) ds.length c)) 24 (0, 0))) (by kernel_rfl) S4.box (fun hH => ?_)
      clear S4
      refine take_held 1 (some 31) (.pointer (some ⟨rb, 0, none⟩)) rfl rfl (by kernel_rfl) (by kernel_rfl) (by kernel_rfl) (fun _ _ _ h => h) (by rfl) (fun w hS => by obtain ⟨lx, s0, s1, s2, s3, s4, s5, s6, s7, s8⟩ := Boxed.of_block hS; go_simp) hH ?_
      simp only [Act.put, List.setIfInBounds_toArray, List.set_cons_zero, List.set_cons_succ]
      refine take_held 2 (some 32) (.slice (some ⟨g3, 0, none⟩) ps.length c3) rfl rfl (by kernel_rfl) (by kernel_rfl) (by kernel_rfl) (fun _ _ _ h => h) (by rfl) (fun w hS => by obtain ⟨lx, s0, s1, s2, s3, s4, s5, s6, s7, s8⟩ := Boxed.of_block hS; go_simp) hH ?_
      simp only [Act.put, List.setIfInBounds_toArray, List.set_cons_zero, List.set_cons_succ]
      refine take_held 0 (some 30) (.agg #[.int .i64 p.src, .int .i64 p.dst, .int .i64 p.kind, .int .i64 p.id, .int .i64 p.hops, .bool p.whole, .int .i64 p.off, .bool p.more, .slice (some ⟨g, 0, none⟩) ds.length c]) rfl rfl (by kernel_rfl) (by kernel_rfl) (by kernel_rfl) (fun _ _ _ h => h) (by rfl) (fun w hS => by obtain ⟨lx, s0, s1, s2, s3, s4, s5, s6, s7, s8⟩ := Boxed.of_block hS; go_simp) hH ?_
      simp only [Act.put, List.setIfInBounds_toArray, List.set_cons_zero, List.set_cons_succ]
      refine wpAnyH_ready (rs := [3]) (by kernel_rfl) (by simp) ?_
      refine AllReadyH.cons rfl (fun K hK => ?_) AllReadyH.nil
      go_simp
      with_reducible refine KM.out.mono ?_
      rintro e w7 ⟨g7, c7, rs, rfl, Q7, m71, m72, l7, R7, G7⟩
      have S7 := SD.out.grown G7
      have M7 : Hid (Mixed p ds rs) := M3.out.mix m71 m72
      have F7 : ∀ o, w7.frozen? ⟨w.heap.size, o, none⟩ = false := fun o => Joins.unfrozen_of_block S7.zero o
      obtain ⟨lz, z0, z1, z2, z3, z4, z5, z6, z7, z8⟩ := Boxed.of_block S7.zero
      have hz7 := S7.zl
      go_simp
      refine hK.out _ _ S7.box (fun hH => ?_)
      clear hK K
      refine wpAnyH_ready (rs := [4]) (by kernel_rfl) (by simp) ?_
      refine AllReadyH.cons rfl (fun K hK => ?_) AllReadyH.nil
      go_simp
      refine hK.out _ _ ((heap9 _ _ _ (by omega) _ _ _ _ _ _ _ _ _).trans S7.box) (fun hH => ?_)
      clear hK K
      refine take_held 5 (some 3) (.slice (some ⟨g7, 0, none⟩) rs.length c7) rfl rfl (by kernel_rfl) (by kernel_rfl) (by kernel_rfl) (fun _ _ _ h => h) (by rfl) (fun w hS => by obtain ⟨lx, s0, s1, s2, s3, s4, s5, s6, s7, s8⟩ := Boxed.of_block hS; go_simp) hH ?_
      simp only [Act.put, List.setIfInBounds_toArray, List.set_cons_zero, List.set_cons_succ]
      refine wpAnyH_done (by kernel_rfl) ?_ _
      go_wp2
      refine bodyPost_ret (v := .tuple #[.agg #[.int .i64 p.src, .int .i64 p.dst, .int .i64 p.kind, .int .i64 p.id, .int .i64 p.hops, .bool p.whole, .int .i64 p.off, .bool p.more, .slice (some ⟨g, 0, none⟩) ds.length c], .slice (some ⟨g7, 0, none⟩) rs.length c7]) (by simp [results, Try.results10, go_sem, z0, z1, z2, z3, z4, z5, z6, z7, z8]) rfl ?_
      exact ways_post rfl HW.out (by omega) HBY.out S7 Q7 M7.out (by omega)
end Go.Proofs.Ytjbkgmbakjnlhaa
