/- The contract of l5Piece: a packet or a piece is drawn. -/
import Derived.Test.YtjbkgmbakjnlhaaCutTwo
namespace Go.Proofs.Ytjbkgmbakjnlhaa
open Go.RowKit

def AnyPk (_ : Pk) (_ : Nat) : Prop := True

theorem cuts_small {p : Pk} {zs : List Int} {ps : List PV} (h : CutsOf p zs (ps.map PV.key)) : ∀ y ∈ ps, y.zs.length ≤ zs.length := by
  intro y hy
  have hm : y.key ∈ ps.map PV.key := List.mem_map_of_mem hy
  obtain ⟨most, _, _, h | ⟨k, more, x, hx, _, _, h⟩⟩ := h
  · rw [h] at hm
    exact cutL_small p zs most _ hm
  · rw [h] at hm
    have hxs := cutL_small p zs most x (List.mem_of_getElem? hx)
    rcases List.mem_append.1 hm with hm | hm
    · rcases List.mem_append.1 hm with hm | hm
      · exact cutL_small p zs most _ (List.mem_of_mem_take hm)
      · exact Nat.le_trans (cutL_small x.1 x.2 more _ hm) hxs
    · exact cutL_small p zs most _ (List.mem_of_mem_drop hm)
theorem cuts_sub {p : Pk} {zs : List Int} {ps : List PV} (h : CutsOf p zs (ps.map PV.key)) : ∀ y ∈ ps, ∀ z ∈ y.zs, z ∈ zs := by
  intro y hy
  have hm : y.key ∈ ps.map PV.key := List.mem_map_of_mem hy
  obtain ⟨most, _, _, h | ⟨k, more, x, hx, _, _, h⟩⟩ := h
  · rw [h] at hm
    exact cutL_sub p zs most _ hm
  · rw [h] at hm
    have hxs := cutL_sub p zs most x (List.mem_of_getElem? hx)
    rcases List.mem_append.1 hm with hm | hm
    · rcases List.mem_append.1 hm with hm | hm
      · exact cutL_sub p zs most _ (List.mem_of_mem_take hm)
      · exact fun z hz => hxs z (cutL_sub x.1 x.2 more _ hm z hz)
    · exact cutL_sub p zs most _ (List.mem_of_mem_drop hm)
theorem cuts_small_len {p : Pk} {zs : List Int} {ps : List PV} (h : CutsOf p zs (ps.map PV.key)) (hl : zs.length ≤ 200) : ps.length ≤ 1000 := by
  obtain ⟨most, h0, h1, h | ⟨k, more, x, hx, h2, h3, h⟩⟩ := h
  · have e := congrArg List.length h
    have := cutL_len p zs most h0 h1
    simp at e
    omega
  · have e := congrArg List.length h
    have a := cutL_len p zs most h0 h1
    have hxs := cutL_small p zs most x (List.mem_of_getElem? hx)
    have b := cutL_len x.1 x.2 more h2 (by omega)
    simp at e
    omega

/-- how a packet that was drawn is handed back: the last steps of a draw -/
theorem pkt_post {rb M lo : Nat} {w w1 w' : World} {p : Pk} {g c : Nat} {zs : List Int} (hlo : w.heap.size ≤ lo) (ho : w1.ownsRow lo 5 1 (.slice (some ⟨g, 0, none⟩) zs.length c) zs.length (zs.map (.int .u8))) (hl : zs.length ≤ 200) (hR : Rdr w1 rb M) (hlt : rb < w.heap.size) (hG : w.grownBy w1 (some rb)) (hb : Below w.heap.size w1 w') (hk : w'.heap[g]? = w1.heap[g]?) (hy : ∀ z ∈ zs, 0 ≤ z ∧ z ≤ 255) :
    PktPost rb M w.heap.size AnyPk w (.returned (p.val (.slice (some ⟨g, 0, none⟩) zs.length c))) w' :=
  ⟨p, g, c, zs.length, zs, rfl, Joins.ownsRow_le (own_kept ho fun k e => by cases e; exact hk) hlo, rfl, hl, trivial, hR.upto hb hlt, grown_b hG hb (Nat.le_refl _), hy⟩

set_option maxRecDepth 100000 in
set_option maxHeartbeats 3200000 in
theorem l5Piece_any (rb N : Nat) (w : World) (hR : Rdr w rb N) (hN : N ≤ 80000) :
    Calls Try.prog 82 #[.pointer (some ⟨rb, 0, none⟩)] w (PktPost rb (N + 720) w.heap.size AnyPk w) := by
  have hlt := hR.lt
  have hne : some w.heap.size ≠ some rb := fun e => by have := Option.some.inj e; omega
  go_enter Try.func82, Try.ntmps82
  go_wp2_with fail
  refine (l5Whole_any rb N _ (hR.below (Joins.below_alloc1 _ _)) (by omega)).mono ?_
  rintro e w1 ⟨p, g, c, len, zs, rfl, o1, hz, hl, -, R1, G, hby⟩
  subst hz
  have HBY : Hid (∀ z ∈ zs, 0 ≤ z ∧ z ≤ 255) := hby
  clear hby
  have o1' : w1.ownsRow (w.heap.size + 1) 5 1 (.slice (some ⟨g, 0, none⟩) zs.length c) zs.length (zs.map (.int .u8)) := Joins.ownsRow_le o1 (by simp)
  have Z1 : w1.heap[w.heap.size]? = some (.cells (pcells zeroPk (.slice none 0 0)) 24 (0, 0)) := (G.block _ (by simp) hne).trans (heap_new _ _ _ rfl)
  have G1 : w.grownBy w1 (some rb) := grown_trans (grown_alloc _ _ _) G
  have hs1 : w.heap.size < w1.heap.size := lt_of_block Z1
  have hgx : g ≠ w1.heap.size := by have := (own_lt o1' g rfl).2; omega
  have hgz : g ≠ w.heap.size := by have := (own_lt o1' g rfl).1; omega
  clear G o1 hR
  unfold Pk.val
  go_wp2_with fail
  refine (l5Cuts_any rb (N + 700) (w.heap.size + 1) p g c zs _ (R1.below (Joins.below_alloc1 _ _)) (by omega) (own_below o1' (Joins.below_alloc1 _ _)) (by omega) hl).mono ?_
  rintro e w2 ⟨g2, c2, ps, rfl, P2, K2, R2, G⟩
  have hnb : some w1.heap.size ≠ some rb := fun e => by have := Option.some.inj e; omega
  have Z2 := (G.block _ (by simp; omega) hne).trans ((Below.heap_alloc _ _ _ hs1).trans Z1)
  have X2 : w2.heap[w1.heap.size]? = some (.cells (pcells p (.slice (some ⟨g, 0, none⟩) zs.length c)) 24 (0, 0)) := (G.block _ (by simp) hnb).trans (heap_new _ _ _ rfl)
  have o2 := own_grown (own_below o1' (Joins.below_alloc1 _ (.cells (pcells p (.slice (some ⟨g, 0, none⟩) zs.length c)) 24))) G (by omega)
  have G2 : w.grownBy w2 (some rb) := grown_trans (grown_trans G1 (grown_alloc _ _ _)) G
  have P2' : PL w2 (w1.heap.size + 1) (.slice (some ⟨g2, 0, none⟩) ps.length c2) ps := P2.le (by simp)
  have hpl := cuts_small_len K2 hl
  have hpz := cuts_small K2
  have HPS : Hid (∀ y ∈ ps, ∀ z ∈ y.zs, 0 ≤ z ∧ z ≤ 255) := fun y hy z hz => HBY.out z (cuts_sub K2 y hy z hz)
  clear G G1 Z1 o1' R1 P2 K2
  go_wp2_with fail
  refine (pick_any rb (N + 700 + 4) 6 _ R2 (by omega) (by omega) (by omega)).mono ?_
  rintro e w3 ⟨x, rfl, x0, x1, -, R3, G⟩
  have Z3 := (G.block _ (lt_of_block Z2) hne).trans Z2
  have X3 := (G.block _ (lt_of_block X2) hnb).trans X2
  have o3 := own_grown o2 G (by omega)
  have P3 := P2'.grown G (by omega)
  have G3 := grown_trans G2 G
  clear G G2 Z2 X2 o2 R2 P2'
  by_cases hx : x = 0
  · subst hx
    go_wp2_with fail
    refine (pick_any rb (N + 700 + 4 + 1) 2 _ R3 (by omega) (by omega) (by omega)).mono ?_
    rintro e w4 ⟨y, rfl, y0, y1, -, R4, G⟩
    have Z4 := (G.block _ (lt_of_block Z3) hne).trans Z3
    have X4 := (G.block _ (lt_of_block X3) hnb).trans X3
    have o4 := own_grown o3 G (by omega)
    have G4 := grown_trans G3 G
    have fx : ∀ o, w4.frozen? ⟨w1.heap.size, o, none⟩ = false := fun o => Joins.unfrozen_of_block X4 o
    have fz : ∀ o, w4.frozen? ⟨w.heap.size, o, none⟩ = false := fun o => Joins.unfrozen_of_block Z4 o
    obtain ⟨_, c0, c1, c2', c3, c4, c5, c6, c7, c8⟩ := Boxed.of_block X4
    obtain ⟨_, z0, z1, z2, z3, z4, z5, z6, z7, z8⟩ := Boxed.of_block Z4
    have OH : Hid (w4.ownsRow (w.heap.size + 1) 5 1 (.slice (some ⟨g, 0, none⟩) zs.length c) zs.length (zs.map (.int .u8))) := o4
    have GH : Hid (w.grownBy w4 (some rb)) := G4
    have RH : Hid (Rdr w4 rb (N + 720)) := R4.mono (by omega)

    clear G G3 G4 o3 o4 Z3 X3 Z4 X4 R3 R4 P3
    go_wp2
    refine bodyPost_ret (v := .agg #[.int .i64 p.src, .int .i64 p.dst, .int .i64 p.kind, .int .i64 p.id, .int .i64 p.hops, .bool (y == 0), .int .i64 p.off, .bool p.more, .slice (some ⟨g, 0, none⟩) zs.length c]) (by simp [results, Try.results82, go_sem, z0, z1, z2, z3, z4, z5, z6, z7, z8]) rfl ?_
    exact pkt_post (p := ⟨p.src, p.dst, p.kind, p.id, p.hops, (y == 0), p.off, p.more⟩) (lo := w.heap.size + 1) (by omega) OH.out hl RH.out hlt GH.out (below9 ((Below.refl _ _).setCell (Nat.le_of_lt hs1) _) (Nat.le_refl _) _ _ _ _ _ _ _ _ _) ((heap9 _ _ _ hgz _ _ _ _ _ _ _ _ _).trans (Below.heap_setCell _ _ _ _ hgx)) HBY.out
  have hxb : (x == 0) = false := by simp [hx]
  by_cases hz : ps.length = 0
  · have hzb : ((ps.length : Int) == 0) = true := by simp [hz]
    clear hz
    go_wp2_with fail
    refine (pick_any rb (N + 700 + 4 + 1) 2 _ R3 (by omega) (by omega) (by omega)).mono ?_
    rintro e w4 ⟨y, rfl, y0, y1, -, R4, G⟩
    have Z4 := (G.block _ (lt_of_block Z3) hne).trans Z3
    have X4 := (G.block _ (lt_of_block X3) hnb).trans X3
    have o4 := own_grown o3 G (by omega)
    have G4 := grown_trans G3 G
    have fx : ∀ o, w4.frozen? ⟨w1.heap.size, o, none⟩ = false := fun o => Joins.unfrozen_of_block X4 o
    have fz : ∀ o, w4.frozen? ⟨w.heap.size, o, none⟩ = false := fun o => Joins.unfrozen_of_block Z4 o
    obtain ⟨_, c0, c1, c2', c3, c4, c5, c6, c7, c8⟩ := Boxed.of_block X4
    obtain ⟨_, z0, z1, z2, z3, z4, z5, z6, z7, z8⟩ := Boxed.of_block Z4
    have OH : Hid (w4.ownsRow (w.heap.size + 1) 5 1 (.slice (some ⟨g, 0, none⟩) zs.length c) zs.length (zs.map (.int .u8))) := o4
    have GH : Hid (w.grownBy w4 (some rb)) := G4
    have RH : Hid (Rdr w4 rb (N + 720)) := R4.mono (by omega)

    clear G G3 G4 o3 o4 Z3 X3 Z4 X4 R3 R4 P3
    go_wp2
    refine bodyPost_ret (v := .agg #[.int .i64 p.src, .int .i64 p.dst, .int .i64 p.kind, .int .i64 p.id, .int .i64 p.hops, .bool (y == 0), .int .i64 p.off, .bool p.more, .slice (some ⟨g, 0, none⟩) zs.length c]) (by simp [results, Try.results82, go_sem, z0, z1, z2, z3, z4, z5, z6, z7, z8]) rfl ?_
    exact pkt_post (p := ⟨p.src, p.dst, p.kind, p.id, p.hops, (y == 0), p.off, p.more⟩) (lo := w.heap.size + 1) (by omega) OH.out hl RH.out hlt GH.out (below9 ((Below.refl _ _).setCell (Nat.le_of_lt hs1) _) (Nat.le_refl _) _ _ _ _ _ _ _ _ _) ((heap9 _ _ _ hgz _ _ _ _ _ _ _ _ _).trans (Below.heap_setCell _ _ _ _ hgx)) HBY.out
  · have hzb : ((ps.length : Int) == 0) = false := by rw [beq_eq_false_iff_ne]; omega
    go_wp2_with fail
    refine (pick_any rb (N + 700 + 4 + 1) (ps.length : Int) _ R3 (by omega) (by omega) (by omega)).mono ?_
    rintro e w4 ⟨ki, rfl, k0, k1, -, R4, G⟩
    obtain ⟨k, rfl⟩ := Int.eq_ofNat_of_zero_le k0
    have k2 : k < ps.length := by have := k1 (by omega); omega
    have k3 : (k : Int) < (ps.length : Int) := by omega
    obtain ⟨y, hy⟩ : ∃ y, ps[k]? = some y := ⟨_, List.getElem?_eq_getElem k2⟩
    have Z4 := (G.block _ (lt_of_block Z3) hne).trans Z3
    have P4 := P3.grown G (by omega)
    have G4 := grown_trans G3 G
    have fz : ∀ o, w4.frozen? ⟨w.heap.size, o, none⟩ = false := fun o => Joins.unfrozen_of_block Z4 o
    obtain ⟨c0, c1, c2', c3, c4, c5, c6, c7, c8⟩ := P4.elem hy
    obtain ⟨_, z0, z1, z2, z3, z4, z5, z6, z7, z8⟩ := Boxed.of_block Z4
    have YH : Hid (y.own w4 (w1.heap.size + 1)) := P4.each y (List.mem_of_getElem? hy)
    have hyl : y.zs.length ≤ 200 := Nat.le_trans (hpz y (List.mem_of_getElem? hy)) hl
    have HYM : Hid (y ∈ ps) := List.mem_of_getElem? hy
    have hyg : y.g ≠ w.heap.size := by have := (own_lt YH.out y.g rfl).1; omega
    have GH : Hid (w.grownBy w4 (some rb)) := G4
    have RH : Hid (Rdr w4 rb (N + 720)) := R4.mono (by omega)
    clear G G3 G4 o3 Z3 X3 Z4 R3 R4 P3 P4 hy
    go_wp2
    refine bodyPost_ret (v := .agg #[.int .i64 y.p.src, .int .i64 y.p.dst, .int .i64 y.p.kind, .int .i64 y.p.id, .int .i64 y.p.hops, .bool y.p.whole, .int .i64 y.p.off, .bool y.p.more, .slice (some ⟨y.g, 0, none⟩) y.zs.length y.c]) (by simp [results, Try.results82, go_sem, z0, z1, z2, z3, z4, z5, z6, z7, z8]) rfl ?_
    exact pkt_post (p := y.p) (lo := w1.heap.size + 1) (by omega) YH.out hyl RH.out hlt GH.out (below9 (Below.refl _ _) (Nat.le_refl _) _ _ _ _ _ _ _ _ _) (heap9 _ _ _ hyg _ _ _ _ _ _ _ _ _) (HPS.out y HYM.out)
end Go.Proofs.Ytjbkgmbakjnlhaa

/- Plain facts on pieces: what a whole packet is cut into, once or twice, are pieces of it, and they have every byte of it and its end. -/
namespace Go.Proofs.Ytjbkgmbakjnlhaa

/-- a piece of a whole packet: so many bytes from a place on -/
def PieceAt (p : Pk) (zs : List Int) (m l : Nat) (x : Pk × List Int) : Prop :=
  x.1 = ⟨p.src, p.dst, p.kind, p.id, p.hops, p.whole, (m : Int), decide (m + l < zs.length)⟩ ∧ x.2 = (zs.drop m).take l ∧ m % 4 = 0 ∧ m + l ≤ zs.length ∧ (m + l < zs.length → 0 < l ∧ l % 4 = 0)
def PieceOf (p : Pk) (zs : List Int) (x : Pk × List Int) : Prop := ∃ m l, PieceAt p zs m l x
/-- some piece of a list has the byte at a place; some piece tells of the end -/
def Cov (L : List (Pk × List Int)) (j : Nat) : Prop := ∃ y ∈ L, y.1.off ≤ j ∧ (j : Int) < y.1.off + y.2.length
def Ends (L : List (Pk × List Int)) : Prop := ∃ y ∈ L, y.1.more = false

theorem PieceAt.len {p : Pk} {zs : List Int} {m l : Nat} {x : Pk × List Int} (h : PieceAt p zs m l x) : x.2.length = l := by
  rw [h.2.1]; have := h.2.2.2.1; simp; omega
theorem piece_whole {p : Pk} {zs : List Int} (h : WholeOk p zs.length) : PieceAt p zs 0 zs.length (p, zs) := by
  obtain ⟨_, h1, h2, h3⟩ := h
  refine ⟨?_, by simp, rfl, by omega, fun h => by omega⟩
  obtain ⟨a, b, c, d, e, f, g, i⟩ := p
  simp at h1 h2 h3 ⊢
  exact ⟨h2, h3⟩
theorem PieceAt.ok {p : Pk} {zs : List Int} {m l : Nat} {x : Pk × List Int} (hw : WholeOk p zs.length) (h : PieceAt p zs m l x) : okB x.1 x.2.length = true := by
  obtain ⟨h0, h1, h2, h3⟩ := hw
  have hl := h.len
  obtain ⟨e1, e2, h4, h5, h6⟩ := h
  rw [hl, e1]
  simp only [okB, headB, offB, moreB, wholeB, inB, Bool.and_eq_true, Bool.or_eq_true, decide_eq_true_eq, beq_iff_eq, Bool.not_eq_true', beq_eq_false_iff_ne, decide_eq_false_iff_not] at h0 ⊢
  obtain ⟨⟨⟨⟨⟨⟨⟨a1, a2⟩, a3⟩, a4⟩, a5⟩, ⟨⟨a6, a7⟩, a8⟩⟩, a9⟩, a10⟩ := h0
  rw [h2] at a8
  refine ⟨⟨⟨⟨⟨⟨⟨a1, a2⟩, a3⟩, a4⟩, a5⟩, ⟨⟨⟨by omega, by omega⟩, by omega⟩, by omega⟩⟩, ?_⟩, Or.inl h1⟩
  by_cases hc : m + l < zs.length
  · right
    have := h6 hc
    omega
  · exact Or.inl hc

/-- the numbers of a cut -/
theorem cutN_facts {most : Int} (h0 : 12 ≤ most) : 4 ≤ cutN most ∧ cutN most % 4 = 0 := by
  unfold cutN; omega

theorem piece_mem {p : Pk} {zs : List Int} {m l n i : Nat} {x : Pk × List Int} (h : PieceAt p zs m l x) (hn : 4 ≤ n) (hn4 : n % 4 = 0) (hi : i * n < l) :
    PieceAt p zs (m + i * n) (min n (l - i * n)) (pieceP x.1 x.2.length (i * n) n, pieceD x.2 (i * n) n) := by
  have hl := h.len
  obtain ⟨e1, e2, h4, h5, h6⟩ := h
  have hin : (i * n) % 4 = 0 := by rw [Nat.mul_mod, hn4]; simp
  refine ⟨?_, ?_, by omega, by omega, fun hc => ?_⟩
  · rw [hl]
    unfold pieceP
    rw [e1]
    simp
    rw [Bool.eq_iff_iff]
    simp
    omega
  · simp only [pieceD, e2, List.drop_take, List.take_take, List.drop_drop]
  · by_cases hc2 : i * n + n < l
    · rw [Nat.min_eq_left (by omega)]; omega
    · rw [Nat.min_eq_right (by omega)] at hc ⊢
      have := h6 (by omega)
      omega

theorem count_lt {l n i : Nat} (_hn : 0 < n) (hi : i < (l + n - 1) / n) : i * n < l := by
  have h1 : (i + 1) * n ≤ l + n - 1 := Nat.le_trans (Nat.mul_le_mul_right n hi) (Nat.div_mul_le_self _ _)
  rw [Nat.add_mul] at h1
  omega
theorem lt_count {l n i : Nat} (hn : 0 < n) (hi : i * n < l) : i < (l + n - 1) / n := by
  have h1 : i + 1 ≤ (l + n - 1) / n := (Nat.le_div_iff_mul_le hn).2 (by rw [Nat.add_mul]; omega)
  exact h1

/-- the pieces of a piece, in the one form or the other -/
theorem cutL_forms {p : Pk} {zs : List Int} {m l : Nat} {x : Pk × List Int} {most : Int} (hw : WholeOk p zs.length) (h : PieceAt p zs m l x) (h0 : 12 ≤ most) :
    cutL x.1 x.2 most = [x] ∨ (0 < l ∧ cutL x.1 x.2 most = cutTo x.1 x.2 (cutN most) ((l + cutN most - 1) / cutN most)) := by
  have hok := h.ok hw
  have hl := h.len
  have hwh : x.1.whole = false := by rw [h.1]; exact hw.2.1
  unfold cutL
  rw [hok, if_pos rfl, if_neg (by omega)]
  by_cases hf : 8 + (x.2.length : Int) ≤ most
  · rw [if_pos hf]; exact Or.inl rfl
  · rw [if_neg hf, hwh, if_neg (by simp), hl]
    exact Or.inr ⟨by omega, rfl⟩

theorem cut_piece {p : Pk} {zs : List Int} {m l : Nat} {x : Pk × List Int} {most : Int} (hw : WholeOk p zs.length) (h : PieceAt p zs m l x) (h0 : 12 ≤ most) : ∀ y ∈ cutL x.1 x.2 most, PieceOf p zs y := by
  have hn := cutN_facts h0
  intro y hy
  rcases cutL_forms hw h h0 with e | ⟨_, e⟩
  · rw [e] at hy
    obtain rfl := List.mem_singleton.1 hy
    exact ⟨m, l, h⟩
  · rw [e] at hy
    obtain ⟨i, hi, rfl⟩ := List.mem_map.1 hy
    exact ⟨_, _, piece_mem h hn.1 hn.2 (count_lt (by omega) (List.mem_range.1 hi))⟩
theorem cut_mem {p : Pk} {zs : List Int} {m l i : Nat} {x : Pk × List Int} {n : Nat} (_h : PieceAt p zs m l x) (hn : 0 < n) (hi : i * n < l) : (pieceP x.1 x.2.length (i * n) n, pieceD x.2 (i * n) n) ∈ cutTo x.1 x.2 n ((l + n - 1) / n) :=
  List.mem_map.2 ⟨i, List.mem_range.2 (lt_count hn hi), rfl⟩
theorem PieceAt.off {p : Pk} {zs : List Int} {m l : Nat} {x : Pk × List Int} (h : PieceAt p zs m l x) : x.1.off = m := by rw [h.1]
theorem cut_cov {p : Pk} {zs : List Int} {m l : Nat} {x : Pk × List Int} {most : Int} (hw : WholeOk p zs.length) (h : PieceAt p zs m l x) (h0 : 12 ≤ most) {j : Nat} (j0 : m ≤ j) (j1 : j < m + l) : Cov (cutL x.1 x.2 most) j := by
  have hn := cutN_facts h0
  rcases cutL_forms hw h h0 with e | ⟨_, e⟩
  · rw [e]
    exact ⟨x, List.mem_singleton.2 rfl, by rw [h.off]; omega, by rw [h.off, h.len]; omega⟩
  · rw [e]
    generalize cutN most = n at *
    have hd := Nat.div_add_mod (j - m) n
    have hm := Nat.mod_lt (j - m) (show 0 < n by omega)
    rw [Nat.mul_comm] at hd
    have hi : (j - m) / n * n < l := by omega
    have hp := piece_mem h hn.1 hn.2 hi
    exact ⟨_, cut_mem h (by omega) hi, by rw [hp.off]; omega, by rw [hp.off, hp.len]; omega⟩
theorem cut_ends {p : Pk} {zs : List Int} {m l : Nat} {x : Pk × List Int} {most : Int} (hw : WholeOk p zs.length) (h : PieceAt p zs m l x) (h0 : 12 ≤ most) (he : m + l = zs.length) : Ends (cutL x.1 x.2 most) := by
  have hn := cutN_facts h0
  rcases cutL_forms hw h h0 with e | ⟨hl, e⟩
  · rw [e]
    exact ⟨x, List.mem_singleton.2 rfl, by rw [h.1]; simp; omega⟩
  · rw [e]
    generalize cutN most = n at *
    have hd := Nat.div_add_mod (l - 1) n
    have hm := Nat.mod_lt (l - 1) (show 0 < n by omega)
    rw [Nat.mul_comm] at hd
    have hi : (l - 1) / n * n < l := by omega
    have hp := piece_mem h hn.1 hn.2 hi
    exact ⟨_, cut_mem h (by omega) hi, by rw [hp.1]; simp; omega⟩

/-- WHAT A WHOLE PACKET IS CUT INTO: pieces of it, every byte, the end. -/
structure Ways (p : Pk) (zs : List Int) (L : List (Pk × List Int)) : Prop where
  each : ∀ y ∈ L, PieceOf p zs y
  cov : ∀ j, j < zs.length → Cov L j
  ends : Ends L
theorem ways_once {p : Pk} {zs : List Int} {most : Int} (hw : WholeOk p zs.length) (h0 : 12 ≤ most) : Ways p zs (cutL p zs most) := by
  have h := piece_whole hw
  have a := cut_piece hw h h0
  have c := cut_ends hw h h0 (Nat.zero_add _)
  refine ⟨a, fun j hj => ?_, c⟩
  have b := cut_cov hw h h0 (j := j) (Nat.zero_le j) (Nat.lt_of_lt_of_eq hj (Nat.zero_add _).symm)
  exact b
theorem Cov.mono {L L' : List (Pk × List Int)} {j : Nat} (h : Cov L j) (hs : ∀ y ∈ L, y ∈ L') : Cov L' j := by
  obtain ⟨y, hy, h1, h2⟩ := h
  exact ⟨y, hs y hy, h1, h2⟩
theorem Ends.mono {L L' : List (Pk × List Int)} (h : Ends L) (hs : ∀ y ∈ L, y ∈ L') : Ends L' := by
  obtain ⟨y, hy, h1⟩ := h
  exact ⟨y, hs y hy, h1⟩
/-- a list with the same pieces, in whatever order, some of them twice -/
theorem Ways.mix {p : Pk} {zs : List Int} {L L' : List (Pk × List Int)} (h : Ways p zs L) (h1 : ∀ y ∈ L, y ∈ L') (h2 : ∀ y ∈ L', y ∈ L) : Ways p zs L' :=
  ⟨fun y hy => h.each y (h2 y hy), fun j hj => (h.cov j hj).mono h1, h.ends.mono h1⟩
theorem Ways.both {p : Pk} {zs : List Int} {L L' : List (Pk × List Int)} (h : Ways p zs L) (h' : ∀ y ∈ L', PieceOf p zs y) : Ways p zs (L ++ L') :=
  ⟨fun y hy => (List.mem_append.1 hy).elim (h.each y) (h' y), fun j hj => (h.cov j hj).mono fun _ hy => List.mem_append_left _ hy, h.ends.mono fun _ hy => List.mem_append_left _ hy⟩
theorem mem_split {L : List (Pk × List Int)} {k : Nat} {x y : Pk × List Int} (hx : L[k]? = some x) (hy : y ∈ L) : y = x ∨ y ∈ L.take k ∨ y ∈ L.drop (k + 1) := by
  obtain ⟨i, hi⟩ := List.getElem?_of_mem hy
  rcases Nat.lt_trichotomy i k with h | h | h
  · right; left
    exact List.mem_of_getElem? (i := i) (by rw [List.getElem?_take, if_pos h]; exact hi)
  · subst h
    rw [hx] at hi
    exact Or.inl (Option.some.inj hi).symm
  · right; right
    exact List.mem_of_getElem? (i := i - (k + 1)) (by rw [List.getElem?_drop, show k + 1 + (i - (k + 1)) = i by omega]; exact hi)
theorem CutsOf.ways {p : Pk} {zs : List Int} {L : List (Pk × List Int)} (hw : WholeOk p zs.length) (h : CutsOf p zs L) : Ways p zs L := by
  obtain ⟨most, h0, _, rfl | ⟨k, more, x, hx, m0, _, rfl⟩⟩ := h
  · exact ways_once hw h0
  · have W := ways_once hw h0
    obtain ⟨m, l, hp⟩ := W.each x (List.mem_of_getElem? hx)
    refine ⟨fun y hy => ?_, fun j hj => ?_, ?_⟩
    · rcases List.mem_append.1 hy with hy | hy
      · rcases List.mem_append.1 hy with hy | hy
        · exact W.each y (List.mem_of_mem_take hy)
        · exact cut_piece hw hp m0 y hy
      · exact W.each y (List.mem_of_mem_drop hy)
    · obtain ⟨y, hy, y0, y1⟩ := W.cov j hj
      rcases mem_split hx hy with rfl | hy | hy
      · rw [hp.off] at y0 y1
        rw [hp.len] at y1
        exact (cut_cov hw hp m0 (by omega) (by omega)).mono fun z hz => List.mem_append_left _ (List.mem_append_right _ hz)
      · exact ⟨y, List.mem_append_left _ (List.mem_append_left _ hy), y0, y1⟩
      · exact ⟨y, List.mem_append_right _ hy, y0, y1⟩
    · obtain ⟨y, hy, y0⟩ := W.ends
      rcases mem_split hx hy with rfl | hy | hy
      · have he : m + l = zs.length := by
          rw [hp.1] at y0
          have := hp.2.2.2.1
          simp at y0
          omega
        exact (cut_ends hw hp m0 he).mono fun z hz => List.mem_append_left _ (List.mem_append_right _ hz)
      · exact ⟨y, List.mem_append_left _ (List.mem_append_left _ hy), y0⟩
      · exact ⟨y, List.mem_append_right _ hy, y0⟩
end Go.Proofs.Ytjbkgmbakjnlhaa
