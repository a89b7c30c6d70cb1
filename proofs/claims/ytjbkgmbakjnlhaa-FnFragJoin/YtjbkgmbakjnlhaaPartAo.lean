/- The contract of wfSame at equal packets. -/
import Derived.Test.YtjbkgmbakjnlhaaPartAa
import Derived.Test.YtjbkgmbakjnlhaaPartAh
import Derived.Test.YtjbkgmbakjnlhaaPartAg
import Derived.Test.YtjbkgmbakjnlhaaWaysD
import Derived.Test.YtjbkgmbakjnlhaaPartAm
import Derived.Test.YtjbkgmbakjnlhaaSpecJ
namespace Go.Proofs.Ytjbkgmbakjnlhaa
open Go.RowKit

/-- two packets in new boxes -/
def twoBox (w : World) (p : Pk) (v1 v2 : Value) : World := (w.alloc (.cells (pcells p v1) 24)).alloc (.cells (pcells p v2) 24)
theorem twoBox_at (w : World) (p : Pk) (v1 v2 : Value) : Boxed (twoBox w p v1 v2) w.heap.size p v1 ∧ Boxed (twoBox w p v1 v2) (w.heap.size + 1) p v2 :=
  ⟨(Boxed.new w p v1 24).below (Joins.below_alloc1 _ _), Boxed.newAt _ _ p v2 24 (by simp)⟩

set_option maxHeartbeats 1600000 in
theorem wfSame_same (p : Pk) (a1 a2 : Option Addr) (len cap1 cap2 : Nat) (zs : List Int) (w : World) (hr1 : RdB w a1 len zs) (hr2 : RdB w a2 len zs) (hl : len ≤ 1048576) :
    Calls Try.prog 13 #[p.val (.slice a1 len cap1), p.val (.slice a2 len cap2)] w fun e w' => e = .returned (.bool true) ∧ Below w.heap.size w w' := by
  unfold Pk.val
  have hn : ∀ x : Int, (x != x) = false := fun x => by simp
  have hb : ∀ x : Bool, (x != x) = false := fun x => by simp
  obtain ⟨hz, hc1⟩ := hr1
  obtain ⟨_, hc2⟩ := hr2
  subst hz
  by_cases h0 : zs.length = 0
  · have hnil : zs = [] := List.length_eq_zero_iff.1 h0
    subst hnil
    clear hc1 hc2 h0
    go_enter Try.func13, Try.ntmps13
    go_wp2
    refine wp_loop_rounds 1 ?_
    rw [rounds_succ]
    go_wp2
    go_ret
    exact ⟨rfl, Joins.below_alloc2 _ _ _⟩
  · obtain ⟨b1, off1, rfl, hb1, hc1⟩ := hc1.resolve_left h0
    obtain ⟨b2, off2, rfl, hb2, hc2⟩ := hc2.resolve_left h0
    go_enter Try.func13, Try.ntmps13
    go_wp2
    go_loopw [5] (fun i wr => ∃ k : Nat, k ≤ zs.length ∧ i = .int .i64 k ∧ Hid (Below (w.heap.size + 2) (twoBox w p (.slice (some ⟨b1, off1, none⟩) zs.length cap1) (.slice (some ⟨b2, off2, none⟩) zs.length cap2)) wr)) (fun i _ => zs.length - (intOf i).toNat)
    case atStart => exact ⟨0, Nat.zero_le _, rfl, Below.refl _ _⟩
    case round =>
      obtain ⟨k, hk, rfl, HW⟩ := hrel
      have x8 : wr.cell? ⟨w.heap.size, 8, none⟩ = some (.slice (some ⟨b1, off1, none⟩) zs.length cap1) := ((twoBox_at w p _ _).1.upto HW.out (by omega)).c8
      have y8 : wr.cell? ⟨w.heap.size + 1, 8, none⟩ = some (.slice (some ⟨b2, off2, none⟩) zs.length cap2) := ((twoBox_at w p _ _).2.upto HW.out (by omega)).c8
      have HB : Hid (Below w.heap.size w wr) := (Joins.below_alloc2 _ _ _).trans (HW.out.mono (by omega))
      by_cases hlt : k < zs.length
      · have hcell1 := (HB.out.cell (p := ⟨b1, off1 + k, none⟩) hb1).trans (hc1 k hlt)
        have hcell2 := (HB.out.cell (p := ⟨b2, off2 + k, none⟩) hb2).trans (hc2 k hlt)
        have hi : (k : Int) < (zs.length : Int) := by omega
        clear hc1 hc2
        go_wp2
        go_quiet (fail)
        go_wp2
        go_roundw
        case rel => exact ⟨k + 1, by omega, by go_num, HW.out.trans (Joins.below_draws _ _ _)⟩
        case measure => simp [intOf]; omega
      · go_wp2
        go_ret
        exact ⟨rfl, HB.out⟩
end Go.Proofs.Ytjbkgmbakjnlhaa

/- What a whole packet was cut into joins to it, in whatever order. -/
namespace Go.Proofs.Ytjbkgmbakjnlhaa

theorem PieceAt.byte {p : Pk} {zs : List Int} {m l : Nat} {x : PB} (h : PieceAt p zs m l x) {j : Nat} (j0 : m ≤ j) (j1 : j < m + l) : byteAt x j = zs.getD j 0 := by
  unfold byteAt
  rw [h.off, h.2.1]
  have e : ((j : Int) - (m : Int)).toNat = j - m := by omega
  rw [e]
  simp only [List.getD, List.getElem?_take, List.getElem?_drop]
  rw [if_pos (by omega), show m + (j - m) = j by omega]
theorem PieceAt.endIs {p : Pk} {zs : List Int} {m l : Nat} {x : PB} (h : PieceAt p zs m l x) : endOf x = ((m + l : Nat) : Int) := by
  unfold endOf; rw [h.off, h.len]; omega
theorem PieceAt.moreIs {p : Pk} {zs : List Int} {m l : Nat} {x : PB} (h : PieceAt p zs m l x) : x.1.more = decide (m + l < zs.length) := by rw [h.1]
theorem PieceAt.has {p : Pk} {zs : List Int} {m l : Nat} {x : PB} (h : PieceAt p zs m l x) (j : Nat) : hasB x j = true ↔ m ≤ j ∧ j < m + l := by
  unfold hasB
  rw [h.off, h.endIs]
  simp
  omega
/-- two pieces of one packet don't disagree -/
theorem against_no {p : Pk} {zs : List Int} {x y : PB} (hx : PieceOf p zs x) (hy : PieceOf p zs y) : againstB x y = false := by
  obtain ⟨m, l, hx⟩ := hx
  obtain ⟨m', l', hy⟩ := hy
  unfold againstB
  rw [Bool.or_eq_false_iff]
  constructor
  · rw [List.any_eq_false]
    intro t ht
    rw [List.mem_range, hx.len] at ht
    have e : x.1.off + (t : Int) = ((m + t : Nat) : Int) := by rw [hx.off]; omega
    rw [e]
    simp only [Bool.and_eq_true, bne_iff_ne, ne_eq, not_and, Decidable.not_not]
    intro hh
    have hh' := (hy.has (m + t)).1 hh
    rw [hx.byte (by omega) (by omega), hy.byte hh'.1 hh'.2]
  · rw [hx.moreIs, hy.moreIs, hx.endIs, hy.endIs]
    have h1 := hx.2.2.2.1
    have h2 := hy.2.2.2.1
    by_cases hc : m + l < zs.length
    · simp [hc]
    · simp [hc]
      omega
theorem bytes_ways {p : Pk} {zs : List Int} {L : List PB} (h : Ways p zs L) : ∀ n, n ≤ zs.length → bytesL L n = some (zs.take n) := by
  intro n
  induction n with
  | zero => intro _; simp [bytesL]
  | succ n ih =>
    intro hn
    rw [bytesL, ih (by omega)]
    obtain ⟨y, hy, y0, y1⟩ := h.cov n (by omega)
    cases hf : L.find? (fun x => hasB x n) with
    | none =>
      have := List.find?_eq_none.1 hf y hy
      have hh : hasB y n = true := by unfold hasB endOf; rw [Bool.and_eq_true]; exact ⟨decide_eq_true y0, decide_eq_true y1⟩
      exact absurd hh this
    | some x =>
      have hx := List.mem_of_find?_eq_some hf
      have hh : hasB x n = true := by have := List.find?_some hf; simpa using this
      obtain ⟨m, l, hp⟩ := h.each x hx
      have hb := (hp.has n).1 hh
      simp only
      rw [hp.byte hb.1 hb.2, List.take_add_one]
      simp [List.getD, List.getElem?_eq_getElem (show n < zs.length by omega)]
theorem end_ways {p : Pk} {zs : List Int} {L : List PB} (h : Ways p zs L) : endL L = some (zs.length : Int) := by
  unfold endL
  obtain ⟨y, hy, y0⟩ := h.ends
  cases hf : L.find? (fun x => !x.1.more) with
  | none =>
    have := List.find?_eq_none.1 hf y hy
    simp [y0] at this
  | some x =>
    have hx := List.mem_of_find?_eq_some hf
    have hm : x.1.more = false := by have := List.find?_some hf; simpa using this
    obtain ⟨m, l, hp⟩ := h.each x hx
    rw [hp.moreIs] at hm
    have := hp.2.2.2.1
    simp at hm
    simp only [Option.map_some, hp.endIs]
    rw [show m + l = zs.length by omega]
theorem disagree_ways {p : Pk} {zs : List Int} {L : List PB} (h : Ways p zs L) : disagreeL L = false := by
  unfold disagreeL
  rw [List.any_eq_false]
  intro x hx
  simp only [Bool.not_eq_true]
  rw [List.any_eq_false]
  intro y hy
  rw [against_no (h.each x hx) (h.each y hy)]
  simp
theorem piece_key {p : Pk} {zs : List Int} {x : PB} (h : PieceOf p zs x) : x.1.src = p.src ∧ x.1.dst = p.dst ∧ x.1.kind = p.kind ∧ x.1.id = p.id ∧ x.1.hops = p.hops ∧ x.1.whole = p.whole := by
  obtain ⟨m, l, h⟩ := h
  rw [h.1]
  exact ⟨rfl, rfl, rfl, rfl, rfl, rfl⟩
theorem alike_ways {p : Pk} {zs : List Int} {L : List PB} (hw : WholeOk p zs.length) (h : Ways p zs L) (hl : L.length ≤ 40) : alikeL L = true := by
  match L, h, hl with
  | [], h, _ => obtain ⟨y, hy, _⟩ := h.ends; cases hy
  | x :: r, h, hl =>
    unfold alikeL
    rw [Bool.and_eq_true]
    refine ⟨by simpa using hl, List.all_eq_true.2 fun y hy => ?_⟩
    have hx := h.each x (List.mem_cons_self ..)
    have hy := h.each y hy
    have k1 := piece_key hx
    have k2 := piece_key hy
    obtain ⟨_, _, ax⟩ := hx
    obtain ⟨_, _, ay⟩ := hy
    unfold alikeB
    rw [ax.ok hw, ay.ok hw, k1.1, k1.2.1, k1.2.2.1, k1.2.2.2.1, k2.1, k2.2.1, k2.2.2.1, k2.2.2.2.1]
    simp
theorem fold_hops {p : Pk} {zs : List Int} {L : List PB} (h : ∀ y ∈ L, PieceOf p zs y) : L.foldl (fun h y => if y.1.hops < h then y.1.hops else h) p.hops = p.hops := by
  induction L with
  | nil => rfl
  | cons x r ih =>
    rw [List.foldl_cons, (piece_key (h x (List.mem_cons_self ..))).2.2.2.2.1, if_neg (by omega)]
    exact ih fun y hy => h y (List.mem_cons_of_mem _ hy)
theorem head_ways {p : Pk} {zs : List Int} {L : List PB} (hw : WholeOk p zs.length) (h : Ways p zs L) : headL L = p := by
  match L, h with
  | [], h => obtain ⟨y, hy, _⟩ := h.ends; cases hy
  | x :: r, h =>
    have k := piece_key (h.each x (List.mem_cons_self ..))
    simp only [headL]
    rw [k.1, k.2.1, k.2.2.1, k.2.2.2.1, k.2.2.2.2.1, fold_hops h.each]
    have hany : (x :: r).any (fun y => y.1.whole) = false := by
      rw [List.any_eq_false]
      intro y hy
      rw [(piece_key (h.each y hy)).2.2.2.2.2, hw.2.1]
      simp
    rw [hany]
    obtain ⟨_, h1, h2, h3⟩ := hw
    obtain ⟨a, b, c, d, e, f, g, i⟩ := p
    simp at h1 h2 h3 ⊢
    exact ⟨h1, h2.symm, h3⟩
/-- THE SAME AGAIN -/
theorem join_ways {p : Pk} {zs : List Int} {L : List PB} (hw : WholeOk p zs.length) (h : Ways p zs L) (hl : L.length ≤ 40) : joinL L = (0, (p, zs)) := by
  unfold joinL
  rw [alike_ways hw h hl, if_pos rfl, disagree_ways h, if_neg (by simp), end_ways h]
  simp only [Int.toNat_natCast]
  rw [bytes_ways h zs.length (Nat.le_refl _), head_ways hw h]
  simp
end Go.Proofs.Ytjbkgmbakjnlhaa

/- Lists of drawn packets as FragJoin reads them; wfBack turns such a list around. -/
namespace Go.Proofs.Ytjbkgmbakjnlhaa
open Go.RowKit

/-- a drawn packet as it is read -/
def PV.rv (x : PV) : RV := ⟨x.p, some ⟨x.g, 0, none⟩, x.c, x.zs⟩
theorem rv_keys (ps : List PV) : (ps.map PV.rv).map RV.key = ps.map PV.key := by
  rw [List.map_map]
  rfl
/-- what is small enough to be read -/
def Fine (ps : List PV) : Prop := ∀ y ∈ ps, y.zs.length ≤ 1048576 ∧ ∀ z ∈ y.zs, 0 ≤ z ∧ z ≤ 255
theorem PL.rl {w : World} {lo g c n : Nat} {ps : List PV} (h : PL w lo (.slice (some ⟨g, 0, none⟩) n c) ps) (hn : ps.length = n) (hf : Fine ps) : RL w g (ps.map PV.rv) := by
  refine ⟨(own_lt h.row g rfl).2, fun k x hx => ?_, fun x hx => ?_⟩
  · rw [List.getElem?_map] at hx
    cases hy : ps[k]? with
    | none => rw [hy] at hx; cases hx
    | some y =>
      rw [hy] at hx
      cases hx
      obtain ⟨a, b, c, d, e, f, i, j, l⟩ := id (h.elemI hn hy)
      exact ⟨a, b, c, d, e, f, i, j, l⟩
  · obtain ⟨y, hy, rfl⟩ := List.mem_map.1 hx
    have o := h.each y hy
    have oc := own_caps (show w.ownsRow lo 5 1 (.slice (some ⟨y.g, 0, none⟩) y.zs.length y.c) y.zs.length _ from o)
    exact ⟨RdB.of_own rfl o, (hf y hy).1, oc.1, oc.2, (hf y hy).2⟩
theorem implJoin_pl {w : World} {lo g c n : Nat} {ps : List PV} (h : PL w lo (.slice (some ⟨g, 0, none⟩) n c) ps) (hn : ps.length = n) (hf : Fine ps) (hl : n ≤ 1000000) :
    Calls Try.prog 11 #[.slice (some ⟨g, 0, none⟩) n c] w (JoinPost (ps.map PV.key) w) := by
  have k := implJoin_any g c (ps.map PV.rv) w (h.rl hn hf) (by simp; omega)
  rw [List.length_map, hn, rv_keys] at k
  exact k
theorem specJoin_pl {w : World} {lo g c n : Nat} {ps : List PV} (h : PL w lo (.slice (some ⟨g, 0, none⟩) n c) ps) (hn : ps.length = n) (hf : Fine ps) (hl : n ≤ 1000000) :
    Calls Try.prog 12 #[.slice (some ⟨g, 0, none⟩) n c] w (JoinPost (ps.map PV.key) w) := by
  have k := specJoin_any g c (ps.map PV.rv) w (h.rl hn hf) (by simp; omega)
  rw [List.length_map, hn, rv_keys] at k
  exact k
theorem back_step {ps : List PV} {y : PV} {j : Nat} (hy : ps[j]? = some y) : (ps.drop (j + 1)).reverse ++ [y] = (ps.drop j).reverse := by
  have h : ps.drop j = y :: ps.drop (j + 1) := by
    obtain ⟨hl, e⟩ := List.getElem?_eq_some_iff.1 hy
    rw [List.drop_eq_getElem_cons hl, e]
  rw [h, List.reverse_cons]

set_option maxRecDepth 100000 in
set_option maxHeartbeats 6400000 in
theorem wfBack_any (lo g c n : Nat) (ps : List PV) (w : World) (hn : ps.length = n) (hP : PL w lo (.slice (some ⟨g, 0, none⟩) n c) ps) (hs : lo ≤ w.heap.size) (hl : n ≤ 3000) :
    Calls Try.prog 14 #[.slice (some ⟨g, 0, none⟩) n c] w fun e w' => ∃ (g' c' : Nat), e = .returned (.slice (some ⟨g', 0, none⟩) n c') ∧ PL w' lo (.slice (some ⟨g', 0, none⟩) n c') ps.reverse ∧ Below w.heap.size w w' := by
  have HN : Hid (ps.length = n) := hn
  have P0 : Hid (PL w lo (.slice (some ⟨g, 0, none⟩) n c) ps) := hP
  have Q0 : Hid (PL (w.alloc (.cells #[] 24)) lo (.slice (some ⟨w.heap.size, 0, none⟩) 0 0) []) := PL.nil w _ _ rfl hs
  have hcc := own_caps (show w.ownsRow lo 24 9 (.slice (some ⟨g, 0, none⟩) n c) n (ps.flatMap PV.cells) by have h := hP.row; rw [hn] at h; exact h)
  obtain ⟨ti, hti, hy0, hy1, hy2⟩ := info_parts Try.info24
  clear hP hn
  go_enter Try.func14, Try.ntmps14
  go_wp2
  go_loopw [3, 4] (fun v nx wr => ∃ (m i gq cq : Nat) (qs : List PV), m + i = n ∧ nx = .int .i64 i ∧ v = .slice (some ⟨gq, 0, none⟩) m cq ∧ w.heap.size ≤ gq ∧ Hid (qs.length = m) ∧ Hid (PL wr lo (.slice (some ⟨gq, 0, none⟩) m cq) qs) ∧ Hid (qs = (ps.drop i).reverse) ∧ Hid (Below w.heap.size w wr)) (fun _ nx _ => (intOf nx).toNat)
  case atStart => exact ⟨0, n, w.heap.size, 0, [], by omega, rfl, rfl, Nat.le_refl _, rfl, Q0.out, (show _ = _ by rw [List.drop_eq_nil_of_le (by rw [HN.out]; exact Nat.le_refl _)]; rfl), Joins.below_alloc1 _ _⟩
  case round =>
    obtain ⟨m, i, gq, cq, qs, hmi, rfl, rfl, hgq, HQL, QH, HE, BH⟩ := hrel
    by_cases hi : i = 0
    · subst hi
      go_wp2
      go_ret
      have hmn : m = n := by omega
      subst hmn
      have e := HE.out
      rw [List.drop_zero] at e
      exact ⟨gq, cq, rfl, e ▸ QH.out, BH.out⟩
    · obtain ⟨j, rfl⟩ : ∃ j, i = j + 1 := ⟨i - 1, by omega⟩
      have hjp : (0 : Int) < ((j + 1 : Nat) : Int) := by omega
      have hjn : (j : Int) < (n : Int) := by omega
      have hs1 := BH.out.size
      obtain ⟨y, hy⟩ := get_of_lt (show j < ps.length by rw [HN.out]; omega)
      have HY : Hid (ps[j]? = some y) := hy
      have PH : Hid (PL wr lo (.slice (some ⟨g, 0, none⟩) n c) ps) := P0.out.below BH.out
      obtain ⟨c0, c1, c2, c3, c4, c5, c6, c7, c8⟩ := id (PH.out.elemI HN.out hy)
      have RO : Hid (wr.ownsRow w.heap.size 24 9 (.slice (some ⟨gq, 0, none⟩) m cq) m (qs.flatMap PV.cells)) := (by have h := QH.out.row; rw [HQL.out] at h; exact own_raise h hgq)
      clear hy
      go_wp2_with (at_builtin; refine wpList_append_own _ rfl _ _ 25 rfl w.heap.size 24 ti (.agg #[.int .i64 0, .int .i64 0, .int .i64 0, .int .i64 0, .int .i64 0, .bool false, .int .i64 0, .bool false, .slice none 0 0]) 9 88 Try.underlying25 hti hy0 hy1 hy2 rfl (by decide) (.slice (some ⟨gq, 0, none⟩) m cq) m (qs.flatMap PV.cells) rfl (RO.out.alloc _) ⟨wr.heap.size, 0, none⟩ 1 1 (PV.cells y) rfl rfl ?h1 ?h2 ?h3 ?h4 ?h5 ?_)
      case h1 => exact nine_new wr _ _
      case h2 => exact nine_one _ _ _ _
      case h3 => unfold maxLen; omega
      case h4 => omega
      case h5 => simp; omega
      intro v1 w4 hown hgrow hnil
      obtain ⟨g', c', rfl⟩ : ∃ g' c', v1 = .slice (some ⟨g', 0, none⟩) (m + 1) c' := form_of hown hnil
      have P4 : Hid (PL w4 lo (.slice (some ⟨g', 0, none⟩) (m + 1) c') (qs ++ [y])) := by
        refine PL.append (v := .slice (some ⟨gq, 0, none⟩) m cq) (qs := [y]) (QH.out.below (Joins.below_alloc1 _ _)) (fun x hx => ?_) ?_ hgrow
        · obtain rfl := List.mem_singleton.1 hx
          exact own_below (PH.out.each x (List.mem_of_getElem? HY.out)) (Joins.below_alloc1 _ _)
        · rw [HQL.out]
          simpa using Joins.ownsRow_le hown hs
      have B4 : Hid (Below w.heap.size w w4) := (BH.out.alloc hs1 _).grown hgrow (by simp; omega) (fun k hk => by cases hk; exact hgq)
      have hg4 : w.heap.size ≤ g' := (own_lt hown g' rfl).1
      have E4 : Hid (qs ++ [y] = (ps.drop j).reverse) := (show _ = _ by rw [HE.out]; exact back_step HY.out)
      clear hown hgrow hnil RO c0 c1 c2 c3 c4 c5 c6 c7 c8
      go_wp2
      go_roundw
      case rel => exact ⟨m + 1, j, g', c', _, by omega, by go_num, rfl, hg4, (show _ = _ by rw [List.length_append, HQL.out]; rfl), P4.out, E4.out, B4.out⟩
      case measure => simp [intOf]
end Go.Proofs.Ytjbkgmbakjnlhaa
