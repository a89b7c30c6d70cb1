/- Lists of drawn packets as FragJoin reads them; wfBack turns such a list around. -/
import Derived.Test.YtjbkgmbakjnlhaaWaysD
import Derived.Test.YtjbkgmbakjnlhaaJoinI
import Derived.Test.YtjbkgmbakjnlhaaSpecJ
import Derived.Test.YtjbkgmbakjnlhaaSame
import Derived.Test.YtjbkgmbakjnlhaaJoinM
namespace Go.Proofs.Ytjbkgmbakjnlhaa
open Go.RowKit

/-- a drawn packet as it is read -/
def PV.rv (x : PV) : RV := ⟨x.p, some ⟨x.g, 0, none⟩, x.c, x.zs⟩
theorem rv_keys (ps : List PV) : (ps.map PV.rv).map RV.key = ps.map PV.key := by
  rw [List.map_map]
  rfl
/-- what is small enough to be read -/
def Fine (ps : List PV) : Prop := ∀ y ∈ ps, y.zs.length ≤ 1048576 ∧ ∀ z ∈ y.zs, 0 ≤ z ∧ z ≤ 255
theorem PL.rl {w : World} {lo g c n : Nat} {ps : List PV} (h : PL w lo (.slice (some ⟨g, 0, none⟩) n c) ps) (hn : ps.length = n) (hf : Fine ps) : RL w g (ps.map PV.rv) := by
  refine ⟨(own_lt h.row g rfl).2, fun k x hx => ?_, fun x hx => ?_⟩
  · rw [List.getElem?_map] at hx
    cases hy : ps[k]? with
    | none => rw [hy] at hx; cases hx
    | some y =>
      rw [hy] at hx
      cases hx
      obtain ⟨a, b, c, d, e, f, i, j, l⟩ := id (h.elemI hn hy)
      exact ⟨a, b, c, d, e, f, i, j, l⟩
  · obtain ⟨y, hy, rfl⟩ := List.mem_map.1 hx
    have o := h.each y hy
    have oc := own_caps (show w.ownsRow lo 5 1 (.slice (some ⟨y.g, 0, none⟩) y.zs.length y.c) y.zs.length _ from o)
    exact ⟨RdB.of_own rfl o, (hf y hy).1, oc.1, oc.2, (hf y hy).2⟩
theorem implJoin_pl {w : World} {lo g c n : Nat} {ps : List PV} (h : PL w lo (.slice (some ⟨g, 0, none⟩) n c) ps) (hn : ps.length = n) (hf : Fine ps) (hl : n ≤ 1000000) :
    Calls Try.prog 11 #[.slice (some ⟨g, 0, none⟩) n c] w (JoinPost (ps.map PV.key) w) := by
  have k := implJoin_any g c (ps.map PV.rv) w (h.rl hn hf) (by simp; omega)
  rw [List.length_map, hn, rv_keys] at k
  exact k
theorem specJoin_pl {w : World} {lo g c n : Nat} {ps : List PV} (h : PL w lo (.slice (some ⟨g, 0, none⟩) n c) ps) (hn : ps.length = n) (hf : Fine ps) (hl : n ≤ 1000000) :
    Calls Try.prog 12 #[.slice (some ⟨g, 0, none⟩) n c] w (JoinPost (ps.map PV.key) w) := by
  have k := specJoin_any g c (ps.map PV.rv) w (h.rl hn hf) (by simp; omega)
  rw [List.length_map, hn, rv_keys] at k
  exact k
theorem back_step {ps : List PV} {y : PV} {j : Nat} (hy : ps[j]? = some y) : (ps.drop (j + 1)).reverse ++ [y] = (ps.drop j).reverse := by
  have h : ps.drop j = y :: ps.drop (j + 1) := by
    obtain ⟨hl, e⟩ := List.getElem?_eq_some_iff.1 hy
    rw [List.drop_eq_getElem_cons hl, e]
  rw [h, List.reverse_cons]

set_option maxRecDepth 100000 in
set_option maxHeartbeats 6400000 in
theorem wfBack_any (lo g c n : Nat) (ps : List PV) (w : World) (hn : ps.length = n) (hP : PL w lo (.slice (some ⟨g, 0, none⟩) n c) ps) (hs : lo ≤ w.heap.size) (hl : n ≤ 3000) :
    Calls Try.prog 14 #[.slice (some ⟨g, 0, none⟩) n c] w fun e w' => ∃ (g' c' : Nat), e = .returned (.slice (some ⟨g', 0, none⟩) n c') ∧ PL w' lo (.slice (some ⟨g', 0, none⟩) n c') ps.reverse ∧ Below w.heap.size w w' := by
  have HN : Hid (ps.length = n) := hn
  have P0 : Hid (PL w lo (.slice (some ⟨g, 0, none⟩) n c) ps) := hP
  have Q0 : Hid (PL (w.alloc (.cells #[] 24)) lo (.slice (some ⟨w.heap.size, 0, none⟩) 0 0) []) := PL.nil w _ _ rfl hs
  have hcc := own_caps (show w.ownsRow lo 24 9 (.slice (some ⟨g, 0, none⟩) n c) n (ps.flatMap PV.cells) by have h := hP.row; rw [hn] at h; exact h)
  obtain ⟨ti, hti, hy0, hy1, hy2⟩ := info_parts Try.info24
  clear hP hn
  go_enter Try.func14, Try.ntmps14
  go_wp2
  go_loopw [3, 4] (fun v nx wr => ∃ (m i gq cq : Nat) (qs : List PV), m + i = n ∧ nx = .int .i64 i ∧ v = .slice (some ⟨gq, 0, none⟩) m cq ∧ w.heap.size ≤ gq ∧ Hid (qs.length = m) ∧ Hid (PL wr lo (.slice (some ⟨gq, 0, none⟩) m cq) qs) ∧ Hid (qs = (ps.drop i).reverse) ∧ Hid (Below w.heap.size w wr)) (fun _ nx _ => (intOf nx).toNat)
  case atStart => exact ⟨0, n, w.heap.size, 0, [], by omega, rfl, rfl, Nat.le_refl _, rfl, Q0.out, (show _ = _ by rw [List.drop_eq_nil_of_le (by rw [HN.out]; exact Nat.le_refl _)]; rfl), Joins.below_alloc1 _ _⟩
  case round =>
    obtain ⟨m, i, gq, cq, qs, hmi, rfl, rfl, hgq, HQL, QH, HE, BH⟩ := hrel
    by_cases hi : i = 0
    · subst hi
      go_wp2
      go_ret
      have hmn : m = n := by omega
      subst hmn
      have e := HE.out
      rw [List.drop_zero] at e
      exact ⟨gq, cq, rfl, e ▸ QH.out, BH.out⟩
    · obtain ⟨j, rfl⟩ : ∃ j, i = j + 1 := ⟨i - 1, by omega⟩
      have hjp : (0 : Int) < ((j + 1 : Nat) : Int) := by omega
      have hjn : (j : Int) < (n : Int) := by omega
      have hs1 := BH.out.size
      obtain ⟨y, hy⟩ := get_of_lt (show j < ps.length by rw [HN.out]; omega)
      have HY : Hid (ps[j]? = some y) := hy
      have PH : Hid (PL wr lo (.slice (some ⟨g, 0, none⟩) n c) ps) := P0.out.below BH.out
      obtain ⟨c0, c1, c2, c3, c4, c5, c6, c7, c8⟩ := id (PH.out.elemI HN.out hy)
      have RO : Hid (wr.ownsRow w.heap.size 24 9 (.slice (some ⟨gq, 0, none⟩) m cq) m (qs.flatMap PV.cells)) := (by have h := QH.out.row; rw [HQL.out] at h; exact own_raise h hgq)
      clear hy
      go_wp2_with (at_builtin; refine wpList_append_own _ rfl _ _ 25 rfl w.heap.size 24 ti (.agg #[.int .i64 0, .int .i64 0, .int .i64 0, .int .i64 0, .int .i64 0, .bool false, .int .i64 0, .bool false, .slice none 0 0]) 9 88 Try.underlying25 hti hy0 hy1 hy2 rfl (by decide) (.slice (some ⟨gq, 0, none⟩) m cq) m (qs.flatMap PV.cells) rfl (RO.out.alloc _) ⟨wr.heap.size, 0, none⟩ 1 1 (PV.cells y) rfl rfl ?h1 ?h2 ?h3 ?h4 ?h5 ?_)
      case h1 => exact nine_new wr _ _
      case h2 => exact nine_one _ _ _ _
      case h3 => unfold maxLen; omega
      case h4 => omega
      case h5 => simp; omega
      intro v1 w4 hown hgrow hnil
      obtain ⟨g', c', rfl⟩ : ∃ g' c', v1 = .slice (some ⟨g', 0, none⟩) (m + 1) c' := form_of hown hnil
      have P4 : Hid (PL w4 lo (.slice (some ⟨g', 0, none⟩) (m + 1) c') (qs ++ [y])) := by
        refine PL.append (v := .slice (some ⟨gq, 0, none⟩) m cq) (qs := [y]) (QH.out.below (Joins.below_alloc1 _ _)) (fun x hx => ?_) ?_ hgrow
        · obtain rfl := List.mem_singleton.1 hx
          exact own_below (PH.out.each x (List.mem_of_getElem? HY.out)) (Joins.below_alloc1 _ _)
        · rw [HQL.out]
          simpa using Joins.ownsRow_le hown hs
      have B4 : Hid (Below w.heap.size w w4) := (BH.out.alloc hs1 _).grown hgrow (by simp; omega) (fun k hk => by cases hk; exact hgq)
      have hg4 : w.heap.size ≤ g' := (own_lt hown g' rfl).1
      have E4 : Hid (qs ++ [y] = (ps.drop j).reverse) := (show _ = _ by rw [HE.out]; exact back_step HY.out)
      clear hown hgrow hnil RO c0 c1 c2 c3 c4 c5 c6 c7 c8
      go_wp2
      go_roundw
      case rel => exact ⟨m + 1, j, g', c', _, by omega, by go_num, rfl, hg4, (show _ = _ by rw [List.length_append, HQL.out]; rfl), P4.out, E4.out, B4.out⟩
      case measure => simp [intOf]
end Go.Proofs.Ytjbkgmbakjnlhaa
