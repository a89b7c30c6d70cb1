/- Contracts of the two copies of a packet, and of the two FragHop. -/
import Derived.Test.YtjbkgmbakjnlhaaBox
import Derived.Laws.AppendOwnNone
namespace Go.Proofs.Ytjbkgmbakjnlhaa
open Go.RowKit

theorem add_none (b off j : Nat) : (Addr.mk b off none).add j = ⟨b, off + j, none⟩ := by
  unfold Addr.add
  split <;> simp_all
theorem cells_rdb {w : World} {ad : Addr} {len : Nat} {zs : List Int} (hr : RdB w (some ad) len zs) : ∀ j u, (zs.map (Value.int .u8))[j]? = some u → w.cell? (ad.add j) = some u := by
  intro j u hu
  obtain ⟨hz, h0 | ⟨b, off, ha, _, hc⟩⟩ := hr
  · subst hz
    rw [List.length_eq_zero_iff.1 h0] at hu
    simp at hu
  · cases ha
    have hj : j < zs.length := by
      rcases Nat.lt_or_ge j zs.length with h | h
      · exact h
      · rw [List.getElem?_eq_none (by simpa using h)] at hu; cases hu
    have := hc j (by omega)
    simp [List.getElem?_eq_getElem hj] at hu
    subst hu
    have h2 : w.cell? ⟨b, off + j, none⟩ = some (.int .u8 zs[j]) := by simpa [List.getD, List.getElem?_eq_getElem hj] using this
    rw [add_none]
    exact h2
theorem own_empty (w : World) (n base : Nat) (h : n = w.heap.size) (hb : base ≤ n) : (w.alloc (.cells #[] 5)).ownsRow base 5 1 (.slice (some ⟨n, 0, none⟩) 0 0) 0 [] :=
  ⟨rfl, Or.inr ⟨n, 0, #[], rfl, hb, heap_new _ _ _ h, Nat.le_refl _, by unfold maxLen; omega, rfl, rfl⟩⟩
theorem one_u8 (zs : List Int) : ∀ u ∈ zs.map (Value.int .u8), u.oneCell' = true := by
  intro u hu
  obtain ⟨x, _, rfl⟩ := List.mem_map.1 hu
  rfl

set_option maxHeartbeats 800000 in
theorem l1Copy_any (p : Pk) (ad : Addr) (len cap : Nat) (zs : List Int) (w : World) (hr : RdB w (some ad) len zs) (hl : len ≤ 1048576) :
    Calls Try.prog 56 #[p.val (.slice (some ad) len cap)] w fun e w' => ∃ g c, e = .returned (p.val (.slice (some ⟨g, 0, none⟩) len c)) ∧ w'.ownsRow w.heap.size 5 1 (.slice (some ⟨g, 0, none⟩) len c) len (zs.map (.int .u8)) ∧ Below w.heap.size w w' := by
  unfold Pk.val
  obtain ⟨i0, hi, hz0, hz1, hz2⟩ := info_parts Try.info5
  go_enter Try.func56, Try.ntmps56
  go_wp2_with (at_builtin; refine wpList_append_own _ rfl _ _ 22 rfl (w.heap.size + 2) 5 i0 (.int .u8 0) 1 1 Try.underlying22 hi hz0 hz1 hz2 rfl (by decide) (.slice (some ⟨w.heap.size + 2, 0, none⟩) 0 0) 0 [] rfl ?h1 ad len cap (zs.map (.int .u8)) rfl ?h2 ?h3 (one_u8 zs) ?h4 ?h5 ?h6 ?_)
  case h1 => exact own_empty _ _ _ (by simp) (by omega)
  case h2 => simp [hr.1]
  case h3 => exact cells_rdb (hr.below (Joins.below_alloc3 _ _ _ _))
  case h4 => unfold maxLen; omega
  case h5 => omega
  case h6 => simp
  intro v1 w1 hown hgrow hnil
  obtain ⟨g, c, rfl⟩ : ∃ g c, v1 = .slice (some ⟨g, 0, none⟩) len c := by
    rcases Joins.ownsRow_forms hown with h | h
    · exact absurd h.1 hnil
    · exact h
  have hb : Below (w.heap.size + 2) _ w1 := (Below.refl _ _).grown hgrow (by simp) (by intro k hk; simp [Value.ownBlock] at hk; omega)
  have hlt : w.heap.size + 2 < w1.heap.size := Nat.lt_of_lt_of_le (by simp) hb.size
  have hlt0 : w.heap.size < w1.heap.size := by omega
  have hlt1 : w.heap.size + 1 < w1.heap.size := by omega
  have hf := (bcell hb).2
  have X : Boxed w1 w.heap.size p (.slice (some ad) len cap) := (((Boxed.new w p (.slice (some ad) len cap) 24).below (Joins.below_alloc1 _ _)).below (Joins.below_alloc1 _ _)).upto hb (by omega)
  have Z : Boxed w1 (w.heap.size + 1) zeroPk (.slice none 0 0) := ((Boxed.newAt (w.alloc _) (w.heap.size + 1) zeroPk (.slice none 0 0) 24 (by simp)).below (Joins.below_alloc1 _ _)).upto hb (by omega)
  obtain ⟨_, c0, c1, c2, c3, c4, c5, c6, c7, c8⟩ := X
  obtain ⟨_, z0, z1, z2, z3, z4, z5, z6, z7, z8⟩ := Z
  have HB : Hid (Below w.heap.size w w1) := (Joins.below_alloc3 _ _ _ _).trans (hb.mono (by omega))
  have HO : Hid (w1.ownsRow (w.heap.size + 2) 5 1 (.slice (some ⟨g, 0, none⟩) len c) len (zs.map (.int .u8))) := hown
  clear hown hgrow hnil hb
  go_wp2
  refine bodyPost_ret (v := .agg #[.int .i64 p.src, .int .i64 p.dst, .int .i64 p.kind, .int .i64 p.id, .int .i64 p.hops, .bool p.whole, .int .i64 p.off, .bool p.more, .slice (some ⟨g, 0, none⟩) len c]) (by simp [results, Try.results56, go_sem, z0, z1, z2, z3, z4, z5, z6, z7, z8]) rfl ⟨g, c, rfl, ?_, ?_⟩
  · exact Joins.ownsRow_le (own9 (ownsRow_setCell_below HO.out (by simp) _) (by omega) _ _ _ _ _ _ _ _ _) (by omega)
  · exact below9 (Below.setCell HB.out (by simp) _) (by omega) _ _ _ _ _ _ _ _ _

set_option maxHeartbeats 800000 in
theorem clone_any (ad : Addr) (len cap : Nat) (zs : List Int) (w : World) (hr : RdB w (some ad) len zs) (hl : len ≤ 1048576) :
    Calls Try.prog 83 #[.slice (some ad) len cap] w fun e w' => ∃ g c, e = .returned (.slice (some ⟨g, 0, none⟩) len c) ∧ w'.ownsRow w.heap.size 5 1 (.slice (some ⟨g, 0, none⟩) len c) len (zs.map (.int .u8)) ∧ Below w.heap.size w w' := by
  obtain ⟨i0, hi, hz0, hz1, hz2⟩ := info_parts Try.info5
  have hq := fun (w : World) => Lib.run_eql_slice_nil (P := Try.prog) w 22 5 (some ad) len cap 0 0 Try.underlying22
  go_enter Try.func83, Try.ntmps83
  go_wp2_with (at_builtin; refine wpList_append_own _ rfl _ _ 22 rfl w.heap.size 5 i0 (.int .u8 0) 1 1 Try.underlying22 hi hz0 hz1 hz2 rfl (by decide) (.slice (some ⟨w.heap.size, 0, none⟩) 0 0) 0 [] rfl ?h1 ad len cap (zs.map (.int .u8)) rfl ?h2 ?h3 (one_u8 zs) ?h4 ?h5 ?h6 ?_)
  case h1 => exact own_empty _ _ _ (by simp) (by omega)
  case h2 => simp [hr.1]
  case h3 => exact cells_rdb (hr.below (Joins.below_alloc1 _ _))
  case h4 => unfold maxLen; omega
  case h5 => omega
  case h6 => simp
  intro v1 w1 hown hgrow hnil
  obtain ⟨g, c, rfl⟩ : ∃ g c, v1 = .slice (some ⟨g, 0, none⟩) len c := by
    rcases Joins.ownsRow_forms hown with h | h
    · exact absurd h.1 hnil
    · exact h
  have hb : Below w.heap.size _ w1 := (Below.refl _ _).grown hgrow (by simp) (by intro k hk; simp [Value.ownBlock] at hk; omega)
  have HB : Hid (Below w.heap.size w w1) := (Joins.below_alloc1 _ _).trans hb
  have HO : Hid (w1.ownsRow w.heap.size 5 1 (.slice (some ⟨g, 0, none⟩) len c) len (zs.map (.int .u8))) := by simpa [Hid] using hown
  clear hown hgrow hnil hb
  go_wp2
  go_ret
  exact ⟨g, c, rfl, HO.out, HB.out⟩
end Go.Proofs.Ytjbkgmbakjnlhaa
