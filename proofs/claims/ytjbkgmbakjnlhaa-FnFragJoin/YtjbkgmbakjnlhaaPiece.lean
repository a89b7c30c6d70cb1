/- The contract of the specification's l2Piece. -/
import Derived.Test.YtjbkgmbakjnlhaaCopy
import Derived.Test.YtjbkgmbakjnlhaaKept
namespace Go.Proofs.Ytjbkgmbakjnlhaa
open Go.RowKit

/-- the piece of a packet from a place on, of at most so many bytes -/
def pieceP (p : Pk) (len m n : Nat) : Pk := ⟨p.src, p.dst, p.kind, p.id, p.hops, p.whole, p.off + m, if m + n < len then true else p.more⟩
def pieceD (zs : List Int) (m n : Nat) : List Int := (zs.drop m).take n

theorem own_cap {w : World} {base e size n c : Nat} {a : Option Addr} {xs : List Value} (h : w.ownsRow base e size (.slice a n c) n xs) : n ≤ c ∨ n = 0 := by
  rcases h.2 with ⟨_, h0⟩ | ⟨g, cap, cur, hv, _, _, hc, _⟩
  · exact Or.inr h0
  · simp at hv; exact Or.inl (by omega)

theorem below_alloc4 (w : World) (o1 o2 o3 o4 : Obj) : Below w.heap.size w ((((w.alloc o1).alloc o2).alloc o3).alloc o4) := (Joins.below_alloc3 w o1 o2 o3).alloc (by simp; omega) o4
theorem RdB.piece {w : World} {b off len : Nat} {zs : List Int} (h : RdB w (some ⟨b, off, none⟩) len zs) (m n : Nat) : RdB w (some ⟨b, off + m, none⟩) (pieceD zs m n).length (pieceD zs m n) := by
  refine ⟨rfl, ?_⟩
  by_cases h0 : (pieceD zs m n).length = 0
  · exact Or.inl h0
  · right
    have hl : (pieceD zs m n).length ≤ zs.length - m := by simp [pieceD]; omega
    obtain ⟨b', off', ha, hb, hc⟩ := h.2.resolve_left (by have := h.1; omega)
    cases ha
    refine ⟨b, off + m, rfl, hb, fun k hk => ?_⟩
    have e : (pieceD zs m n).getD k 0 = zs.getD (m + k) 0 := by
      have hk2 : k < n := by simp [pieceD] at hk; omega
      simp [pieceD, List.getD, hk2]
    rw [e, show off + m + k = off + (m + k) by omega]
    exact hc (m + k) (by have := h.1; omega)

set_option maxRecDepth 100000 in
set_option maxHeartbeats 1600000 in
theorem l2Piece_any (p : Pk) (ad : Addr) (len cap m n : Nat) (zs : List Int) (w : World) (hr : RdB w (some ad) len zs) (hl : len ≤ 1048576) (hc : len ≤ cap) (hcm : cap ≤ 9223372036854775807) (hm : m < len) (hn : n ≤ 1048576) (h0 : 0 ≤ p.off) (h1 : p.off ≤ 1048576) :
    Calls Try.prog 62 #[p.val (.slice (some ad) len cap), .int .i64 m, .int .i64 n] w fun e w' => ∃ g c, e = .returned ((pieceP p len m n).val (.slice (some ⟨g, 0, none⟩) (pieceD zs m n).length c)) ∧ w'.ownsRow w.heap.size 5 1 (.slice (some ⟨g, 0, none⟩) (pieceD zs m n).length c) (pieceD zs m n).length ((pieceD zs m n).map (.int .u8)) ∧ Below w.heap.size w w' := by
  unfold Pk.val
  obtain ⟨b, off, had, hb, hcell⟩ := hr.2.resolve_left (by omega)
  cases had
  obtain ⟨i0, hi, hz0, hz1, hz2⟩ := info_parts Try.info5
  by_cases hc1 : m + n < len
  · have hPe : pieceP p len m n = ⟨p.src, p.dst, p.kind, p.id, p.hops, p.whole, p.off + m, true⟩ := by unfold pieceP; rw [if_pos hc1]
    have hDl : (pieceD zs m n).length = n := by have := hr.1; simp [pieceD]; omega
    rw [hPe, hDl]
    have hi1 : (m : Int) + (n : Int) < (len : Int) := by omega
    have hi2 : (m : Int) + (n : Int) ≤ (cap : Int) := by omega
    go_enter Try.func62, Try.ntmps62
    go_wp2_with (at_builtin; refine wpList_append_own _ rfl _ _ 22 rfl (w.heap.size + 3) 5 i0 (.int .u8 0) 1 1 Try.underlying22 hi hz0 hz1 hz2 rfl (by decide) (.slice (some ⟨w.heap.size + 3, 0, none⟩) 0 0) 0 [] rfl ?h1 ⟨b, off + m, none⟩ (m + n - m) (cap - m) ((pieceD zs m n).map (.int .u8)) rfl ?h2 ?h3 (one_u8 _) ?h4 ?h5 ?h6 ?_)
    case h1 => exact own_empty _ _ _ (by simp) (by omega)
    case h2 => simp [hDl]; try omega
    case h3 => exact cells_rdb ((hr.piece m n).below (below_alloc4 _ _ _ _ _))
    case h4 => unfold maxLen; omega
    case h5 => omega
    case h6 => simp
    intro v1 w1 hown hgrow hnil
    obtain ⟨g, c, rfl⟩ : ∃ g c, v1 = .slice (some ⟨g, 0, none⟩) (n) c := by
      rcases Joins.ownsRow_forms hown with h | ⟨g, c, h⟩
      · exact absurd h.1 hnil
      · exact ⟨g, c, h⟩
    have hb4 : Below (w.heap.size + 3) _ w1 := (Below.refl _ _).grown hgrow (by simp) (by intro k hk; simp [Value.ownBlock] at hk; omega)
    have hlt0 : w.heap.size + 2 < w1.heap.size := Nat.lt_of_lt_of_le (by simp) hb4.size
    have hlt1 : w.heap.size + 1 < w1.heap.size := by omega
    have hf := (bcell hb4).2
    have f1 : ∀ o, w1.frozen? ⟨w.heap.size + 1, o, none⟩ = false := fun o => by rw [hf _ _ (by omega)]; go_simp
    have f2 : ∀ o, w1.frozen? ⟨w.heap.size + 1 + 1, o, none⟩ = false := fun o => by rw [hf _ _ (by omega)]; go_simp
    have Z : Boxed w1 (w.heap.size + 1) zeroPk (.slice none 0 0) := (((Boxed.newAt (w.alloc _) (w.heap.size + 1) zeroPk (.slice none 0 0) 24 (by simp)).below (Joins.below_alloc1 _ _)).below (Joins.below_alloc1 _ _)).upto hb4 (by omega)
    have Q : Boxed w1 (w.heap.size + 1 + 1) ⟨p.src, p.dst, p.kind, p.id, p.hops, p.whole, p.off + m, true⟩ (.slice (some ⟨b, off, none⟩) len cap) := ((Boxed.newAt ((w.alloc _).alloc _) (w.heap.size + 1 + 1) ⟨p.src, p.dst, p.kind, p.id, p.hops, p.whole, p.off + m, true⟩ (.slice (some ⟨b, off, none⟩) len cap) 24 (by simp)).below (Joins.below_alloc1 _ _)).upto hb4 (by omega)
    obtain ⟨_, z0, z1, z2, z3, z4, z5, z6, z7, z8⟩ := Z
    obtain ⟨_, c0, c1, c2, c3, c4, c5, c6, c7, c8⟩ := Q
    have HB : Hid (Below w.heap.size w w1) := (below_alloc4 _ _ _ _ _).trans (hb4.mono (by omega))
    have HO : Hid (w1.ownsRow (w.heap.size + 3) 5 1 (.slice (some ⟨g, 0, none⟩) (n) c) (n) ((pieceD zs m n).map (.int .u8))) := by simpa [Hid] using hown
    clear hown hgrow hnil hb4 hf hcell
    go_wp2
    refine bodyPost_ret (v := .agg #[.int .i64 p.src, .int .i64 p.dst, .int .i64 p.kind, .int .i64 p.id, .int .i64 p.hops, .bool p.whole, .int .i64 (p.off + m), .bool true, .slice (some ⟨g, 0, none⟩) (n) c]) (by simp [results, Try.results62, go_sem, z0, z1, z2, z3, z4, z5, z6, z7, z8]) rfl ⟨g, c, rfl, ?_, ?_⟩
    · exact Joins.ownsRow_le (own9 (ownsRow_setCell_below HO.out (by simp) _) (by omega) _ _ _ _ _ _ _ _ _) (by omega)
    · exact below9 (Below.setCell HB.out (by simp; omega) _) (by omega) _ _ _ _ _ _ _ _ _
  · have hPe : pieceP p len m n = ⟨p.src, p.dst, p.kind, p.id, p.hops, p.whole, p.off + m, p.more⟩ := by unfold pieceP; rw [if_neg hc1]
    have hDl : (pieceD zs m n).length = len - m := by have := hr.1; simp [pieceD]; omega
    rw [hPe, hDl]
    have hi1 : (len : Int) ≤ (m : Int) + (n : Int) := by omega
    have hi2 : (m : Int) ≤ (len : Int) := by omega
    have hi3 : (len : Int) ≤ (cap : Int) := by omega
    go_enter Try.func62, Try.ntmps62
    go_wp2_with (at_builtin; refine wpList_append_own _ rfl _ _ 22 rfl (w.heap.size + 3) 5 i0 (.int .u8 0) 1 1 Try.underlying22 hi hz0 hz1 hz2 rfl (by decide) (.slice (some ⟨w.heap.size + 3, 0, none⟩) 0 0) 0 [] rfl ?h1 ⟨b, off + m, none⟩ (len - m) (cap - m) ((pieceD zs m n).map (.int .u8)) rfl ?h2 ?h3 (one_u8 _) ?h4 ?h5 ?h6 ?_)
    case h1 => exact own_empty _ _ _ (by simp) (by omega)
    case h2 => simp [hDl]; try omega
    case h3 => exact cells_rdb ((hr.piece m n).below (below_alloc4 _ _ _ _ _))
    case h4 => unfold maxLen; omega
    case h5 => omega
    case h6 => simp
    intro v1 w1 hown hgrow hnil
    obtain ⟨g, c, rfl⟩ : ∃ g c, v1 = .slice (some ⟨g, 0, none⟩) (len - m) c := by
      rcases Joins.ownsRow_forms hown with h | ⟨g, c, h⟩
      · exact absurd h.1 hnil
      · exact ⟨g, c, h⟩
    have hb4 : Below (w.heap.size + 3) _ w1 := (Below.refl _ _).grown hgrow (by simp) (by intro k hk; simp [Value.ownBlock] at hk; omega)
    have hlt0 : w.heap.size + 2 < w1.heap.size := Nat.lt_of_lt_of_le (by simp) hb4.size
    have hlt1 : w.heap.size + 1 < w1.heap.size := by omega
    have hf := (bcell hb4).2
    have f1 : ∀ o, w1.frozen? ⟨w.heap.size + 1, o, none⟩ = false := fun o => by rw [hf _ _ (by omega)]; go_simp
    have f2 : ∀ o, w1.frozen? ⟨w.heap.size + 1 + 1, o, none⟩ = false := fun o => by rw [hf _ _ (by omega)]; go_simp
    have Z : Boxed w1 (w.heap.size + 1) zeroPk (.slice none 0 0) := (((Boxed.newAt (w.alloc _) (w.heap.size + 1) zeroPk (.slice none 0 0) 24 (by simp)).below (Joins.below_alloc1 _ _)).below (Joins.below_alloc1 _ _)).upto hb4 (by omega)
    have Q : Boxed w1 (w.heap.size + 1 + 1) ⟨p.src, p.dst, p.kind, p.id, p.hops, p.whole, p.off + m, p.more⟩ (.slice (some ⟨b, off, none⟩) len cap) := ((Boxed.newAt ((w.alloc _).alloc _) (w.heap.size + 1 + 1) ⟨p.src, p.dst, p.kind, p.id, p.hops, p.whole, p.off + m, p.more⟩ (.slice (some ⟨b, off, none⟩) len cap) 24 (by simp)).below (Joins.below_alloc1 _ _)).upto hb4 (by omega)
    obtain ⟨_, z0, z1, z2, z3, z4, z5, z6, z7, z8⟩ := Z
    obtain ⟨_, c0, c1, c2, c3, c4, c5, c6, c7, c8⟩ := Q
    have HB : Hid (Below w.heap.size w w1) := (below_alloc4 _ _ _ _ _).trans (hb4.mono (by omega))
    have HO : Hid (w1.ownsRow (w.heap.size + 3) 5 1 (.slice (some ⟨g, 0, none⟩) (len - m) c) (len - m) ((pieceD zs m n).map (.int .u8))) := by simpa [Hid] using hown
    clear hown hgrow hnil hb4 hf hcell
    go_wp2
    refine bodyPost_ret (v := .agg #[.int .i64 p.src, .int .i64 p.dst, .int .i64 p.kind, .int .i64 p.id, .int .i64 p.hops, .bool p.whole, .int .i64 (p.off + m), .bool p.more, .slice (some ⟨g, 0, none⟩) (len - m) c]) (by simp [results, Try.results62, go_sem, z0, z1, z2, z3, z4, z5, z6, z7, z8]) rfl ⟨g, c, rfl, ?_, ?_⟩
    · exact Joins.ownsRow_le (own9 (ownsRow_setCell_below HO.out (by simp) _) (by omega) _ _ _ _ _ _ _ _ _) (by omega)
    · exact below9 (Below.setCell HB.out (by simp; omega) _) (by omega) _ _ _ _ _ _ _ _ _
end Go.Proofs.Ytjbkgmbakjnlhaa
