import Derived.Test.YtjbkgmbakjnlhaaGreatDoorPartAq
import Derived.Test.YtjbkgmbakjnlhaaGreatDoorITake
import Derived.Test.YtjbkgmbakjnlhaaGreatDoorPartAl
import Derived.Test.YtjbkgmbakjnlhaaGreatDoorPartAj
import Derived.Test.YtjbkgmbakjnlhaaGreatDoorPartAb
import Derived.Test.YtjbkgmbakjnlhaaGreatDoorPartAa
import Derived.Laws.Bits64
import Derived.Deep.RegionHeld3
namespace Go.Proofs.YtjbkgmbakjnlhaaGreatDoor
set_option maxRecDepth 100000
open Go.RowKit
def pieceP (p : Pk) (len m n : Nat) : Pk := ⟨p.src, p.dst, p.kind, p.id, p.hops, p.whole, p.off + m, if m + n < len then true else p.more⟩
def pieceD (zs : List Int) (m n : Nat) : List Int := (zs.drop m).take n
theorem below_alloc4 (w : World) (o1 o2 o3 o4 : Obj) : Below w.heap.size w ((((w.alloc o1).alloc o2).alloc o3).alloc o4) := (Joins.below_alloc3 w o1 o2 o3).alloc (by simp; omega) o4
theorem RdB.piece {w : World} {b off len : Nat} {zs : List Int} (h : RdB w (some ⟨b, off, none⟩) len zs) (m n : Nat) : RdB w (some ⟨b, off + m, none⟩) (pieceD zs m n).length (pieceD zs m n) := by
 refine ⟨rfl, ?_⟩
 by_cases h0 : (pieceD zs m n).length = 0
 ·exact Or.inl h0
 ·right
  have hl : (pieceD zs m n).length ≤ zs.length - m := by simp [pieceD]; omega
  obtain ⟨b', off', ha, hb, hc⟩ := h.2.resolve_left (by have := h.1; omega)
  cases ha
  refine ⟨b, off + m, rfl, hb, fun k hk => ?_⟩
  have e : (pieceD zs m n).getD k 0 = zs.getD (m + k) 0 := by
   have hk2 : k < n := by simp [pieceD] at hk; omega
   simp [pieceD, List.getD, hk2]
  rw [e, show off + m + k = off + (m + k) by omega]
  exact hc (m + k) (by have := h.1; omega)
set_option maxHeartbeats 1600000 in
theorem l2Piece_any (p : Pk) (ad : Addr) (len cap m n : Nat) (zs : List Int) (w : World) (hr : RdB w (some ad) len zs) (hl : len ≤ 1048576) (hc : len ≤ cap) (hcm : cap ≤ 9223372036854775807) (hm : m < len) (hn : n ≤ 1048576) (h0 : 0 ≤ p.off) (h1 : p.off ≤ 1048576) :
  Calls Tryz.prog 79 #[p.val (.slice (some ad) len cap), .int .i64 m, .int .i64 n] w fun e w' => ∃ g c, e = .returned ((pieceP p len m n).val (.slice (some ⟨g, 0, none⟩) (pieceD zs m n).length c)) ∧ w'.ownsRow w.heap.size 5 1 (.slice (some ⟨g, 0, none⟩) (pieceD zs m n).length c) (pieceD zs m n).length ((pieceD zs m n).map (.int .u8)) ∧ Below w.heap.size w w' := by
 unfold Pk.val
 obtain ⟨b, off, had, hb, hcell⟩ := hr.2.resolve_left (by omega)
 cases had
 obtain ⟨i0, hi, hz0, hz1, hz2⟩ := info_parts Tryz.info5
 by_cases hc1 : m + n < len
 ·have hPe : pieceP p len m n = ⟨p.src, p.dst, p.kind, p.id, p.hops, p.whole, p.off + m, true⟩ := by unfold pieceP; rw [if_pos hc1]
  have hDl : (pieceD zs m n).length = n := by have := hr.1; simp [pieceD]; omega
  rw [hPe, hDl]
  have hi1 : (m : Int) + (n : Int) < (len : Int) := by omega
  have hi2 : (m : Int) + (n : Int) ≤ (cap : Int) := by omega
  go_enter Tryz.func79, Tryz.ntmps79
  go_wp2_with (at_builtin; refine wpList_append_own _ rfl _ _ 22 rfl (w.heap.size + 3) 5 i0 (.int .u8 0) 1 1 Tryz.underlying22 hi hz0 hz1 hz2 rfl (by decide) (.slice (some ⟨w.heap.size + 3, 0, none⟩) 0 0) 0 [] rfl ?h1 ⟨b, off + m, none⟩ (m + n - m) (cap - m) ((pieceD zs m n).map (.int .u8)) rfl ?h2 ?h3 (one_u8 _) ?h4 ?h5 ?h6 ?_)
  case h1 => exact own_empty _ _ _ (by simp) (by omega)
  case h2 => simp [hDl]; try omega
  case h3 => exact cells_rdb ((hr.piece m n).below (below_alloc4 _ _ _ _ _))
  case h4 => unfold maxLen; omega
  case h5 => omega
  case h6 => simp
  intro v1 w1 hown hgrow hnil
  obtain ⟨g, c, rfl⟩ : ∃ g c, v1 = .slice (some ⟨g, 0, none⟩) (n) c := by
   rcases Joins.ownsRow_forms hown with h | ⟨g, c, h⟩
   ·exact absurd h.1 hnil
   ·exact ⟨g, c, h⟩
  have hb4 : Below (w.heap.size + 3) _ w1 := (Below.refl _ _).grown hgrow (by simp) (by intro k hk; simp [Value.ownBlock] at hk; omega)
  have hlt0 : w.heap.size + 2 < w1.heap.size := Nat.lt_of_lt_of_le (by simp) hb4.size
  have hlt1 : w.heap.size + 1 < w1.heap.size := by omega
  have hf := (bcell hb4).2
  have f1 : ∀ o, w1.frozen? ⟨w.heap.size + 1, o, none⟩ = false := fun o => by rw [hf _ _ (by omega)]; go_simp
  have f2 : ∀ o, w1.frozen? ⟨w.heap.size + 1 + 1, o, none⟩ = false := fun o => by rw [hf _ _ (by omega)]; go_simp
  have Z : Boxed w1 (w.heap.size + 1) zeroPk (.slice none 0 0) := (((Boxed.newAt (w.alloc _) (w.heap.size + 1) zeroPk (.slice none 0 0) 29 (by simp)).below (zBa _ _)).below (zBa _ _)).upto hb4 (by omega)
  have Q : Boxed w1 (w.heap.size + 1 + 1) ⟨p.src, p.dst, p.kind, p.id, p.hops, p.whole, p.off + m, true⟩ (.slice (some ⟨b, off, none⟩) len cap) := ((Boxed.newAt ((w.alloc _).alloc _) (w.heap.size + 1 + 1) ⟨p.src, p.dst, p.kind, p.id, p.hops, p.whole, p.off + m, true⟩ (.slice (some ⟨b, off, none⟩) len cap) 29 (by simp)).below (zBa _ _)).upto hb4 (by omega)
  obtain ⟨_, z0, z1, z2, z3, z4, z5, z6, z7, z8⟩ := Z
  obtain ⟨_, c0, c1, c2, c3, c4, c5, c6, c7, c8⟩ := Q
  have HB : Hid (Below w.heap.size w w1) := (below_alloc4 _ _ _ _ _).trans (hb4.mono (by omega))
  have HO : Hid (w1.ownsRow (w.heap.size + 3) 5 1 (.slice (some ⟨g, 0, none⟩) (n) c) (n) ((pieceD zs m n).map (.int .u8))) := by simpa [Hid] using hown
  clear hown hgrow hnil hb4 hf hcell
  go_wp2
  refine bodyPost_ret (v := .agg #[.int .i64 p.src, .int .i64 p.dst, .int .i64 p.kind, .int .i64 p.id, .int .i64 p.hops, .bool p.whole, .int .i64 (p.off + m), .bool true, .slice (some ⟨g, 0, none⟩) (n) c]) (by simp [results, Tryz.results79, go_sem, z0, z1, z2, z3, z4, z5, z6, z7, z8]) rfl ⟨g, c, rfl, ?_, ?_⟩
  ·exact Joins.ownsRow_le (own9 (ownsRow_setCell_below HO.out (by simp) _) (by omega) _ _ _ _ _ _ _ _ _) (by omega)
  ·exact below9 (Below.setCell HB.out (by simp; omega) _) (by omega) _ _ _ _ _ _ _ _ _
 ·have hPe : pieceP p len m n = ⟨p.src, p.dst, p.kind, p.id, p.hops, p.whole, p.off + m, p.more⟩ := by unfold pieceP; rw [if_neg hc1]
  have hDl : (pieceD zs m n).length = len - m := by have := hr.1; simp [pieceD]; omega
  rw [hPe, hDl]
  have hi1 : (len : Int) ≤ (m : Int) + (n : Int) := by omega
  have hi2 : (m : Int) ≤ (len : Int) := by omega
  have hi3 : (len : Int) ≤ (cap : Int) := by omega
  go_enter Tryz.func79, Tryz.ntmps79
  go_wp2_with (at_builtin; refine wpList_append_own _ rfl _ _ 22 rfl (w.heap.size + 3) 5 i0 (.int .u8 0) 1 1 Tryz.underlying22 hi hz0 hz1 hz2 rfl (by decide) (.slice (some ⟨w.heap.size + 3, 0, none⟩) 0 0) 0 [] rfl ?h1 ⟨b, off + m, none⟩ (len - m) (cap - m) ((pieceD zs m n).map (.int .u8)) rfl ?h2 ?h3 (one_u8 _) ?h4 ?h5 ?h6 ?_)
  case h1 => exact own_empty _ _ _ (by simp) (by omega)
  case h2 => simp [hDl]; try omega
  case h3 => exact cells_rdb ((hr.piece m n).below (below_alloc4 _ _ _ _ _))
  case h4 => unfold maxLen; omega
  case h5 => omega
  case h6 => simp
  intro v1 w1 hown hgrow hnil
  obtain ⟨g, c, rfl⟩ : ∃ g c, v1 = .slice (some ⟨g, 0, none⟩) (len - m) c := by
   rcases Joins.ownsRow_forms hown with h | ⟨g, c, h⟩
   ·exact absurd h.1 hnil
   ·exact ⟨g, c, h⟩
  have hb4 : Below (w.heap.size + 3) _ w1 := (Below.refl _ _).grown hgrow (by simp) (by intro k hk; simp [Value.ownBlock] at hk; omega)
  have hlt0 : w.heap.size + 2 < w1.heap.size := Nat.lt_of_lt_of_le (by simp) hb4.size
  have hlt1 : w.heap.size + 1 < w1.heap.size := by omega
  have hf := (bcell hb4).2
  have f1 : ∀ o, w1.frozen? ⟨w.heap.size + 1, o, none⟩ = false := fun o => by rw [hf _ _ (by omega)]; go_simp
  have f2 : ∀ o, w1.frozen? ⟨w.heap.size + 1 + 1, o, none⟩ = false := fun o => by rw [hf _ _ (by omega)]; go_simp
  have Z : Boxed w1 (w.heap.size + 1) zeroPk (.slice none 0 0) := (((Boxed.newAt (w.alloc _) (w.heap.size + 1) zeroPk (.slice none 0 0) 29 (by simp)).below (zBa _ _)).below (zBa _ _)).upto hb4 (by omega)
  have Q : Boxed w1 (w.heap.size + 1 + 1) ⟨p.src, p.dst, p.kind, p.id, p.hops, p.whole, p.off + m, p.more⟩ (.slice (some ⟨b, off, none⟩) len cap) := ((Boxed.newAt ((w.alloc _).alloc _) (w.heap.size + 1 + 1) ⟨p.src, p.dst, p.kind, p.id, p.hops, p.whole, p.off + m, p.more⟩ (.slice (some ⟨b, off, none⟩) len cap) 29 (by simp)).below (zBa _ _)).upto hb4 (by omega)
  obtain ⟨_, z0, z1, z2, z3, z4, z5, z6, z7, z8⟩ := Z
  obtain ⟨_, c0, c1, c2, c3, c4, c5, c6, c7, c8⟩ := Q
  have HB : Hid (Below w.heap.size w w1) := (below_alloc4 _ _ _ _ _).trans (hb4.mono (by omega))
  have HO : Hid (w1.ownsRow (w.heap.size + 3) 5 1 (.slice (some ⟨g, 0, none⟩) (len - m) c) (len - m) ((pieceD zs m n).map (.int .u8))) := by simpa [Hid] using hown
  clear hown hgrow hnil hb4 hf hcell
  go_wp2
  refine bodyPost_ret (v := .agg #[.int .i64 p.src, .int .i64 p.dst, .int .i64 p.kind, .int .i64 p.id, .int .i64 p.hops, .bool p.whole, .int .i64 (p.off + m), .bool p.more, .slice (some ⟨g, 0, none⟩) (len - m) c]) (by simp [results, Tryz.results79, go_sem, z0, z1, z2, z3, z4, z5, z6, z7, z8]) rfl ⟨g, c, rfl, ?_, ?_⟩
  ·exact Joins.ownsRow_le (own9 (ownsRow_setCell_below HO.out (by simp) _) (by omega) _ _ _ _ _ _ _ _ _) (by omega)
  ·exact below9 (Below.setCell HB.out (by simp; omega) _) (by omega) _ _ _ _ _ _ _ _ _
def RdA (w : World) (rb : Nat) (a : Option Addr) (len : Nat) (zs : List Int) : Prop :=
 zs.length = len ∧ (len = 0 ∨ ∃ b off, a = some ⟨b, off, none⟩ ∧ b < w.heap.size ∧ b ≠ rb ∧ ∀ k, k < len → w.cell? ⟨b, off + k, none⟩ = some (.int .u8 (zs.getD k 0)))
theorem RdA.grown {w w' : World} {rb len : Nat} {a : Option Addr} {zs : List Int} (h : RdA w rb a len zs) (hg : w.grownBy w' (some rb)) : RdA w' rb a len zs := by
 refine ⟨h.1, h.2.imp id ?_⟩
 rintro ⟨b, off, ha, hb, hne, hc⟩
 exact ⟨b, off, ha, Nat.lt_of_lt_of_le hb hg.size, hne, fun k hk => (World.cell?_of_block (w := w) (a := ⟨b, off + k, none⟩) (hg.block b hb (fun e => hne (Option.some.inj e)))).trans (hc k hk)⟩
structure RdrAt (w : World) (rb N : Nat) (ba : Option Addr) (bl bc : Nat) (zs : List Int) (p : Int) : Prop where
 blk : w.heap[rb]? = some (.cells #[.slice ba bl bc, .int .i64 p] 92 (0, 0))
 p0 : 0 ≤ p
 p1 : p ≤ N
 hbl : bl ≤ 2000
 bytes : RdA w rb ba bl zs
 small : ∀ k, k < bl → 0 ≤ zs.getD k 0 ∧ zs.getD k 0 ≤ 255
 lo : ∀ x, ba = some x → 0 < bl → x.block < rb
def Rdr (w : World) (rb N : Nat) : Prop := ∃ ba bl bc zs p, RdrAt w rb N ba bl bc zs p
theorem xor_i64_nat (a b : Nat) (ha : a < 4611686018427387904) (hb : b < 4611686018427387904) : bits .xor .i64 (a : Int) (b : Int) = ((a ^^^ b : Nat) : Int) := by
 have hx : a ^^^ b < 2 ^ 62 := Nat.xor_lt_two_pow (by omega) (by omega)
 have h1 : (BitVec.ofInt 64 (a : Int)).toNat = a := by
  rw [BitVec.ofInt_natCast, BitVec.toNat_ofNat]; exact Nat.mod_eq_of_lt (by omega)
 have h2 : (BitVec.ofInt 64 (b : Int)).toNat = b := by
  rw [BitVec.ofInt_natCast, BitVec.toNat_ofNat]; exact Nat.mod_eq_of_lt (by omega)
 show IntKind.i64.wrap ((BitVec.ofInt 64 (a : Int) ^^^ BitVec.ofInt 64 (b : Int)).toNat : Int) = _
 rw [BitVec.toNat_xor, h1, h2, IntKind.wrap_i64]
 omega
theorem wrap_small {x : Int} (h0 : 0 ≤ x) (h1 : x ≤ 9223372036854775807) : wrap64 x = x := by unfold wrap64; omega
theorem tmod_in {x n : Int} (h0 : 0 ≤ x) (hn : 1 ≤ n) : 0 ≤ x.tmod n ∧ x.tmod n < n := by
 rw [Int.tmod_eq_emod_of_nonneg h0]
 exact ⟨Int.emod_nonneg _ (by omega), Int.emod_lt_of_pos _ (by omega)⟩
theorem xor_in {X n : Int} (h0 : 0 ≤ X) (h1 : X ≤ 1000000000) (hn : 1 ≤ n) : 0 ≤ (bits .xor .i64 X (wrap64 (X.tdiv 64))).tmod n ∧ (bits .xor .i64 X (wrap64 (X.tdiv 64))).tmod n < n := by
 obtain ⟨m, rfl⟩ := Int.eq_ofNat_of_zero_le h0
 have e : ((m : Int).tdiv 64) = ((m / 64 : Nat) : Int) := by rw [Int.tdiv_eq_ediv_of_nonneg h0]; omega
 have e2 : wrap64 (((m / 64 : Nat) : Int)) = ((m / 64 : Nat) : Int) := wrap_small (by omega) (by omega)
 rw [e, e2, xor_i64_nat _ _ (by omega) (by omega)]
 exact tmod_in (by omega) hn
def farX (z1 z2 : Int) (P bl : Nat) : Int := wrap64 (wrap64 (wrap64 (wrap64 (wrap64 z1 * 131) + wrap64 (wrap64 z2 * 1117)) + (P : Int) * 29) + wrap64 (wrap64 ((P : Int) / (bl : Int)) * 53))
theorem farX_in {z1 z2 : Int} {P bl : Nat} (h1 : 0 ≤ z1 ∧ z1 ≤ 255) (h2 : 0 ≤ z2 ∧ z2 ≤ 255) (hP : P ≤ 1000000) : 0 ≤ farX z1 z2 P bl ∧ farX z1 z2 P bl ≤ 1000000000 := by
 have hd : (P : Int) / (bl : Int) = ((P / bl : Nat) : Int) := by simp
 have hq : P / bl ≤ P := Nat.div_le_self _ _
 unfold farX
 rw [hd]
 generalize P / bl = Q at *
 rw [wrap_small (x := z1) (by omega) (by omega), wrap_small (x := z2) (by omega) (by omega), wrap_small (x := (Q : Int)) (by omega) (by omega), wrap_small (x := z1 * 131) (by omega) (by omega), wrap_small (x := z2 * 1117) (by omega) (by omega), wrap_small (x := z1 * 131 + z2 * 1117) (by omega) (by omega), wrap_small (x := (Q : Int) * 53) (by omega) (by omega), wrap_small (x := z1 * 131 + z2 * 1117 + (P : Int) * 29) (by omega) (by omega), wrap_small (by omega) (by omega)]
 omega
theorem far_in {z1 z2 n : Int} {P bl : Nat} (h1 : 0 ≤ z1 ∧ z1 ≤ 255) (h2 : 0 ≤ z2 ∧ z2 ≤ 255) (hP : P ≤ 1000000) (hn : 1 ≤ n) :
  0 ≤ (bits .xor .i64 (farX z1 z2 P bl) (wrap64 ((farX z1 z2 P bl).tdiv 64))).tmod n ∧ (bits .xor .i64 (farX z1 z2 P bl) (wrap64 ((farX z1 z2 P bl).tdiv 64))).tmod n < n :=
 xor_in (farX_in h1 h2 hP).1 (farX_in h1 h2 hP).2 hn
def PickPost (rb N : Nat) (n : Int) (w : World) (e : Ending) (w' : World) : Prop :=
 ∃ x : Int, e = .returned (.int .i64 x) ∧ 0 ≤ x ∧ (1 ≤ n → x < n) ∧ (n < 1 → x = 0) ∧ Rdr w' rb (N + 1) ∧ w.grownBy w' (some rb)
theorem RdrAt.cells {w : World} {rb N bl bc : Nat} {ba : Option Addr} {zs : List Int} {p : Int} (h : RdrAt w rb N ba bl bc zs p) :
  w.cell? ⟨rb, 0, none⟩ = some (.slice ba bl bc) ∧ w.cell? ⟨rb, 1, none⟩ = some (.int .i64 p) ∧ w.frozen? ⟨rb, 1, none⟩ = false ∧ rb < w.heap.size := by
 refine ⟨by rw [Joins.cell_of_block h.blk]; rfl, by rw [Joins.cell_of_block h.blk]; rfl, zUf h.blk 1, ?_⟩
 rcases Nat.lt_or_ge rb w.heap.size with h' | h'
 ·exact h'
 ·have := h.blk; rw [Array.getElem?_eq_none h'] at this; cases this
theorem RdrAt.step {w : World} {rb N bl bc : Nat} {ba : Option Addr} {zs : List Int} {p : Int} (h : RdrAt w rb N ba bl bc zs p) (n : Nat) :
  Rdr ((w.setCell ⟨rb, 1, none⟩ (.int .i64 (p + 1))).drewN n) rb (N + 1) ∧ w.grownBy ((w.setCell ⟨rb, 1, none⟩ (.int .i64 (p + 1))).drewN n) (some rb) := by
 have hg : w.grownBy ((w.setCell ⟨rb, 1, none⟩ (.int .i64 (p + 1))).drewN n) (some rb) :=
  ⟨rfl, rfl, rfl, by simp [World.setCell], fun k _ hne => zHs (fun e => hne (by rw [e]))⟩
 refine ⟨⟨ba, bl, bc, zs, p + 1, ?_, ?_, ?_, h.hbl, h.bytes.grown hg, h.small, h.lo⟩, hg⟩
 ·have e := Joins.block_setCell (i := 1) h.blk (.int .i64 (p + 1))
  exact e
 ·have := h.p0; omega
 ·have := h.p1; omega
set_option maxHeartbeats 1600000 in
theorem pick_any (rb N : Nat) (n : Int) (w : World) (hR : Rdr w rb N) (hN : N ≤ 1000000) (hn0 : 0 ≤ n) (hn1 : n ≤ 1000000) :
  Calls Tryz.prog 23 #[.pointer (some ⟨rb, 0, none⟩), .int .i64 n] w (PickPost rb N n w) := by
 obtain ⟨ba, bl, bc, zs, p, h⟩ := hR
 obtain ⟨P, rfl⟩ := Int.eq_ofNat_of_zero_le h.p0
 have hP : (P : Int) ≤ N := h.p1
 have hbl := h.hbl
 obtain ⟨c0, c1, f1, hlt⟩ := h.cells
 by_cases h1 : n < 1
 ·go_enter Tryz.func23, Tryz.ntmps23
  go_wp2
  go_ret
  exact ⟨0, rfl, by omega, by omega, fun _ => rfl, (h.step 0).1, (h.step 0).2⟩
 ·by_cases h2 : bl = 0
  ·subst h2
   go_enter Tryz.func23, Tryz.ntmps23
   go_wp2
   go_ret
   exact ⟨0, rfl, by omega, by omega, fun _ => rfl, (h.step 0).1, (h.step 0).2⟩
  ·obtain ⟨b, off, rfl, hb, hne, hc⟩ := h.bytes.2.resolve_left h2
   have h2i : ((bl : Int) == 0) = false := by simp; omega
   have hd : ∀ j, j < bl → (w.setCell ⟨rb, 1, none⟩ (.int .i64 ((P : Int) + 1))).cell? ⟨b, off + j, none⟩ = some (.int .u8 (zs.getD j 0)) := fun j hj => by
    rw [World.cell?_setCell_far _ _ _ _ (by simpa using hne.symm)]; exact hc j hj
   by_cases h3 : P < bl
   ·have hd1 := hd P h3
    have hs := h.small P h3
    clear hc hd
    go_enter Tryz.func23, Tryz.ntmps23
    go_wp2
    go_ret
    have hz : 0 ≤ zs[P]?.getD 0 ∧ zs[P]?.getD 0 ≤ 255 := hs
    have hw : wrap64 (zs[P]?.getD 0) = zs[P]?.getD 0 := wrap_small hz.1 (by omega)
    have ht := tmod_in (x := wrap64 (zs[P]?.getD 0)) (n := n) (by rw [hw]; exact hz.1) (by omega)
    exact ⟨(wrap64 (zs[P]?.getD 0)).tmod n, rfl, ht.1, fun _ => ht.2, fun _ => by omega, (h.step 0).1, (h.step 0).2⟩
   ·clear hc
    have hbp : 0 < bl := by omega
    have hm1 := Nat.mod_lt P hbp
    have hm2 := Nat.mod_lt (P * 7 + 3) hbp
    have i1 : (0 : Int) ≤ (P : Int) % (bl : Int) := Int.emod_nonneg _ (by omega)
    have i2 : (P : Int) % (bl : Int) < (bl : Int) := Int.emod_lt_of_pos _ (by omega)
    have i3 : (0 : Int) ≤ ((P : Int) * 7 + 3) % (bl : Int) := Int.emod_nonneg _ (by omega)
    have i4 : ((P : Int) * 7 + 3) % (bl : Int) < (bl : Int) := Int.emod_lt_of_pos _ (by omega)
    have hdA := hd (P % bl) hm1
    have hdB := hd ((P * 7 + 3) % bl) hm2
    have hsA := h.small (P % bl) hm1
    have hsB := h.small ((P * 7 + 3) % bl) hm2
    clear hd
    go_enter Tryz.func23, Tryz.ntmps23
    go_wp2
    go_quiet (fail)
    go_wp2
    go_ret
    have hf := far_in (P := P) (bl := bl) (n := n) (z1 := zs[P % bl]?.getD 0) (z2 := zs[(P * 7 + 3) % bl]?.getD 0) hsA hsB (by omega) (by omega)
    exact ⟨_, rfl, hf.1, fun _ => hf.2, fun _ => by omega, (h.step nq).1, (h.step nq).2⟩
theorem RdrAt.lt {w : World} {rb N bl bc : Nat} {ba : Option Addr} {zs : List Int} {p : Int} (h : RdrAt w rb N ba bl bc zs p) : rb < w.heap.size := h.cells.2.2.2
theorem Rdr.lt {w : World} {rb N : Nat} (h : Rdr w rb N) : rb < w.heap.size := by obtain ⟨_, _, _, _, _, h⟩ := h; exact h.lt
theorem grown_below {w w' : World} {r : Option Nat} (h : Below w.heap.size w w') : w.grownBy w' r := ⟨h.os, h.tape, h.output, h.size, fun k hk _ => h.block k hk⟩
theorem Rdr.below {w w' : World} {rb N : Nat} (h : Rdr w rb N) (hb : Below w.heap.size w w') : Rdr w' rb N := by
 obtain ⟨ba, bl, bc, zs, p, h⟩ := h
 exact ⟨ba, bl, bc, zs, p, (hb.block rb h.lt).trans h.blk, h.p0, h.p1, h.hbl, h.bytes.grown (grown_below hb), h.small, h.lo⟩
theorem Rdr.mono {w : World} {rb N M : Nat} (h : Rdr w rb N) (hM : N ≤ M) : Rdr w rb M := by
 obtain ⟨ba, bl, bc, zs, p, h⟩ := h
 exact ⟨ba, bl, bc, zs, p, h.blk, h.p0, by have := h.p1; omega, h.hbl, h.bytes, h.small, h.lo⟩
theorem Rdr.keep {w w' : World} {rb N : Nat} (h : Rdr w rb N) (hs : w.heap.size ≤ w'.heap.size) (hk : ∀ j, j ≤ rb → w'.heap[j]? = w.heap[j]?) : Rdr w' rb N := by
 obtain ⟨ba, bl, bc, zs, p, h⟩ := h
 refine ⟨ba, bl, bc, zs, p, (hk rb (Nat.le_refl _)).trans h.blk, h.p0, h.p1, h.hbl, ⟨h.bytes.1, ?_⟩, h.small, h.lo⟩
 rcases h.bytes.2 with h0 | ⟨b, off, ha, hb, hne, hc⟩
 ·exact Or.inl h0
 ·by_cases h0 : bl = 0
  ·exact Or.inl h0
  ·have hlo := h.lo _ ha (by omega)
   exact Or.inr ⟨b, off, ha, Nat.lt_of_lt_of_le hb hs, hne, fun k hk' => (World.cell?_of_block (w := w) (a := ⟨b, off + k, none⟩) (hk b (Nat.le_of_lt hlo))).trans (hc k hk')⟩
theorem grown_over {a b c : World} {r : Option Nat} {rb : Nat} (h : a.grownBy b (some rb)) (k : b.grownBy c r) (hr : ∀ j, r = some j → a.heap.size ≤ j) : a.grownBy c (some rb) :=
 ⟨k.os.trans h.os, k.tape.trans h.tape, k.output.trans h.output, Nat.le_trans h.size k.size, fun i hi hne => (k.block i (Nat.lt_of_lt_of_le hi h.size) (fun e => by have := hr i e.symm; omega)).trans (h.block i hi hne)⟩
theorem own_grown {w w' : World} {base : Nat} {e : TypeId} {size n : Nat} {v : Value} {xs : List Value} {rb : Nat} (h : w.ownsRow base e size v n xs) (hg : w.grownBy w' (some rb)) (hr : rb < base) : w'.ownsRow base e size v n xs :=
 own_kept h fun k hk => hg.block k (own_lt h k hk).2 (fun e => by have := (own_lt h k hk).1; have := Option.some.inj e; omega)
theorem getD_small {ys : List Int} (hy : ∀ z ∈ ys, 0 ≤ z ∧ z ≤ 255) {k : Nat} (hk : k < ys.length) : 0 ≤ ys.getD k 0 ∧ ys.getD k 0 ≤ 255 := by
 have e : ys.getD k 0 = ys[k] := by simp [List.getD, List.getElem?_eq_getElem hk]
 rw [e]; exact hy _ (List.getElem_mem _)
theorem rdr_new (w : World) (a : Option Addr) (len cap : Nat) (zs : List Int) (hr : RdB w a len zs) (hz : ∀ z ∈ zs, 0 ≤ z ∧ z ≤ 255) (hl : len ≤ 2000) : Rdr (w.alloc (.cells #[.slice a len cap, .int .i64 0] 92)) w.heap.size 0 := by
 refine ⟨a, len, cap, zs, 0, heap_new _ _ _ rfl, by omega, by omega, hl, ⟨hr.1, hr.2.imp id ?_⟩, fun k hk => getD_small hz (by rw [hr.1]; exact hk), fun x hx h0 => ?_⟩
 ·rintro ⟨b, off, ha, hlt, hcell⟩
  exact ⟨b, off, ha, by simp; omega, by omega, fun k hk => by rw [World.cell?_alloc_past _ _ _ hlt]; exact hcell k hk⟩
 ·obtain ⟨b, off, ha, hlt, _⟩ := hr.2.resolve_left (by omega)
  rw [hx] at ha
  cases ha
  exact hlt
theorem RdB.take {w : World} {a : Option Addr} {len : Nat} {zs : List Int} (h : RdB w a len zs) (n : Nat) (hn : n ≤ len) : RdB w a n (zs.take n) := by
 refine ⟨by have := h.1; simp; omega, ?_⟩
 rcases h.2 with h0 | ⟨b, off, ha, hb, hc⟩
 ·exact Or.inl (by omega)
 ·exact Or.inr ⟨b, off, ha, hb, fun k hk => by rw [Joins.getD_take_lt _ _ _ _ hk]; exact hc k (by omega)⟩
set_option maxHeartbeats 800000 in
theorem l1Open_any (a : Option Addr) (len cap : Nat) (zs : List Int) (w : World) (hr : RdB w a len zs) (hz : ∀ z ∈ zs, 0 ≤ z ∧ z ≤ 255) (hc : len ≤ cap) (hl : len ≤ 1048576) :
  Calls Tryz.prog 22 #[.slice a len cap] w fun e w' => ∃ rb, e = .returned (.pointer (some ⟨rb, 0, none⟩)) ∧ w.heap.size ≤ rb ∧ Rdr w' rb 0 ∧ Below w.heap.size w w' := by
 by_cases hb : 2000 < (len : Int)
 ·have hH : Hid (Rdr (w.alloc (.cells #[.slice a 2000 cap, .int .i64 0] 92)) w.heap.size 0) :=
   rdr_new w a 2000 cap (zs.take 2000) (hr.take 2000 (by omega)) (fun z h => hz z (List.mem_of_mem_take h)) (by omega)
  obtain ⟨b, off, rfl, _, _⟩ := hr.2.resolve_left (by omega)
  clear hz hr
  have hcap : (2000 : Int) ≤ (cap : Int) := by omega
  go_enter Tryz.func22, Tryz.ntmps22
  go_wp2
  go_ret
  exact ⟨w.heap.size, rfl, Nat.le_refl _, hH.out, zBa _ _⟩
 ·have hH : Hid (Rdr (w.alloc (.cells #[.slice a len cap, .int .i64 0] 92)) w.heap.size 0) := rdr_new w a len cap zs hr hz (by omega)
  clear hz hr
  go_enter Tryz.func22, Tryz.ntmps22
  go_wp2
  go_ret
  exact ⟨w.heap.size, rfl, Nat.le_refl _, hH.out, zBa _ _⟩
theorem range_snoc {zs : List Int} {x : Int} (h : ∀ z ∈ zs, 0 ≤ z ∧ z ≤ 255) (hx : 0 ≤ x ∧ x ≤ 255) : ∀ z ∈ zs ++ [x], 0 ≤ z ∧ z ≤ 255 := by
 intro z hz
 rcases List.mem_append.1 hz with h1 | h1
 ·exact h z h1
 ·rw [List.mem_singleton.1 h1]; exact hx
def sliceN : Value → Nat | .slice _ n _ => n | _ => 0
set_option maxHeartbeats 1600000 in
theorem l5Data_any (rb N n : Nat) (w : World) (hR : Rdr w rb N) (hN : N ≤ 900000) (hn : n ≤ 200) :
  Calls Tryz.prog 49 #[.pointer (some ⟨rb, 0, none⟩), .int .i64 n] w fun e w' => ∃ (g c : Nat) (zs : List Int), e = .returned (.slice (some ⟨g, 0, none⟩) n c) ∧ w'.ownsRow w.heap.size 5 1 (.slice (some ⟨g, 0, none⟩) n c) n (zs.map (.int .u8)) ∧ Rdr w' rb (N + 3 * n) ∧ w.grownBy w' (some rb) ∧ ∀ z ∈ zs, 0 ≤ z ∧ z ≤ 255 := by
 have hlt := hR.lt
 obtain ⟨i0, hi, hz0, hz1, hz2⟩ := info_parts Tryz.info5
 go_enter Tryz.func49, Tryz.ntmps49
 go_wp2
 go_loopw [5] (fun v wr => ∃ (k g c : Nat) (zs : List Int), k ≤ n ∧ v = .slice (some ⟨g, 0, none⟩) k c ∧ Hid (wr.ownsRow w.heap.size 5 1 (.slice (some ⟨g, 0, none⟩) k c) k (zs.map (.int .u8))) ∧ Hid (Rdr wr rb (N + 3 * k)) ∧ Hid (w.grownBy wr (some rb)) ∧ Hid (∀ z ∈ zs, 0 ≤ z ∧ z ≤ 255)) (fun v _ => n - sliceN v)
 case atStart => exact ⟨0, w.heap.size, 0, [], Nat.zero_le _, rfl, own_empty _ _ _ rfl (Nat.le_refl _), hR.below (zBa _ _), grown_below (zBa _ _), fun z hz => by cases hz⟩
 case round =>
  obtain ⟨k, g, c, zs, hk, rfl, HO, HR, HG, HZ⟩ := hrel
  by_cases hkn : k < n
  ·go_wp2_with fail
   refine (pick_any rb (N + 3 * k) 3 _ HR.out (by omega) (by omega) (by omega)).mono ?_
   rintro e w1 ⟨x1, rfl, hx10, hx11, -, R1, G1⟩
   go_wp2_with fail
   refine (pick_any rb (N + 3 * k + 1) 2 _ R1 (by omega) (by omega) (by omega)).mono ?_
   rintro e w2 ⟨x2, rfl, hx20, hx21, -, R2, G2⟩
   go_wp2_with fail
   refine (pick_any rb (N + 3 * k + 1 + 1) 200 _ R2 (by omega) (by omega) (by omega)).mono ?_
   rintro e w3 ⟨x3, rfl, hx30, hx31, -, R3, G3⟩
   have G03 : wr.grownBy w3 (some rb) := grown_trans (grown_trans G1 G2) G3
   have O3 := own_grown HO.out G03 hlt
   have s3 : w.heap.size ≤ w3.heap.size := Nat.le_trans HG.out.size G03.size
   have GH : Hid (w.grownBy w3 (some rb)) := grown_trans HG.out G03
   have RH : Hid (Rdr w3 rb (N + 3 * k + 1 + 1 + 1)) := R3
   clear G1 G2 G3 R1 R2 R3 G03 HO HR HG hR
   go_wp2_with (at_builtin; refine wpList_append_own _ rfl _ _ 22 rfl w.heap.size 5 i0 (.int .u8 0) 1 1 Tryz.underlying22 hi hz0 hz1 hz2 rfl (by decide) _ k (zs.map (.int .u8)) rfl (O3.alloc _) ⟨w3.heap.size, 0, none⟩ 1 1 [.int .u8 _] rfl rfl (cell_one_new _ _ _) ?h1 ?h2 ?h3 ?h4 ?_)
   case h1 => intro u hu; simp at hu; subst hu; rfl
   case h2 => unfold maxLen; omega
   case h3 => omega
   case h4 => simp; omega
   intro v1 w4 hown hgrow hnil
   obtain ⟨g', c', rfl⟩ : ∃ g' c', v1 = .slice (some ⟨g', 0, none⟩) (k + 1) c' := by
    rcases Joins.ownsRow_forms hown with h | h
    ·exact absurd h.1 hnil
    ·exact h
   have hgr : ∀ j, (Value.slice (some ⟨g, 0, none⟩) k c).ownBlock = some j → w.heap.size ≤ j := fun j hj => (own_lt O3 j hj).1
   have G4 : Hid (w.grownBy w4 (some rb)) := grown_over (grown_trans GH.out (grown_alloc _ _ _)) hgrow hgr
   have R4 : Hid (Rdr w4 rb (N + 3 * (k + 1))) := (Rdr.keep (RH.out.below (zBa _ _)) hgrow.size (fun j hj => hgrow.block j (by have := RH.out.lt; simp; omega) (fun e => by have := hgr j e.symm; omega))).mono (by omega)
   have HO : Hid (w4.ownsRow w.heap.size 5 1 (.slice (some ⟨g', 0, none⟩) (k + 1) c') (k + 1) ((zs ++ [wrap64 (x1 + wrap64 (x2 * x3)) % 256]).map (.int .u8))) := by
    rw [List.map_append]; exact hown
   clear hown hgrow hnil hgr GH RH O3
   go_wp2
   go_roundw
   case rel => exact ⟨k + 1, g', c', _, by omega, rfl, HO, R4, G4, range_snoc HZ.out (by omega)⟩
   case measure => simp [sliceN]; omega
  ·go_wp2
   go_ret
   have e : k = n := by omega
   subst e
   exact ⟨g, c, zs, rfl, HO.out, HR.out, HG.out, HZ.out⟩
end Go.Proofs.YtjbkgmbakjnlhaaGreatDoor
