/- The reader of drawn numbers: its contract. -/
import Derived.Test.YtjbkgmbakjnlhaaKept
import Derived.Laws.Bits64
import Derived.Deep.RegionHeld3
namespace Go.Proofs.Ytjbkgmbakjnlhaa
open Go.RowKit

/-- bytes in memory, outside the reader's own block -/
def RdA (w : World) (rb : Nat) (a : Option Addr) (len : Nat) (zs : List Int) : Prop :=
  zs.length = len ∧ (len = 0 ∨ ∃ b off, a = some ⟨b, off, none⟩ ∧ b < w.heap.size ∧ b ≠ rb ∧ ∀ k, k < len → w.cell? ⟨b, off + k, none⟩ = some (.int .u8 (zs.getD k 0)))
theorem RdA.rdB {w : World} {rb len : Nat} {a : Option Addr} {zs : List Int} (h : RdA w rb a len zs) : RdB w a len zs :=
  ⟨h.1, h.2.imp id fun ⟨b, off, ha, hb, _, hc⟩ => ⟨b, off, ha, hb, hc⟩⟩
theorem RdA.grown {w w' : World} {rb len : Nat} {a : Option Addr} {zs : List Int} (h : RdA w rb a len zs) (hg : w.grownBy w' (some rb)) : RdA w' rb a len zs := by
  refine ⟨h.1, h.2.imp id ?_⟩
  rintro ⟨b, off, ha, hb, hne, hc⟩
  exact ⟨b, off, ha, Nat.lt_of_lt_of_le hb hg.size, hne, fun k hk => (World.cell?_of_block (w := w) (a := ⟨b, off + k, none⟩) (hg.block b hb (fun e => hne (Option.some.inj e)))).trans (hc k hk)⟩

/-- the reader: a block with the code and how many numbers were drawn -/
structure RdrAt (w : World) (rb N : Nat) (ba : Option Addr) (bl bc : Nat) (zs : List Int) (p : Int) : Prop where
  blk : w.heap[rb]? = some (.cells #[.slice ba bl bc, .int .i64 p] 89 (0, 0))
  p0 : 0 ≤ p
  p1 : p ≤ N
  hbl : bl ≤ 2000
  bytes : RdA w rb ba bl zs
  small : ∀ k, k < bl → 0 ≤ zs.getD k 0 ∧ zs.getD k 0 ≤ 255
  lo : ∀ x, ba = some x → 0 < bl → x.block < rb
def Rdr (w : World) (rb N : Nat) : Prop := ∃ ba bl bc zs p, RdrAt w rb N ba bl bc zs p

theorem xor_i64_nat (a b : Nat) (ha : a < 4611686018427387904) (hb : b < 4611686018427387904) : bits .xor .i64 (a : Int) (b : Int) = ((a ^^^ b : Nat) : Int) := by
  have hx : a ^^^ b < 2 ^ 62 := Nat.xor_lt_two_pow (by omega) (by omega)
  have h1 : (BitVec.ofInt 64 (a : Int)).toNat = a := by
    rw [BitVec.ofInt_natCast, BitVec.toNat_ofNat]; exact Nat.mod_eq_of_lt (by omega)
  have h2 : (BitVec.ofInt 64 (b : Int)).toNat = b := by
    rw [BitVec.ofInt_natCast, BitVec.toNat_ofNat]; exact Nat.mod_eq_of_lt (by omega)
  show IntKind.i64.wrap ((BitVec.ofInt 64 (a : Int) ^^^ BitVec.ofInt 64 (b : Int)).toNat : Int) = _
  rw [BitVec.toNat_xor, h1, h2, IntKind.wrap_i64]
  omega

theorem wrap_small {x : Int} (h0 : 0 ≤ x) (h1 : x ≤ 9223372036854775807) : wrap64 x = x := by unfold wrap64; omega
theorem tmod_in {x n : Int} (h0 : 0 ≤ x) (hn : 1 ≤ n) : 0 ≤ x.tmod n ∧ x.tmod n < n := by
  rw [Int.tmod_eq_emod_of_nonneg h0]
  exact ⟨Int.emod_nonneg _ (by omega), Int.emod_lt_of_pos _ (by omega)⟩
theorem xor_in {X n : Int} (h0 : 0 ≤ X) (h1 : X ≤ 1000000000) (hn : 1 ≤ n) : 0 ≤ (bits .xor .i64 X (wrap64 (X.tdiv 64))).tmod n ∧ (bits .xor .i64 X (wrap64 (X.tdiv 64))).tmod n < n := by
  obtain ⟨m, rfl⟩ := Int.eq_ofNat_of_zero_le h0
  have e : ((m : Int).tdiv 64) = ((m / 64 : Nat) : Int) := by rw [Int.tdiv_eq_ediv_of_nonneg h0]; omega
  have e2 : wrap64 (((m / 64 : Nat) : Int)) = ((m / 64 : Nat) : Int) := wrap_small (by omega) (by omega)
  rw [e, e2, xor_i64_nat _ _ (by omega) (by omega)]
  exact tmod_in (by omega) hn
/-- the mixture of the code's bytes and the place -/
def farX (z1 z2 : Int) (P bl : Nat) : Int := wrap64 (wrap64 (wrap64 (wrap64 (wrap64 z1 * 131) + wrap64 (wrap64 z2 * 1117)) + (P : Int) * 29) + wrap64 (wrap64 ((P : Int) / (bl : Int)) * 53))
theorem farX_in {z1 z2 : Int} {P bl : Nat} (h1 : 0 ≤ z1 ∧ z1 ≤ 255) (h2 : 0 ≤ z2 ∧ z2 ≤ 255) (hP : P ≤ 1000000) : 0 ≤ farX z1 z2 P bl ∧ farX z1 z2 P bl ≤ 1000000000 := by
  have hd : (P : Int) / (bl : Int) = ((P / bl : Nat) : Int) := by simp
  have hq : P / bl ≤ P := Nat.div_le_self _ _
  unfold farX
  rw [hd]
  generalize P / bl = Q at *
  rw [wrap_small (x := z1) (by omega) (by omega), wrap_small (x := z2) (by omega) (by omega), wrap_small (x := (Q : Int)) (by omega) (by omega), wrap_small (x := z1 * 131) (by omega) (by omega), wrap_small (x := z2 * 1117) (by omega) (by omega), wrap_small (x := z1 * 131 + z2 * 1117) (by omega) (by omega), wrap_small (x := (Q : Int) * 53) (by omega) (by omega), wrap_small (x := z1 * 131 + z2 * 1117 + (P : Int) * 29) (by omega) (by omega), wrap_small (by omega) (by omega)]
  omega
theorem far_in {z1 z2 n : Int} {P bl : Nat} (h1 : 0 ≤ z1 ∧ z1 ≤ 255) (h2 : 0 ≤ z2 ∧ z2 ≤ 255) (hP : P ≤ 1000000) (hn : 1 ≤ n) :
    0 ≤ (bits .xor .i64 (farX z1 z2 P bl) (wrap64 ((farX z1 z2 P bl).tdiv 64))).tmod n ∧ (bits .xor .i64 (farX z1 z2 P bl) (wrap64 ((farX z1 z2 P bl).tdiv 64))).tmod n < n :=
  xor_in (farX_in h1 h2 hP).1 (farX_in h1 h2 hP).2 hn

/-- What a draw leaves: a number within its bound; the reader goes on. -/
def PickPost (rb N : Nat) (n : Int) (w : World) (e : Ending) (w' : World) : Prop :=
  ∃ x : Int, e = .returned (.int .i64 x) ∧ 0 ≤ x ∧ (1 ≤ n → x < n) ∧ (n < 1 → x = 0) ∧ Rdr w' rb (N + 1) ∧ w.grownBy w' (some rb)

theorem RdrAt.cells {w : World} {rb N bl bc : Nat} {ba : Option Addr} {zs : List Int} {p : Int} (h : RdrAt w rb N ba bl bc zs p) :
    w.cell? ⟨rb, 0, none⟩ = some (.slice ba bl bc) ∧ w.cell? ⟨rb, 1, none⟩ = some (.int .i64 p) ∧ w.frozen? ⟨rb, 1, none⟩ = false ∧ rb < w.heap.size := by
  refine ⟨by rw [Joins.cell_of_block h.blk]; rfl, by rw [Joins.cell_of_block h.blk]; rfl, Joins.unfrozen_of_block h.blk 1, ?_⟩
  rcases Nat.lt_or_ge rb w.heap.size with h' | h'
  · exact h'
  · have := h.blk; rw [Array.getElem?_eq_none h'] at this; cases this
theorem RdrAt.step {w : World} {rb N bl bc : Nat} {ba : Option Addr} {zs : List Int} {p : Int} (h : RdrAt w rb N ba bl bc zs p) (n : Nat) :
    Rdr ((w.setCell ⟨rb, 1, none⟩ (.int .i64 (p + 1))).drewN n) rb (N + 1) ∧ w.grownBy ((w.setCell ⟨rb, 1, none⟩ (.int .i64 (p + 1))).drewN n) (some rb) := by
  have hg : w.grownBy ((w.setCell ⟨rb, 1, none⟩ (.int .i64 (p + 1))).drewN n) (some rb) :=
    ⟨rfl, rfl, rfl, by simp [World.setCell], fun k _ hne => Below.heap_setCell _ _ _ _ (fun e => hne (by rw [e]))⟩
  refine ⟨⟨ba, bl, bc, zs, p + 1, ?_, ?_, ?_, h.hbl, h.bytes.grown hg, h.small, h.lo⟩, hg⟩
  · have e := Joins.block_setCell (i := 1) h.blk (.int .i64 (p + 1))
    exact e
  · have := h.p0; omega
  · have := h.p1; omega

set_option maxHeartbeats 1600000 in
theorem pick_any (rb N : Nat) (n : Int) (w : World) (hR : Rdr w rb N) (hN : N ≤ 1000000) (hn0 : 0 ≤ n) (hn1 : n ≤ 1000000) :
    Calls Try.prog 36 #[.pointer (some ⟨rb, 0, none⟩), .int .i64 n] w (PickPost rb N n w) := by
  obtain ⟨ba, bl, bc, zs, p, h⟩ := hR
  obtain ⟨P, rfl⟩ := Int.eq_ofNat_of_zero_le h.p0
  have hP : (P : Int) ≤ N := h.p1
  have hbl := h.hbl
  obtain ⟨c0, c1, f1, hlt⟩ := h.cells
  by_cases h1 : n < 1
  · go_enter Try.func36, Try.ntmps36
    go_wp2
    go_ret
    exact ⟨0, rfl, by omega, by omega, fun _ => rfl, (h.step 0).1, (h.step 0).2⟩
  · by_cases h2 : bl = 0
    · subst h2
      go_enter Try.func36, Try.ntmps36
      go_wp2
      go_ret
      exact ⟨0, rfl, by omega, by omega, fun _ => rfl, (h.step 0).1, (h.step 0).2⟩
    · obtain ⟨b, off, rfl, hb, hne, hc⟩ := h.bytes.2.resolve_left h2
      have h2i : ((bl : Int) == 0) = false := by simp; omega
      have hd : ∀ j, j < bl → (w.setCell ⟨rb, 1, none⟩ (.int .i64 ((P : Int) + 1))).cell? ⟨b, off + j, none⟩ = some (.int .u8 (zs.getD j 0)) := fun j hj => by
        rw [World.cell?_setCell_far _ _ _ _ (by simpa using hne.symm)]; exact hc j hj
      by_cases h3 : P < bl
      · have hd1 := hd P h3
        have hs := h.small P h3
        clear hc hd
        go_enter Try.func36, Try.ntmps36
        go_wp2
        go_ret
        have hz : 0 ≤ zs[P]?.getD 0 ∧ zs[P]?.getD 0 ≤ 255 := hs
        have hw : wrap64 (zs[P]?.getD 0) = zs[P]?.getD 0 := wrap_small hz.1 (by omega)
        have ht := tmod_in (x := wrap64 (zs[P]?.getD 0)) (n := n) (by rw [hw]; exact hz.1) (by omega)
        exact ⟨(wrap64 (zs[P]?.getD 0)).tmod n, rfl, ht.1, fun _ => ht.2, fun _ => by omega, (h.step 0).1, (h.step 0).2⟩
      · clear hc
        have hbp : 0 < bl := by omega
        have hm1 := Nat.mod_lt P hbp
        have hm2 := Nat.mod_lt (P * 7 + 3) hbp
        have i1 : (0 : Int) ≤ (P : Int) % (bl : Int) := Int.emod_nonneg _ (by omega)
        have i2 : (P : Int) % (bl : Int) < (bl : Int) := Int.emod_lt_of_pos _ (by omega)
        have i3 : (0 : Int) ≤ ((P : Int) * 7 + 3) % (bl : Int) := Int.emod_nonneg _ (by omega)
        have i4 : ((P : Int) * 7 + 3) % (bl : Int) < (bl : Int) := Int.emod_lt_of_pos _ (by omega)
        have hdA := hd (P % bl) hm1
        have hdB := hd ((P * 7 + 3) % bl) hm2
        have hsA := h.small (P % bl) hm1
        have hsB := h.small ((P * 7 + 3) % bl) hm2
        clear hd
        go_enter Try.func36, Try.ntmps36
        go_wp2
        go_quiet (fail)
        go_wp2
        go_ret
        have hf := far_in (P := P) (bl := bl) (n := n) (z1 := zs[P % bl]?.getD 0) (z2 := zs[(P * 7 + 3) % bl]?.getD 0) hsA hsB (by omega) (by omega)
        exact ⟨_, rfl, hf.1, fun _ => hf.2, fun _ => by omega, (h.step nq).1, (h.step nq).2⟩
end Go.Proofs.Ytjbkgmbakjnlhaa
