import Derived.Test.YtjbkgmbakjnlhaaGreatDoorPartAa
import Derived.Laws.Bits64
import Derived.Deep.RegionHeld3
import Derived.Test.YtjbkgmbakjnlhaaGreatDoorPartAc
import Derived.Test.YtjbkgmbakjnlhaaGreatDoorPartAb
namespace Go.Proofs.YtjbkgmbakjnlhaaGreatDoor
set_option maxRecDepth 100000
open Go.RowKit
def RdA (w : World) (rb : Nat) (a : Option Addr) (len : Nat) (zs : List Int) : Prop :=
 zs.length = len ∧ (len = 0 ∨ ∃ b off, a = some ⟨b, off, none⟩ ∧ b < w.heap.size ∧ b ≠ rb ∧ ∀ k, k < len → w.cell? ⟨b, off + k, none⟩ = some (.int .u8 (zs.getD k 0)))
theorem RdA.grown {w w' : World} {rb len : Nat} {a : Option Addr} {zs : List Int} (h : RdA w rb a len zs) (hg : w.grownBy w' (some rb)) : RdA w' rb a len zs := by
 refine ⟨h.1, h.2.imp id ?_⟩
 rintro ⟨b, off, ha, hb, hne, hc⟩
 exact ⟨b, off, ha, Nat.lt_of_lt_of_le hb hg.size, hne, fun k hk => (World.cell?_of_block (w := w) (a := ⟨b, off + k, none⟩) (hg.block b hb (fun e => hne (Option.some.inj e)))).trans (hc k hk)⟩
structure RdrAt (w : World) (rb N : Nat) (ba : Option Addr) (bl bc : Nat) (zs : List Int) (p : Int) : Prop where
 blk : w.heap[rb]? = some (.cells #[.slice ba bl bc, .int .i64 p] 92 (0, 0))
 p0 : 0 ≤ p
 p1 : p ≤ N
 hbl : bl ≤ 2000
 bytes : RdA w rb ba bl zs
 small : ∀ k, k < bl → 0 ≤ zs.getD k 0 ∧ zs.getD k 0 ≤ 255
 lo : ∀ x, ba = some x → 0 < bl → x.block < rb
def Rdr (w : World) (rb N : Nat) : Prop := ∃ ba bl bc zs p, RdrAt w rb N ba bl bc zs p
theorem xor_i64_nat (a b : Nat) (ha : a < 4611686018427387904) (hb : b < 4611686018427387904) : bits .xor .i64 (a : Int) (b : Int) = ((a ^^^ b : Nat) : Int) := by
 have hx : a ^^^ b < 2 ^ 62 := Nat.xor_lt_two_pow (by omega) (by omega)
 have h1 : (BitVec.ofInt 64 (a : Int)).toNat = a := by
  rw [BitVec.ofInt_natCast, BitVec.toNat_ofNat]; exact Nat.mod_eq_of_lt (by omega)
 have h2 : (BitVec.ofInt 64 (b : Int)).toNat = b := by
  rw [BitVec.ofInt_natCast, BitVec.toNat_ofNat]; exact Nat.mod_eq_of_lt (by omega)
 show IntKind.i64.wrap ((BitVec.ofInt 64 (a : Int) ^^^ BitVec.ofInt 64 (b : Int)).toNat : Int) = _
 rw [BitVec.toNat_xor, h1, h2, IntKind.wrap_i64]
 omega
theorem wrap_small {x : Int} (h0 : 0 ≤ x) (h1 : x ≤ 9223372036854775807) : wrap64 x = x := by unfold wrap64; omega
theorem tmod_in {x n : Int} (h0 : 0 ≤ x) (hn : 1 ≤ n) : 0 ≤ x.tmod n ∧ x.tmod n < n := by
 rw [Int.tmod_eq_emod_of_nonneg h0]
 exact ⟨Int.emod_nonneg _ (by omega), Int.emod_lt_of_pos _ (by omega)⟩
theorem xor_in {X n : Int} (h0 : 0 ≤ X) (h1 : X ≤ 1000000000) (hn : 1 ≤ n) : 0 ≤ (bits .xor .i64 X (wrap64 (X.tdiv 64))).tmod n ∧ (bits .xor .i64 X (wrap64 (X.tdiv 64))).tmod n < n := by
 obtain ⟨m, rfl⟩ := Int.eq_ofNat_of_zero_le h0
 have e : ((m : Int).tdiv 64) = ((m / 64 : Nat) : Int) := by rw [Int.tdiv_eq_ediv_of_nonneg h0]; omega
 have e2 : wrap64 (((m / 64 : Nat) : Int)) = ((m / 64 : Nat) : Int) := wrap_small (by omega) (by omega)
 rw [e, e2, xor_i64_nat _ _ (by omega) (by omega)]
 exact tmod_in (by omega) hn
def farX (z1 z2 : Int) (P bl : Nat) : Int := wrap64 (wrap64 (wrap64 (wrap64 (wrap64 z1 * 131) + wrap64 (wrap64 z2 * 1117)) + (P : Int) * 29) + wrap64 (wrap64 ((P : Int) / (bl : Int)) * 53))
theorem farX_in {z1 z2 : Int} {P bl : Nat} (h1 : 0 ≤ z1 ∧ z1 ≤ 255) (h2 : 0 ≤ z2 ∧ z2 ≤ 255) (hP : P ≤ 1000000) : 0 ≤ farX z1 z2 P bl ∧ farX z1 z2 P bl ≤ 1000000000 := by
 have hd : (P : Int) / (bl : Int) = ((P / bl : Nat) : Int) := by simp
 have hq : P / bl ≤ P := Nat.div_le_self _ _
 unfold farX
 rw [hd]
 generalize P / bl = Q at *
 rw [wrap_small (x := z1) (by omega) (by omega), wrap_small (x := z2) (by omega) (by omega), wrap_small (x := (Q : Int)) (by omega) (by omega), wrap_small (x := z1 * 131) (by omega) (by omega), wrap_small (x := z2 * 1117) (by omega) (by omega), wrap_small (x := z1 * 131 + z2 * 1117) (by omega) (by omega), wrap_small (x := (Q : Int) * 53) (by omega) (by omega), wrap_small (x := z1 * 131 + z2 * 1117 + (P : Int) * 29) (by omega) (by omega), wrap_small (by omega) (by omega)]
 omega
theorem far_in {z1 z2 n : Int} {P bl : Nat} (h1 : 0 ≤ z1 ∧ z1 ≤ 255) (h2 : 0 ≤ z2 ∧ z2 ≤ 255) (hP : P ≤ 1000000) (hn : 1 ≤ n) :
  0 ≤ (bits .xor .i64 (farX z1 z2 P bl) (wrap64 ((farX z1 z2 P bl).tdiv 64))).tmod n ∧ (bits .xor .i64 (farX z1 z2 P bl) (wrap64 ((farX z1 z2 P bl).tdiv 64))).tmod n < n :=
 xor_in (farX_in h1 h2 hP).1 (farX_in h1 h2 hP).2 hn
def PickPost (rb N : Nat) (n : Int) (w : World) (e : Ending) (w' : World) : Prop :=
 ∃ x : Int, e = .returned (.int .i64 x) ∧ 0 ≤ x ∧ (1 ≤ n → x < n) ∧ (n < 1 → x = 0) ∧ Rdr w' rb (N + 1) ∧ w.grownBy w' (some rb)
theorem RdrAt.cells {w : World} {rb N bl bc : Nat} {ba : Option Addr} {zs : List Int} {p : Int} (h : RdrAt w rb N ba bl bc zs p) :
  w.cell? ⟨rb, 0, none⟩ = some (.slice ba bl bc) ∧ w.cell? ⟨rb, 1, none⟩ = some (.int .i64 p) ∧ w.frozen? ⟨rb, 1, none⟩ = false ∧ rb < w.heap.size := by
 refine ⟨by rw [Joins.cell_of_block h.blk]; rfl, by rw [Joins.cell_of_block h.blk]; rfl, zUf h.blk 1, ?_⟩
 rcases Nat.lt_or_ge rb w.heap.size with h' | h'
 ·exact h'
 ·have := h.blk; rw [Array.getElem?_eq_none h'] at this; cases this
theorem RdrAt.step {w : World} {rb N bl bc : Nat} {ba : Option Addr} {zs : List Int} {p : Int} (h : RdrAt w rb N ba bl bc zs p) (n : Nat) :
  Rdr ((w.setCell ⟨rb, 1, none⟩ (.int .i64 (p + 1))).drewN n) rb (N + 1) ∧ w.grownBy ((w.setCell ⟨rb, 1, none⟩ (.int .i64 (p + 1))).drewN n) (some rb) := by
 have hg : w.grownBy ((w.setCell ⟨rb, 1, none⟩ (.int .i64 (p + 1))).drewN n) (some rb) :=
  ⟨rfl, rfl, rfl, by simp [World.setCell], fun k _ hne => zHs (fun e => hne (by rw [e]))⟩
 refine ⟨⟨ba, bl, bc, zs, p + 1, ?_, ?_, ?_, h.hbl, h.bytes.grown hg, h.small, h.lo⟩, hg⟩
 ·have e := Joins.block_setCell (i := 1) h.blk (.int .i64 (p + 1))
  exact e
 ·have := h.p0; omega
 ·have := h.p1; omega
set_option maxHeartbeats 1600000 in
theorem pick_any (rb N : Nat) (n : Int) (w : World) (hR : Rdr w rb N) (hN : N ≤ 1000000) (hn0 : 0 ≤ n) (hn1 : n ≤ 1000000) :
  Calls Tryz.prog 23 #[.pointer (some ⟨rb, 0, none⟩), .int .i64 n] w (PickPost rb N n w) := by
 obtain ⟨ba, bl, bc, zs, p, h⟩ := hR
 obtain ⟨P, rfl⟩ := Int.eq_ofNat_of_zero_le h.p0
 have hP : (P : Int) ≤ N := h.p1
 have hbl := h.hbl
 obtain ⟨c0, c1, f1, hlt⟩ := h.cells
 by_cases h1 : n < 1
 ·go_enter Tryz.func23, Tryz.ntmps23
  go_wp2
  go_ret
  exact ⟨0, rfl, by omega, by omega, fun _ => rfl, (h.step 0).1, (h.step 0).2⟩
 ·by_cases h2 : bl = 0
  ·subst h2
   go_enter Tryz.func23, Tryz.ntmps23
   go_wp2
   go_ret
   exact ⟨0, rfl, by omega, by omega, fun _ => rfl, (h.step 0).1, (h.step 0).2⟩
  ·obtain ⟨b, off, rfl, hb, hne, hc⟩ := h.bytes.2.resolve_left h2
   have h2i : ((bl : Int) == 0) = false := by simp; omega
   have hd : ∀ j, j < bl → (w.setCell ⟨rb, 1, none⟩ (.int .i64 ((P : Int) + 1))).cell? ⟨b, off + j, none⟩ = some (.int .u8 (zs.getD j 0)) := fun j hj => by
    rw [World.cell?_setCell_far _ _ _ _ (by simpa using hne.symm)]; exact hc j hj
   by_cases h3 : P < bl
   ·have hd1 := hd P h3
    have hs := h.small P h3
    clear hc hd
    go_enter Tryz.func23, Tryz.ntmps23
    go_wp2
    go_ret
    have hz : 0 ≤ zs[P]?.getD 0 ∧ zs[P]?.getD 0 ≤ 255 := hs
    have hw : wrap64 (zs[P]?.getD 0) = zs[P]?.getD 0 := wrap_small hz.1 (by omega)
    have ht := tmod_in (x := wrap64 (zs[P]?.getD 0)) (n := n) (by rw [hw]; exact hz.1) (by omega)
    exact ⟨(wrap64 (zs[P]?.getD 0)).tmod n, rfl, ht.1, fun _ => ht.2, fun _ => by omega, (h.step 0).1, (h.step 0).2⟩
   ·clear hc
    have hbp : 0 < bl := by omega
    have hm1 := Nat.mod_lt P hbp
    have hm2 := Nat.mod_lt (P * 7 + 3) hbp
    have i1 : (0 : Int) ≤ (P : Int) % (bl : Int) := Int.emod_nonneg _ (by omega)
    have i2 : (P : Int) % (bl : Int) < (bl : Int) := Int.emod_lt_of_pos _ (by omega)
    have i3 : (0 : Int) ≤ ((P : Int) * 7 + 3) % (bl : Int) := Int.emod_nonneg _ (by omega)
    have i4 : ((P : Int) * 7 + 3) % (bl : Int) < (bl : Int) := Int.emod_lt_of_pos _ (by omega)
    have hdA := hd (P % bl) hm1
    have hdB := hd ((P * 7 + 3) % bl) hm2
    have hsA := h.small (P % bl) hm1
    have hsB := h.small ((P * 7 + 3) % bl) hm2
    clear hd
    go_enter Tryz.func23, Tryz.ntmps23
    go_wp2
    go_quiet (fail)
    go_wp2
    go_ret
    have hf := far_in (P := P) (bl := bl) (n := n) (z1 := zs[P % bl]?.getD 0) (z2 := zs[(P * 7 + 3) % bl]?.getD 0) hsA hsB (by omega) (by omega)
    exact ⟨_, rfl, hf.1, fun _ => hf.2, fun _ => by omega, (h.step nq).1, (h.step nq).2⟩
theorem RdrAt.lt {w : World} {rb N bl bc : Nat} {ba : Option Addr} {zs : List Int} {p : Int} (h : RdrAt w rb N ba bl bc zs p) : rb < w.heap.size := h.cells.2.2.2
theorem Rdr.lt {w : World} {rb N : Nat} (h : Rdr w rb N) : rb < w.heap.size := by obtain ⟨_, _, _, _, _, h⟩ := h; exact h.lt
theorem grown_below {w w' : World} {r : Option Nat} (h : Below w.heap.size w w') : w.grownBy w' r := ⟨h.os, h.tape, h.output, h.size, fun k hk _ => h.block k hk⟩
theorem Rdr.below {w w' : World} {rb N : Nat} (h : Rdr w rb N) (hb : Below w.heap.size w w') : Rdr w' rb N := by
 obtain ⟨ba, bl, bc, zs, p, h⟩ := h
 exact ⟨ba, bl, bc, zs, p, (hb.block rb h.lt).trans h.blk, h.p0, h.p1, h.hbl, h.bytes.grown (grown_below hb), h.small, h.lo⟩
theorem Rdr.mono {w : World} {rb N M : Nat} (h : Rdr w rb N) (hM : N ≤ M) : Rdr w rb M := by
 obtain ⟨ba, bl, bc, zs, p, h⟩ := h
 exact ⟨ba, bl, bc, zs, p, h.blk, h.p0, by have := h.p1; omega, h.hbl, h.bytes, h.small, h.lo⟩
theorem Rdr.keep {w w' : World} {rb N : Nat} (h : Rdr w rb N) (hs : w.heap.size ≤ w'.heap.size) (hk : ∀ j, j ≤ rb → w'.heap[j]? = w.heap[j]?) : Rdr w' rb N := by
 obtain ⟨ba, bl, bc, zs, p, h⟩ := h
 refine ⟨ba, bl, bc, zs, p, (hk rb (Nat.le_refl _)).trans h.blk, h.p0, h.p1, h.hbl, ⟨h.bytes.1, ?_⟩, h.small, h.lo⟩
 rcases h.bytes.2 with h0 | ⟨b, off, ha, hb, hne, hc⟩
 ·exact Or.inl h0
 ·by_cases h0 : bl = 0
  ·exact Or.inl h0
  ·have hlo := h.lo _ ha (by omega)
   exact Or.inr ⟨b, off, ha, Nat.lt_of_lt_of_le hb hs, hne, fun k hk' => (World.cell?_of_block (w := w) (a := ⟨b, off + k, none⟩) (hk b (Nat.le_of_lt hlo))).trans (hc k hk')⟩
theorem grown_over {a b c : World} {r : Option Nat} {rb : Nat} (h : a.grownBy b (some rb)) (k : b.grownBy c r) (hr : ∀ j, r = some j → a.heap.size ≤ j) : a.grownBy c (some rb) :=
 ⟨k.os.trans h.os, k.tape.trans h.tape, k.output.trans h.output, Nat.le_trans h.size k.size, fun i hi hne => (k.block i (Nat.lt_of_lt_of_le hi h.size) (fun e => by have := hr i e.symm; omega)).trans (h.block i hi hne)⟩
theorem own_grown {w w' : World} {base : Nat} {e : TypeId} {size n : Nat} {v : Value} {xs : List Value} {rb : Nat} (h : w.ownsRow base e size v n xs) (hg : w.grownBy w' (some rb)) (hr : rb < base) : w'.ownsRow base e size v n xs :=
 own_kept h fun k hk => hg.block k (own_lt h k hk).2 (fun e => by have := (own_lt h k hk).1; have := Option.some.inj e; omega)
theorem getD_small {ys : List Int} (hy : ∀ z ∈ ys, 0 ≤ z ∧ z ≤ 255) {k : Nat} (hk : k < ys.length) : 0 ≤ ys.getD k 0 ∧ ys.getD k 0 ≤ 255 := by
 have e : ys.getD k 0 = ys[k] := by simp [List.getD, List.getElem?_eq_getElem hk]
 rw [e]; exact hy _ (List.getElem_mem _)
theorem rdr_new (w : World) (a : Option Addr) (len cap : Nat) (zs : List Int) (hr : RdB w a len zs) (hz : ∀ z ∈ zs, 0 ≤ z ∧ z ≤ 255) (hl : len ≤ 2000) : Rdr (w.alloc (.cells #[.slice a len cap, .int .i64 0] 92)) w.heap.size 0 := by
 refine ⟨a, len, cap, zs, 0, heap_new _ _ _ rfl, by omega, by omega, hl, ⟨hr.1, hr.2.imp id ?_⟩, fun k hk => getD_small hz (by rw [hr.1]; exact hk), fun x hx h0 => ?_⟩
 ·rintro ⟨b, off, ha, hlt, hcell⟩
  exact ⟨b, off, ha, by simp; omega, by omega, fun k hk => by rw [World.cell?_alloc_past _ _ _ hlt]; exact hcell k hk⟩
 ·obtain ⟨b, off, ha, hlt, _⟩ := hr.2.resolve_left (by omega)
  rw [hx] at ha
  cases ha
  exact hlt
theorem RdB.take {w : World} {a : Option Addr} {len : Nat} {zs : List Int} (h : RdB w a len zs) (n : Nat) (hn : n ≤ len) : RdB w a n (zs.take n) := by
 refine ⟨by have := h.1; simp; omega, ?_⟩
 rcases h.2 with h0 | ⟨b, off, ha, hb, hc⟩
 ·exact Or.inl (by omega)
 ·exact Or.inr ⟨b, off, ha, hb, fun k hk => by rw [Joins.getD_take_lt _ _ _ _ hk]; exact hc k (by omega)⟩
set_option maxHeartbeats 800000 in
theorem l1Open_any (a : Option Addr) (len cap : Nat) (zs : List Int) (w : World) (hr : RdB w a len zs) (hz : ∀ z ∈ zs, 0 ≤ z ∧ z ≤ 255) (hc : len ≤ cap) (hl : len ≤ 1048576) :
  Calls Tryz.prog 22 #[.slice a len cap] w fun e w' => ∃ rb, e = .returned (.pointer (some ⟨rb, 0, none⟩)) ∧ w.heap.size ≤ rb ∧ Rdr w' rb 0 ∧ Below w.heap.size w w' := by
 by_cases hb : 2000 < (len : Int)
 ·have hH : Hid (Rdr (w.alloc (.cells #[.slice a 2000 cap, .int .i64 0] 92)) w.heap.size 0) :=
   rdr_new w a 2000 cap (zs.take 2000) (hr.take 2000 (by omega)) (fun z h => hz z (List.mem_of_mem_take h)) (by omega)
  obtain ⟨b, off, rfl, _, _⟩ := hr.2.resolve_left (by omega)
  clear hz hr
  have hcap : (2000 : Int) ≤ (cap : Int) := by omega
  go_enter Tryz.func22, Tryz.ntmps22
  go_wp2
  go_ret
  exact ⟨w.heap.size, rfl, Nat.le_refl _, hH.out, zBa _ _⟩
 ·have hH : Hid (Rdr (w.alloc (.cells #[.slice a len cap, .int .i64 0] 92)) w.heap.size 0) := rdr_new w a len cap zs hr hz (by omega)
  clear hz hr
  go_enter Tryz.func22, Tryz.ntmps22
  go_wp2
  go_ret
  exact ⟨w.heap.size, rfl, Nat.le_refl _, hH.out, zBa _ _⟩
theorem range_snoc {zs : List Int} {x : Int} (h : ∀ z ∈ zs, 0 ≤ z ∧ z ≤ 255) (hx : 0 ≤ x ∧ x ≤ 255) : ∀ z ∈ zs ++ [x], 0 ≤ z ∧ z ≤ 255 := by
 intro z hz
 rcases List.mem_append.1 hz with h1 | h1
 ·exact h z h1
 ·rw [List.mem_singleton.1 h1]; exact hx
def sliceN : Value → Nat | .slice _ n _ => n | _ => 0
set_option maxHeartbeats 1600000 in
theorem l5Data_any (rb N n : Nat) (w : World) (hR : Rdr w rb N) (hN : N ≤ 900000) (hn : n ≤ 200) :
  Calls Tryz.prog 49 #[.pointer (some ⟨rb, 0, none⟩), .int .i64 n] w fun e w' => ∃ (g c : Nat) (zs : List Int), e = .returned (.slice (some ⟨g, 0, none⟩) n c) ∧ w'.ownsRow w.heap.size 5 1 (.slice (some ⟨g, 0, none⟩) n c) n (zs.map (.int .u8)) ∧ Rdr w' rb (N + 3 * n) ∧ w.grownBy w' (some rb) ∧ ∀ z ∈ zs, 0 ≤ z ∧ z ≤ 255 := by
 have hlt := hR.lt
 obtain ⟨i0, hi, hz0, hz1, hz2⟩ := info_parts Tryz.info5
 go_enter Tryz.func49, Tryz.ntmps49
 go_wp2
 go_loopw [5] (fun v wr => ∃ (k g c : Nat) (zs : List Int), k ≤ n ∧ v = .slice (some ⟨g, 0, none⟩) k c ∧ Hid (wr.ownsRow w.heap.size 5 1 (.slice (some ⟨g, 0, none⟩) k c) k (zs.map (.int .u8))) ∧ Hid (Rdr wr rb (N + 3 * k)) ∧ Hid (w.grownBy wr (some rb)) ∧ Hid (∀ z ∈ zs, 0 ≤ z ∧ z ≤ 255)) (fun v _ => n - sliceN v)
 case atStart => exact ⟨0, w.heap.size, 0, [], Nat.zero_le _, rfl, own_empty _ _ _ rfl (Nat.le_refl _), hR.below (zBa _ _), grown_below (zBa _ _), fun z hz => by cases hz⟩
 case round =>
  obtain ⟨k, g, c, zs, hk, rfl, HO, HR, HG, HZ⟩ := hrel
  by_cases hkn : k < n
  ·go_wp2_with fail
   refine (pick_any rb (N + 3 * k) 3 _ HR.out (by omega) (by omega) (by omega)).mono ?_
   rintro e w1 ⟨x1, rfl, hx10, hx11, -, R1, G1⟩
   go_wp2_with fail
   refine (pick_any rb (N + 3 * k + 1) 2 _ R1 (by omega) (by omega) (by omega)).mono ?_
   rintro e w2 ⟨x2, rfl, hx20, hx21, -, R2, G2⟩
   go_wp2_with fail
   refine (pick_any rb (N + 3 * k + 1 + 1) 200 _ R2 (by omega) (by omega) (by omega)).mono ?_
   rintro e w3 ⟨x3, rfl, hx30, hx31, -, R3, G3⟩
   have G03 : wr.grownBy w3 (some rb) := grown_trans (grown_trans G1 G2) G3
   have O3 := own_grown HO.out G03 hlt
   have s3 : w.heap.size ≤ w3.heap.size := Nat.le_trans HG.out.size G03.size
   have GH : Hid (w.grownBy w3 (some rb)) := grown_trans HG.out G03
   have RH : Hid (Rdr w3 rb (N + 3 * k + 1 + 1 + 1)) := R3
   clear G1 G2 G3 R1 R2 R3 G03 HO HR HG hR
   go_wp2_with (at_builtin; refine wpList_append_own _ rfl _ _ 22 rfl w.heap.size 5 i0 (.int .u8 0) 1 1 Tryz.underlying22 hi hz0 hz1 hz2 rfl (by decide) _ k (zs.map (.int .u8)) rfl (O3.alloc _) ⟨w3.heap.size, 0, none⟩ 1 1 [.int .u8 _] rfl rfl (cell_one_new _ _ _) ?h1 ?h2 ?h3 ?h4 ?_)
   case h1 => intro u hu; simp at hu; subst hu; rfl
   case h2 => unfold maxLen; omega
   case h3 => omega
   case h4 => simp; omega
   intro v1 w4 hown hgrow hnil
   obtain ⟨g', c', rfl⟩ : ∃ g' c', v1 = .slice (some ⟨g', 0, none⟩) (k + 1) c' := by
    rcases Joins.ownsRow_forms hown with h | h
    ·exact absurd h.1 hnil
    ·exact h
   have hgr : ∀ j, (Value.slice (some ⟨g, 0, none⟩) k c).ownBlock = some j → w.heap.size ≤ j := fun j hj => (own_lt O3 j hj).1
   have G4 : Hid (w.grownBy w4 (some rb)) := grown_over (grown_trans GH.out (grown_alloc _ _ _)) hgrow hgr
   have R4 : Hid (Rdr w4 rb (N + 3 * (k + 1))) := (Rdr.keep (RH.out.below (zBa _ _)) hgrow.size (fun j hj => hgrow.block j (by have := RH.out.lt; simp; omega) (fun e => by have := hgr j e.symm; omega))).mono (by omega)
   have HO : Hid (w4.ownsRow w.heap.size 5 1 (.slice (some ⟨g', 0, none⟩) (k + 1) c') (k + 1) ((zs ++ [wrap64 (x1 + wrap64 (x2 * x3)) % 256]).map (.int .u8))) := by
    rw [List.map_append]; exact hown
   clear hown hgrow hnil hgr GH RH O3
   go_wp2
   go_roundw
   case rel => exact ⟨k + 1, g', c', _, by omega, rfl, HO, R4, G4, range_snoc HZ.out (by omega)⟩
   case measure => simp [sliceN]; omega
  ·go_wp2
   go_ret
   have e : k = n := by omega
   subst e
   exact ⟨g, c, zs, rfl, HO.out, HR.out, HG.out, HZ.out⟩
def PktPost (rb M lo : Nat) (Q : Pk → Nat → Prop) (w : World) (e : Ending) (w' : World) : Prop :=
 ∃ (p : Pk) (g c len : Nat) (zs : List Int), e = .returned (p.val (.slice (some ⟨g, 0, none⟩) len c)) ∧ w'.ownsRow lo 5 1 (.slice (some ⟨g, 0, none⟩) len c) len (zs.map (.int .u8)) ∧ zs.length = len ∧ len ≤ 200 ∧ Q p len ∧ Rdr w' rb M ∧ w.grownBy w' (some rb) ∧ ∀ z ∈ zs, 0 ≤ z ∧ z ≤ 255
def WholeOk (p : Pk) (len : Nat) : Prop := okB p len = true ∧ p.whole = false ∧ p.off = 0 ∧ p.more = false
theorem own_len {w : World} {base len c : Nat} {a : Option Addr} {zs : List Int} (h : w.ownsRow base 5 1 (.slice a len c) len (zs.map (.int .u8))) : zs.length = len := by
 have := h.1; simpa using this
theorem lt_of_block {w : World} {b : Nat} {o : Obj} (h : w.heap[b]? = some o) : b < w.heap.size := by
 rcases Nat.lt_or_ge b w.heap.size with h' | h'
 ·exact h'
 ·rw [Array.getElem?_eq_none h'] at h; cases h
theorem tab9 (X : Nat) (h : X < 9) : ∃ m : Nat, m ≤ 128 ∧ (#[Value.int IntKind.i64 0, .int .i64 1, .int .i64 4, .int .i64 5, .int .i64 12, .int .i64 31, .int .i64 64, .int .i64 127, .int .i64 128] : Array Value)[X]? = some (.int .i64 m) := by
 match X, h with
 | 0, _ => exact ⟨0, by omega, rfl⟩
 | 1, _ => exact ⟨1, by omega, rfl⟩
 | 2, _ => exact ⟨4, by omega, rfl⟩
 | 3, _ => exact ⟨5, by omega, rfl⟩
 | 4, _ => exact ⟨12, by omega, rfl⟩
 | 5, _ => exact ⟨31, by omega, rfl⟩
 | 6, _ => exact ⟨64, by omega, rfl⟩
 | 7, _ => exact ⟨127, by omega, rfl⟩
 | 8, _ => exact ⟨128, by omega, rfl⟩
theorem mul_in {a b : Int} (a0 : 0 ≤ a) (a1 : a < 5) (b0 : 0 ≤ b) (b1 : b < 16) : 0 ≤ a * b ∧ a * b ≤ 60 := by
 rcases (show a = 0 ∨ a = 1 ∨ a = 2 ∨ a = 3 ∨ a = 4 from by omega) with rfl | rfl | rfl | rfl | rfl <;> omega
theorem grown_b {a b c : World} {rb B : Nat} (h : a.grownBy b (some rb)) (hb : Below B b c) (hB : a.heap.size ≤ B) : a.grownBy c (some rb) :=
 ⟨hb.os.trans h.os, hb.tape.trans h.tape, hb.output.trans h.output, Nat.le_trans h.size hb.size, fun i hi hne => (hb.block i (by omega)).trans (h.block i hi hne)⟩
theorem Rdr.upto {w w' : World} {rb N B : Nat} (h : Rdr w rb N) (hb : Below B w w') (hB : rb < B) : Rdr w' rb N := h.keep hb.size fun j hj => hb.block j (by omega)
theorem wholeOk {s d k i x : Int} {len : Nat} (s0 : 0 ≤ s) (s2 : s < 3) (d0 : 0 ≤ d) (d2 : d < 2) (k0 : 0 ≤ k) (k2 : k < 2) (i0 : 0 ≤ i) (i2 : i < 2) (hx : 0 ≤ x ∧ x ≤ 60) (hl : len ≤ 128) :
  WholeOk ⟨s, 256 * d, 1 + k, i, 1 + x, false, 0, false⟩ len := by
 refine ⟨?_, rfl, rfl, rfl⟩
 simp [okB, headB, offB, moreB, wholeB, inB]
 omega
set_option maxHeartbeats 3200000 in
theorem l5Whole_any (rb N : Nat) (w : World) (hR : Rdr w rb N) (hN : N ≤ 890000) :
  Calls Tryz.prog 48 #[.pointer (some ⟨rb, 0, none⟩)] w (PktPost rb (N + 700) w.heap.size WholeOk w) := by
 have hlt := hR.lt
 have hne : some w.heap.size ≠ some rb := fun e => by have := Option.some.inj e; omega
 go_enter Tryz.func48, Tryz.ntmps48
 go_wp2_with fail
 refine (pick_any rb N 9 _ (hR.below (Joins.below_alloc2 _ _ _)) (by omega) (by omega) (by omega)).mono ?_
 rintro e w1 ⟨x, rfl, hx0, hx1, -, R1, G⟩
 obtain ⟨X, rfl⟩ := Int.eq_ofNat_of_zero_le hx0
 have hX : X < 9 := by have := hx1 (by omega); omega
 obtain ⟨m, hm, htab⟩ := tab9 X hX
 have Z1 : w1.heap[w.heap.size]? = some (.cells (pcells zeroPk (.slice none 0 0)) 29 (0, 0)) := (G.block _ (by simp; omega) hne).trans (by rw [zHa (by simp)]; exact heap_new _ _ _ rfl)
 have hcX : w1.cell? ⟨w.heap.size + 1, X, none⟩ = some (.int .i64 m) := by
  rw [Joins.cell_of_block ((G.block _ (by simp) (fun e => by have := Option.some.inj e; omega)).trans (heap_new _ _ _ (by simp))) X]
  exact htab
 have G1 : w.grownBy w1 (some rb) := grown_trans (grown_below (Joins.below_alloc2 _ _ _)) G
 have hXi : (X : Int) < 9 := by omega
 clear G htab hR
 go_wp2_with fail
 refine (pick_any rb (N + 1) 2 _ R1 (by omega) (by omega) (by omega)).mono ?_
 rintro e w2 ⟨y, rfl, hy0, hy1, -, R2, G⟩
 have Z2 := (G.block _ (lt_of_block Z1) hne).trans Z1
 have G2 := grown_trans G1 G
 clear R1 Z1 G1 G hcX
 by_cases hy : y = 0
 ·subst hy
  go_wp2_with fail
  refine (pick_any rb (N + 1 + 1) 40 _ R2 (by omega) (by omega) (by omega)).mono ?_
  rintro e w3 ⟨z, rfl, hz0, hz1, -, R3, G⟩
  have Z3 := (G.block _ (lt_of_block Z2) hne).trans Z2
  have G3 := grown_trans G2 G
  clear R2 Z2 G2 G
  obtain ⟨m', rfl⟩ := Int.eq_ofNat_of_zero_le hz0
  have hm' : m' < 40 := by have := hz1 (by omega); omega
  go_wp2_with fail
  refine (pick_any rb (N + 1 + 1 + 1) 3 _ R3 (by omega) (by omega) (by omega)).mono ?_
  rintro e w4 ⟨s, rfl, s0, s1, -, R4, G⟩
  have Z4 := (G.block _ (lt_of_block Z3) hne).trans Z3
  have G4 := grown_trans G3 G
  have s2 := s1 (by omega)
  clear R3 Z3 G3 G s1
  go_wp2_with fail
  refine (pick_any rb (N + 1 + 1 + 1 + 1) 2 _ R4 (by omega) (by omega) (by omega)).mono ?_
  rintro e w5 ⟨d, rfl, d0, d1, -, R5, G⟩
  have Z5 := (G.block _ (lt_of_block Z4) hne).trans Z4
  have G5 := grown_trans G4 G
  have d2 := d1 (by omega)
  clear R4 Z4 G4 G d1
  go_wp2_with fail
  refine (pick_any rb (N + 1 + 1 + 1 + 1 + 1) 2 _ R5 (by omega) (by omega) (by omega)).mono ?_
  rintro e w6 ⟨k, rfl, k0, k1, -, R6, G⟩
  have Z6 := (G.block _ (lt_of_block Z5) hne).trans Z5
  have G6 := grown_trans G5 G
  have k2 := k1 (by omega)
  clear R5 Z5 G5 G k1
  go_wp2_with fail
  refine (pick_any rb (N + 1 + 1 + 1 + 1 + 1 + 1) 2 _ R6 (by omega) (by omega) (by omega)).mono ?_
  rintro e w7 ⟨i, rfl, i0, i1, -, R7, G⟩
  have Z7 := (G.block _ (lt_of_block Z6) hne).trans Z6
  have G7 := grown_trans G6 G
  have i2 := i1 (by omega)
  clear R6 Z6 G6 G i1
  go_wp2_with fail
  refine (pick_any rb (N + 1 + 1 + 1 + 1 + 1 + 1 + 1) 5 _ R7 (by omega) (by omega) (by omega)).mono ?_
  rintro e w8 ⟨ha, rfl, ha0, ha1, -, R8, G⟩
  have Z8 := (G.block _ (lt_of_block Z7) hne).trans Z7
  have G8 := grown_trans G7 G
  have ha2 := ha1 (by omega)
  clear R7 Z7 G7 G ha1
  go_wp2_with fail
  refine (pick_any rb (N + 1 + 1 + 1 + 1 + 1 + 1 + 1 + 1) 16 _ R8 (by omega) (by omega) (by omega)).mono ?_
  rintro e w9 ⟨hb, rfl, hb0, hb1, -, R9, G⟩
  have Z9 := (G.block _ (lt_of_block Z8) hne).trans Z8
  have G9 := grown_trans G8 G
  have hb2 := hb1 (by omega)
  clear R8 Z8 G8 G hb1
  have hmul := mul_in ha0 ha2 hb0 hb2
  have hw1 : wrap64 (ha * hb) = ha * hb := wrap_small hmul.1 (by omega)
  go_wp2_with fail
  refine (l5Data_any rb (N + 1 + 1 + 1 + 1 + 1 + 1 + 1 + 1 + 1) m' _ R9 (by omega) (by omega)).mono ?_
  rintro e w10 ⟨g, c, zs, rfl, O, R10, G, hby⟩
  have Z10 := (G.block _ (lt_of_block Z9) hne).trans Z9
  have G10 := grown_trans G9 G
  have hs10 := G9.size
  have OW : Hid (w10.ownsRow (w.heap.size + 1) 5 1 (.slice (some ⟨g, 0, none⟩) m' c) m' (zs.map (.int .u8))) := Joins.ownsRow_le O (by have := lt_of_block Z9; omega)
  have hzl := own_len O
  have HBY : Hid (∀ z ∈ zs, 0 ≤ z ∧ z ≤ 255) := hby
  clear hby
  have GH : Hid (w.grownBy w10 (some rb)) := G10
  have RH : Hid (Rdr w10 rb (N + 700)) := R10.mono (by omega)
  have fz : ∀ o, w10.frozen? ⟨w.heap.size, o, none⟩ = false := fun o => zUf Z10 o
  obtain ⟨zlt, z0, z1, z2, z3, z4, z5, z6, z7, z8⟩ := Boxed.of_block Z10
  clear O R9 R10 Z9 G9 G G10 Z10
  go_wp2
  refine bodyPost_ret (v := Pk.val ⟨s, 256 * d, 1 + k, i, 1 + ha * hb, false, 0, false⟩ (.slice (some ⟨g, 0, none⟩) m' c)) (by simp [results, Tryz.results48, go_sem, z0, z1, z2, z3, z4, z5, z6, z7, z8, Pk.val]) rfl ?_
  have hb9 := below9 (B := w.heap.size) (Below.refl _ w10) (Nat.le_refl _) (.int .i64 s) (.int .i64 (256 * d)) (.int .i64 (1 + k)) (.int .i64 i) (.int .i64 (1 + ha * hb)) (.bool false) (.int .i64 0) (.bool false) (.slice (some ⟨g, 0, none⟩) m' c)
  exact ⟨_, g, c, m', zs, rfl, Joins.ownsRow_le (own9 OW.out (by omega) _ _ _ _ _ _ _ _ _) (by omega), hzl, by omega, wholeOk s0 s2 d0 d2 k0 k2 i0 i2 hmul (by omega), RH.out.upto hb9 hlt, grown_b GH.out hb9 (Nat.le_refl _), HBY.out⟩
 ·have hyb : (y == 0) = false := by simp [hy]
  go_wp2_with fail
  refine (pick_any rb (N + 1 + 1) 3 _ R2 (by omega) (by omega) (by omega)).mono ?_
  rintro e w3 ⟨s, rfl, s0, s1, -, R3, G⟩
  have Z3 := (G.block _ (lt_of_block Z2) hne).trans Z2
  have G3 := grown_trans G2 G
  have s2 := s1 (by omega)
  clear R2 Z2 G2 G s1
  go_wp2_with fail
  refine (pick_any rb (N + 1 + 1 + 1) 2 _ R3 (by omega) (by omega) (by omega)).mono ?_
  rintro e w4 ⟨d, rfl, d0, d1, -, R4, G⟩
  have Z4 := (G.block _ (lt_of_block Z3) hne).trans Z3
  have G4 := grown_trans G3 G
  have d2 := d1 (by omega)
  clear R3 Z3 G3 G d1
  go_wp2_with fail
  refine (pick_any rb (N + 1 + 1 + 1 + 1) 2 _ R4 (by omega) (by omega) (by omega)).mono ?_
  rintro e w5 ⟨k, rfl, k0, k1, -, R5, G⟩
  have Z5 := (G.block _ (lt_of_block Z4) hne).trans Z4
  have G5 := grown_trans G4 G
  have k2 := k1 (by omega)
  clear R4 Z4 G4 G k1
  go_wp2_with fail
  refine (pick_any rb (N + 1 + 1 + 1 + 1 + 1) 2 _ R5 (by omega) (by omega) (by omega)).mono ?_
  rintro e w6 ⟨i, rfl, i0, i1, -, R6, G⟩
  have Z6 := (G.block _ (lt_of_block Z5) hne).trans Z5
  have G6 := grown_trans G5 G
  have i2 := i1 (by omega)
  clear R5 Z5 G5 G i1
  go_wp2_with fail
  refine (pick_any rb (N + 1 + 1 + 1 + 1 + 1 + 1) 5 _ R6 (by omega) (by omega) (by omega)).mono ?_
  rintro e w7 ⟨ha, rfl, ha0, ha1, -, R7, G⟩
  have Z7 := (G.block _ (lt_of_block Z6) hne).trans Z6
  have G7 := grown_trans G6 G
  have ha2 := ha1 (by omega)
  clear R6 Z6 G6 G ha1
  go_wp2_with fail
  refine (pick_any rb (N + 1 + 1 + 1 + 1 + 1 + 1 + 1) 16 _ R7 (by omega) (by omega) (by omega)).mono ?_
  rintro e w8 ⟨hb, rfl, hb0, hb1, -, R8, G⟩
  have Z8 := (G.block _ (lt_of_block Z7) hne).trans Z7
  have G8 := grown_trans G7 G
  have hb2 := hb1 (by omega)
  clear R7 Z7 G7 G hb1
  have hmul := mul_in ha0 ha2 hb0 hb2
  have hw1 : wrap64 (ha * hb) = ha * hb := wrap_small hmul.1 (by omega)
  go_wp2_with fail
  refine (l5Data_any rb (N + 1 + 1 + 1 + 1 + 1 + 1 + 1 + 1) m _ R8 (by omega) (by omega)).mono ?_
  rintro e w9 ⟨g, c, zs, rfl, O, R9, G, hby⟩
  have Z9 := (G.block _ (lt_of_block Z8) hne).trans Z8
  have G9 := grown_trans G8 G
  have hs9 := G8.size
  have OW : Hid (w9.ownsRow (w.heap.size + 1) 5 1 (.slice (some ⟨g, 0, none⟩) m c) m (zs.map (.int .u8))) := Joins.ownsRow_le O (by have := lt_of_block Z8; omega)
  have hzl := own_len O
  have HBY : Hid (∀ z ∈ zs, 0 ≤ z ∧ z ≤ 255) := hby
  clear hby
  have GH : Hid (w.grownBy w9 (some rb)) := G9
  have RH : Hid (Rdr w9 rb (N + 700)) := R9.mono (by omega)
  have fz : ∀ o, w9.frozen? ⟨w.heap.size, o, none⟩ = false := fun o => zUf Z9 o
  obtain ⟨zlt, z0, z1, z2, z3, z4, z5, z6, z7, z8⟩ := Boxed.of_block Z9
  clear O R8 R9 Z8 G8 G G9 Z9
  go_wp2
  refine bodyPost_ret (v := Pk.val ⟨s, 256 * d, 1 + k, i, 1 + ha * hb, false, 0, false⟩ (.slice (some ⟨g, 0, none⟩) m c)) (by simp [results, Tryz.results48, go_sem, z0, z1, z2, z3, z4, z5, z6, z7, z8, Pk.val]) rfl ?_
  have hb9 := below9 (B := w.heap.size) (Below.refl _ w9) (Nat.le_refl _) (.int .i64 s) (.int .i64 (256 * d)) (.int .i64 (1 + k)) (.int .i64 i) (.int .i64 (1 + ha * hb)) (.bool false) (.int .i64 0) (.bool false) (.slice (some ⟨g, 0, none⟩) m c)
  exact ⟨_, g, c, m, zs, rfl, Joins.ownsRow_le (own9 OW.out (by omega) _ _ _ _ _ _ _ _ _) (by omega), hzl, by omega, wholeOk s0 s2 d0 d2 k0 k2 i0 i2 hmul (by omega), RH.out.upto hb9 hlt, grown_b GH.out hb9 (Nat.le_refl _), HBY.out⟩
end Go.Proofs.YtjbkgmbakjnlhaaGreatDoor
