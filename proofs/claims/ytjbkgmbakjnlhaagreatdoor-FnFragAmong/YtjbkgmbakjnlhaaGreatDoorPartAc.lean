import Derived.Test.YtjbkgmbakjnlhaaGreatDoorPartAb
import Derived.Laws.EntriesVeiled
import Derived.Test.YtjbkgmbakjnlhaaGreatDoorPartAa
namespace Go.Proofs.YtjbkgmbakjnlhaaGreatDoor
set_option maxRecDepth 100000
open Go.RowKit
def chk (p : Pk) (len : Nat) : Nat → Bool
 | 0 => inB p.src 0 65535 && inB p.dst 0 65535 && inB p.kind 1 7 && inB p.id 0 255
 | 1 => inB p.hops 1 64
 | 2 => inB p.off 0 128 && (p.off.tmod 4 == 0)
 | 3 => decide ((len : Int) ≤ 128) && decide (p.off ≤ 128 - (len : Int))
 | 4 => !p.more || (decide ((0 : Int) < len) && ((len : Int) % 4 == 0))
 | _ => !p.whole || ((p.off == 0) && !p.more)
theorem ok_of_all (p : Pk) (len : Nat) (h : ∀ j, j < 6 → chk p len j = true) : okB p len = true := by
 rw [← okS_eq]
 have h0 := h 0 (by omega)
 have h1 := h 1 (by omega)
 have h2 := h 2 (by omega)
 have h3 := h 3 (by omega)
 have h4 := h 4 (by omega)
 have h5 := h 5 (by omega)
 rw [okS_eq]
 simp only [chk, inB, Bool.and_eq_true, Bool.or_eq_true, decide_eq_true_eq, beq_iff_eq, Bool.not_eq_true'] at h0 h1 h2 h3 h4 h5
 have e := Int.tmod_eq_emod_of_nonneg (b := 4) h2.1.1
 simp only [okB, headB, offB, moreB, wholeB, inB, Bool.and_eq_true, Bool.or_eq_true, decide_eq_true_eq, beq_iff_eq, Bool.not_eq_true', beq_eq_false_iff_ne]
 rw [e] at h2
 refine ⟨⟨⟨⟨⟨⟨⟨?_, ?_⟩, ?_⟩, ?_⟩, ?_⟩, ⟨⟨?_, ?_⟩, ?_⟩⟩, ?_⟩, ?_⟩
 all_goals first | omega | exact h5 | skip
 rcases h4 with h4 | h4
 ·exact Or.inl h4
 ·exact Or.inr ⟨by omega, h4.2⟩
theorem not_of_one (p : Pk) (len j : Nat) (hj : j < 6) (h : chk p len j = false) : okB p len = false := by
 cases hk : okB p len with
 | false => rfl
 | true =>
  exfalso
  simp only [okB, headB, offB, moreB, wholeB, inB, Bool.and_eq_true, Bool.or_eq_true, decide_eq_true_eq, beq_iff_eq, Bool.not_eq_true', beq_eq_false_iff_ne] at hk
  obtain ⟨⟨⟨⟨⟨⟨⟨a1, a2⟩, a3⟩, a4⟩, a5⟩, ⟨⟨a6, a7⟩, a8⟩⟩, a9⟩, a10⟩ := hk
  have e := Int.tmod_eq_emod_of_nonneg (b := 4) a6.1
  have ht : chk p len j = true := by
   match j, hj with
   | 0, _ => simp [chk, inB, a1, a2, a3, a4]
   | 1, _ => simp [chk, inB, a5]
   | 2, _ => simp [chk, inB, a6, e, a7]
   | 3, _ => simp [chk]; omega
   | 4, _ =>
    simp only [chk, Bool.or_eq_true, Bool.not_eq_true', Bool.and_eq_true, decide_eq_true_eq, beq_iff_eq]
    rcases a9 with a9 | a9
    ·exact Or.inl a9
    ·exact Or.inr ⟨by omega, a9.2⟩
   | 5, _ => simpa [chk] using a10
  rw [ht] at h
  cases h
theorem chk0 (p : Pk) (len : Nat) (w : World) : Calls Tryz.prog 108 #[p.kval len] w fun e w' => e = .returned (.bool (chk p len 0)) ∧ Below w.heap.size w w' := key_any p len w
theorem chk1 (p : Pk) (len : Nat) (w : World) : Calls Tryz.prog 109 #[p.kval len] w fun e w' => e = .returned (.bool (chk p len 1)) ∧ Below w.heap.size w w' := hops_any p len w
theorem chk2 (p : Pk) (len : Nat) (w : World) : Calls Tryz.prog 110 #[p.kval len] w fun e w' => e = .returned (.bool (chk p len 2)) ∧ Below w.heap.size w w' := begins_any p len w
theorem chk3 (p : Pk) (len : Nat) (w : World) (hl : len ≤ 1048576) : Calls Tryz.prog 111 #[p.kval len] w fun e w' => e = .returned (.bool (chk p len 3)) ∧ Below w.heap.size w w' := ends_any p len w (by omega) (by omega)
theorem chk4 (p : Pk) (len : Nat) (w : World) (hl : len ≤ 1048576) : Calls Tryz.prog 112 #[p.kval len] w fun e w' => e = .returned (.bool (chk p len 4)) ∧ Below w.heap.size w w' := leaves_any p len w hl
theorem chk5 (p : Pk) (len : Nat) (w : World) : Calls Tryz.prog 113 #[p.kval len] w fun e w' => e = .returned (.bool (chk p len 5)) ∧ Below w.heap.size w w' := whole_any p len w
def kcells (p : Pk) (len : Nat) : Array Value := #[.int .i64 p.src, .int .i64 p.dst, .int .i64 p.kind, .int .i64 p.id, .int .i64 p.hops, .bool p.whole, .int .i64 p.off, .bool p.more, .int .i64 len]
def sixF : Array Value := #[.func (.func 108) #[] #[], .func (.func 109) #[] #[], .func (.func 110) #[] #[], .func (.func 111) #[] #[], .func (.func 112) #[] #[], .func (.func 113) #[] #[]]
def headW (w1 : World) (p : Pk) (len : Nat) : World := (w1.alloc (.cells (kcells p len) 105)).alloc (.cells sixF 148)
theorem headW_size (w1 : World) (p : Pk) (len : Nat) : (headW w1 p len).heap.size = w1.heap.size + 2 := by simp [headW]
theorem headW_k {w1 wr : World} {p : Pk} {len j : Nat} {v : Value} (hb : Below (w1.heap.size + 2) (headW w1 p len) wr) (h : (kcells p len)[j]? = some v) : wr.cell? ⟨w1.heap.size, j, none⟩ = some v := by
 rw [hb.cell (p := ⟨w1.heap.size, j, none⟩) (by simp), headW, World.cell?_alloc_past _ _ _ (by simp), World.cell?_alloc_at _ _ _ _ rfl, h]
theorem headW_f {w1 wr : World} {p : Pk} {len j : Nat} {v : Value} (hb : Below (w1.heap.size + 2) (headW w1 p len) wr) (h : sixF[j]? = some v) : wr.cell? ⟨w1.heap.size + 1, j, none⟩ = some v := by
 rw [hb.cell (p := ⟨w1.heap.size + 1, j, none⟩) (by simp), headW, World.cell?_alloc_at _ _ _ _ (by simp), h]
theorem upto_succ {p : Pk} {len k : Nat} (h : ∀ j, j < k → chk p len j = true) (hk : chk p len k = true) : ∀ j, j < k + 1 → chk p len j = true := fun j hj => by
 rcases Nat.lt_or_ge j k with h' | h'
 ·exact h j h'
 ·obtain rfl : j = k := by omega
  exact hk
set_option maxHeartbeats 3200000 in
theorem implOk_any (p : Pk) (a : Option Addr) (len cap : Nat) (w : World) (hl : len ≤ 1048576) :
  Calls Tryz.prog 67 #[p.val (.slice a len cap)] w fun e w' => e = .returned (.bool (okB p len)) ∧ Below w.heap.size w w' := by
 unfold Pk.val
 go_enter Tryz.func67, Tryz.ntmps67
 go_wp2_with fail
 refine (keyed_any p a len cap _).mono ?_
 rintro e w1 ⟨rfl, hb1⟩
 have HB : Hid (Below w.heap.size w w1) := (zBa _ _).trans (hb1.mono (by simp))
 have hs1 : w.heap.size < w1.heap.size := Nat.lt_of_lt_of_le (by simp) hb1.size
 clear hb1
 unfold Pk.kval
 go_wp2_with fail
 refine (packetChecks_any _).mono ?_
 rintro e w2 ⟨rfl, rfl⟩
 go_wp2
 go_loopw [10] (fun i wr => ∃ k : Nat, k ≤ 6 ∧ i = .int .i64 k ∧ Hid (∀ j, j < k → chk p len j = true) ∧ Hid (Below (w1.heap.size + 2) (headW w1 p len) wr)) (fun i _ => 6 - (intOf i).toNat)
 case atStart => exact ⟨0, by omega, rfl, fun j hj => by omega, Below.refl _ _⟩
 case round =>
  obtain ⟨k, hk, rfl, HC, HW⟩ := hrel
  have c0 := headW_k HW.out (j := 0) (v := .int .i64 p.src) rfl
  have c1 := headW_k HW.out (j := 1) (v := .int .i64 p.dst) rfl
  have c2 := headW_k HW.out (j := 2) (v := .int .i64 p.kind) rfl
  have c3 := headW_k HW.out (j := 3) (v := .int .i64 p.id) rfl
  have c4 := headW_k HW.out (j := 4) (v := .int .i64 p.hops) rfl
  have c5 := headW_k HW.out (j := 5) (v := .bool p.whole) rfl
  have c6 := headW_k HW.out (j := 6) (v := .int .i64 p.off) rfl
  have c7 := headW_k HW.out (j := 7) (v := .bool p.more) rfl
  have c8 := headW_k HW.out (j := 8) (v := .int .i64 len) rfl
  have hsr : w1.heap.size + 2 ≤ wr.heap.size := by have := HW.out.size; rw [headW_size] at this; exact this
  have hlt1 : w1.heap.size < wr.heap.size := by omega
  have hlt2 : w1.heap.size + 1 < wr.heap.size := by omega
  have fin : ∀ wx : World, Below (w1.heap.size + 2) (headW w1 p len) wx → Below w.heap.size w wx := fun wx h =>
   ((HB.out.alloc (by omega) _).alloc (by simp; omega) _).trans (h.mono (by omega))
  have FIN := (show Hid (∀ wx : World, Below (w1.heap.size + 2) (headW w1 p len) wx → Below w.heap.size w wx) from fin)
  clear fin
  rcases (show k = 0 ∨ k = 1 ∨ k = 2 ∨ k = 3 ∨ k = 4 ∨ k = 5 ∨ k = 6 from by omega) with rfl | rfl | rfl | rfl | rfl | rfl | rfl
  ·have f := headW_f HW.out (j := 0) (v := .func (.func 108) #[] #[]) rfl
   cases hv : chk p len 0
   ·have HN : Hid (okB p len = false) := not_of_one p len 0 (by omega) hv
    go_wp2_with (go_at_call 108; refine (chk0 p len _).mono ?_; rintro e w' ⟨rfl, hb⟩)
    go_ret
    exact ⟨ret_bool HN.out.symm, FIN.out _ ((HW.out.alloc hsr _).trans (hb.mono (by simp; omega)))⟩
   ·go_wp2_with (go_at_call 108; refine (chk0 p len _).mono ?_; rintro e w' ⟨rfl, hb⟩)
    go_roundw
    case rel => exact ⟨1, by omega, rfl, upto_succ HC.out hv, (HW.out.alloc hsr _).trans (hb.mono (by simp; omega))⟩
    case measure => simp [intOf]
  ·have f := headW_f HW.out (j := 1) (v := .func (.func 109) #[] #[]) rfl
   cases hv : chk p len 1
   ·have HN : Hid (okB p len = false) := not_of_one p len 1 (by omega) hv
    go_wp2_with (go_at_call 109; refine (chk1 p len _).mono ?_; rintro e w' ⟨rfl, hb⟩)
    go_ret
    exact ⟨ret_bool HN.out.symm, FIN.out _ ((HW.out.alloc hsr _).trans (hb.mono (by simp; omega)))⟩
   ·go_wp2_with (go_at_call 109; refine (chk1 p len _).mono ?_; rintro e w' ⟨rfl, hb⟩)
    go_roundw
    case rel => exact ⟨2, by omega, rfl, upto_succ HC.out hv, (HW.out.alloc hsr _).trans (hb.mono (by simp; omega))⟩
    case measure => simp [intOf]
  ·have f := headW_f HW.out (j := 2) (v := .func (.func 110) #[] #[]) rfl
   cases hv : chk p len 2
   ·have HN : Hid (okB p len = false) := not_of_one p len 2 (by omega) hv
    go_wp2_with (go_at_call 110; refine (chk2 p len _).mono ?_; rintro e w' ⟨rfl, hb⟩)
    go_ret
    exact ⟨ret_bool HN.out.symm, FIN.out _ ((HW.out.alloc hsr _).trans (hb.mono (by simp; omega)))⟩
   ·go_wp2_with (go_at_call 110; refine (chk2 p len _).mono ?_; rintro e w' ⟨rfl, hb⟩)
    go_roundw
    case rel => exact ⟨3, by omega, rfl, upto_succ HC.out hv, (HW.out.alloc hsr _).trans (hb.mono (by simp; omega))⟩
    case measure => simp [intOf]
  ·have f := headW_f HW.out (j := 3) (v := .func (.func 111) #[] #[]) rfl
   cases hv : chk p len 3
   ·have HN : Hid (okB p len = false) := not_of_one p len 3 (by omega) hv
    go_wp2_with (go_at_call 111; refine (chk3 p len _ hl).mono ?_; rintro e w' ⟨rfl, hb⟩)
    go_ret
    exact ⟨ret_bool HN.out.symm, FIN.out _ ((HW.out.alloc hsr _).trans (hb.mono (by simp; omega)))⟩
   ·go_wp2_with (go_at_call 111; refine (chk3 p len _ hl).mono ?_; rintro e w' ⟨rfl, hb⟩)
    go_roundw
    case rel => exact ⟨4, by omega, rfl, upto_succ HC.out hv, (HW.out.alloc hsr _).trans (hb.mono (by simp; omega))⟩
    case measure => simp [intOf]
  ·have f := headW_f HW.out (j := 4) (v := .func (.func 112) #[] #[]) rfl
   cases hv : chk p len 4
   ·have HN : Hid (okB p len = false) := not_of_one p len 4 (by omega) hv
    go_wp2_with (go_at_call 112; refine (chk4 p len _ hl).mono ?_; rintro e w' ⟨rfl, hb⟩)
    go_ret
    exact ⟨ret_bool HN.out.symm, FIN.out _ ((HW.out.alloc hsr _).trans (hb.mono (by simp; omega)))⟩
   ·go_wp2_with (go_at_call 112; refine (chk4 p len _ hl).mono ?_; rintro e w' ⟨rfl, hb⟩)
    go_roundw
    case rel => exact ⟨5, by omega, rfl, upto_succ HC.out hv, (HW.out.alloc hsr _).trans (hb.mono (by simp; omega))⟩
    case measure => simp [intOf]
  ·have f := headW_f HW.out (j := 5) (v := .func (.func 113) #[] #[]) rfl
   cases hv : chk p len 5
   ·have HN : Hid (okB p len = false) := not_of_one p len 5 (by omega) hv
    go_wp2_with (go_at_call 113; refine (chk5 p len _).mono ?_; rintro e w' ⟨rfl, hb⟩)
    go_ret
    exact ⟨ret_bool HN.out.symm, FIN.out _ ((HW.out.alloc hsr _).trans (hb.mono (by simp; omega)))⟩
   ·go_wp2_with (go_at_call 113; refine (chk5 p len _).mono ?_; rintro e w' ⟨rfl, hb⟩)
    go_roundw
    case rel => exact ⟨6, by omega, rfl, upto_succ HC.out hv, (HW.out.alloc hsr _).trans (hb.mono (by simp; omega))⟩
    case measure => simp [intOf]
  ·go_wp2
   go_ret
   exact ⟨ret_bool (ok_of_all p len HC.out).symm, FIN.out _ HW.out⟩
set_option maxHeartbeats 800000 in
theorem copyPacket_any (p : Pk) (ad : Addr) (len cap : Nat) (zs : List Int) (w : World) (hr : RdB w (some ad) len zs) (hl : len ≤ 1048576) :
  Calls Tryz.prog 68 #[p.val (.slice (some ad) len cap)] w fun e w' => ∃ g c, e = .returned (p.val (.slice (some ⟨g, 0, none⟩) len c)) ∧ w'.ownsRow w.heap.size 5 1 (.slice (some ⟨g, 0, none⟩) len c) len (zs.map (.int .u8)) ∧ Below w.heap.size w w' := by
 unfold Pk.val
 go_enter Tryz.func68, Tryz.ntmps68
 go_wp2_with fail
 refine (clone_any ad len cap zs _ (hr.below (Joins.below_alloc2 _ _ _)) hl).mono ?_
 rintro e w1 ⟨g, c, rfl, hown, hb⟩
 have hf := (bcell hb).2
 have X : Boxed w1 w.heap.size p (.slice (some ad) len cap) := ((Boxed.new w p (.slice (some ad) len cap) 29).below (zBa _ _)).below hb
 have Z : Boxed w1 (w.heap.size + 1) zeroPk (.slice none 0 0) := (Boxed.newAt (w.alloc _) (w.heap.size + 1) zeroPk (.slice none 0 0) 29 (by simp)).below hb
 have HB : Hid (Below w.heap.size w w1) := (Joins.below_alloc2 _ _ _).trans (hb.mono (by simp; omega))
 have HO : Hid (w1.ownsRow (w.heap.size + 2) 5 1 (.slice (some ⟨g, 0, none⟩) len c) len (zs.map (.int .u8))) := Joins.ownsRow_le hown (by simp)
 obtain ⟨hlt0, c0, c1, c2, c3, c4, c5, c6, c7, c8⟩ := X
 obtain ⟨hlt1, z0, z1, z2, z3, z4, z5, z6, z7, z8⟩ := Z
 have hf0 : ∀ o, w1.frozen? ⟨w.heap.size, o, none⟩ = false := fun o => by rw [hf _ _ (by simp; omega)]; go_simp
 have hf1 : ∀ o, w1.frozen? ⟨w.heap.size + 1, o, none⟩ = false := fun o => by rw [hf _ _ (by simp)]; go_simp
 clear hown hb hf
 go_wp2
 refine bodyPost_ret (v := .agg #[.int .i64 p.src, .int .i64 p.dst, .int .i64 p.kind, .int .i64 p.id, .int .i64 p.hops, .bool p.whole, .int .i64 p.off, .bool p.more, .slice (some ⟨g, 0, none⟩) len c]) (by simp [results, Tryz.results68, go_sem, z0, z1, z2, z3, z4, z5, z6, z7, z8]) rfl ⟨g, c, rfl, ?_, ?_⟩
 ·exact Joins.ownsRow_le (own9 (ownsRow_setCell_below HO.out (by simp) _) (by omega) _ _ _ _ _ _ _ _ _) (by omega)
 ·exact below9 (Below.setCell HB.out (by simp) _) (by omega) _ _ _ _ _ _ _ _ _
def RowB (w : World) (T : TypeId) (g : Nat) (cs : List Value) : Prop := ∃ cur : Array Value, w.heap[g]? = some (.cells cur T (0, 0)) ∧ cur.toList.take cs.length = cs
theorem RowB.kept {w w' : World} {T : TypeId} {g : Nat} {cs : List Value} (h : RowB w T g cs) (hk : w'.heap[g]? = w.heap[g]?) : RowB w' T g cs := by
 obtain ⟨cur, h1, h2⟩ := h
 exact ⟨cur, hk.trans h1, h2⟩
theorem RowB.lt {w : World} {T : TypeId} {g : Nat} {cs : List Value} (h : RowB w T g cs) : g < w.heap.size := by
 obtain ⟨cur, h1, _⟩ := h
 exact lt_of_block h1
theorem RowB.cell {w : World} {T : TypeId} {g : Nat} {cs : List Value} (h : RowB w T g cs) {k : Nat} {v : Value} (hk : cs[k]? = some v) : w.cell? ⟨g, k, none⟩ = some v := by
 obtain ⟨cur, h1, h2⟩ := h
 rw [zCr h1]
 have hl := (List.getElem?_eq_some_iff.1 hk).1
 rw [← h2, List.getElem?_take_of_lt hl, Array.getElem?_toList] at hk
 exact hk
theorem RowB.unfrozen {w : World} {T : TypeId} {g : Nat} {cs : List Value} (h : RowB w T g cs) (o : Nat) : w.frozen? ⟨g, o, none⟩ = false := by
 obtain ⟨cur, h1, _⟩ := h
 exact zUf h1 o
theorem RowB.less {w : World} {T : TypeId} {g : Nat} {cs : List Value} (h : RowB w T g cs) (n : Nat) : RowB w T g (cs.take n) := by
 obtain ⟨cur, h1, h2⟩ := h
 refine ⟨cur, h1, ?_⟩
 have e : cs.take n = cur.toList.take (min n cs.length) := by
  rw [← List.take_take, h2]
 rw [List.length_take, ← e]
theorem RowB.of_own {w : World} {lo size n : Nat} {T : TypeId} {g c : Nat} {xs : List Value} (h : w.ownsRow lo T size (.slice (some ⟨g, 0, none⟩) n c) n xs) : RowB w T g xs := by
 rcases h.2 with ⟨hv, _⟩ | ⟨g', cap, cur, hv, _, hh, _, _, _, ht⟩
 ·cases hv
 ·cases hv
  exact ⟨cur, hh, by rw [h.1]; exact ht⟩
def RV.cells (y : RV) : List Value := (pcells y.p (.slice y.a y.zs.length y.c)).toList
theorem RV.cells_len (y : RV) : y.cells.length = 9 := rfl
def RV.blk (y : RV) : List Nat := (y.a.map (·.block)).toList
structure DataB (w : World) (lo : Nat) (y : RV) : Prop where
 at_ : (y.a = none ∧ y.zs = [] ∧ y.c = 0) ∨ ∃ g, y.a = some ⟨g, 0, none⟩ ∧ lo ≤ g ∧ RowB w 5 g (y.zs.map (.int .u8)) ∧ y.zs.length ≤ y.c ∧ y.c ≤ 9223372036854775807
 len : y.zs.length ≤ 1048576
 byte : ∀ z ∈ y.zs, 0 ≤ z ∧ z ≤ 255
theorem DataB.kept {w w' : World} {lo : Nat} {y : RV} (h : DataB w lo y) (hk : ∀ b ∈ y.blk, w'.heap[b]? = w.heap[b]?) : DataB w' lo y := by
 refine ⟨h.at_.imp id ?_, h.len, h.byte⟩
 rintro ⟨g, h1, h2, h3, h4⟩
 exact ⟨g, h1, h2, h3.kept (hk g (by simp [RV.blk, h1])), h4⟩
theorem DataB.le {w : World} {lo lo' : Nat} {y : RV} (h : DataB w lo y) (hl : lo' ≤ lo) : DataB w lo' y := by
 refine ⟨h.at_.imp id ?_, h.len, h.byte⟩
 rintro ⟨g, h1, h2, h3⟩
 exact ⟨g, h1, Nat.le_trans hl h2, h3⟩
theorem DataB.blk {w : World} {lo : Nat} {y : RV} (h : DataB w lo y) : ∀ b ∈ y.blk, lo ≤ b ∧ b < w.heap.size ∧ ∃ cur, w.heap[b]? = some (.cells cur 5 (0, 0)) := by
 intro b hb
 rcases h.at_ with ⟨h1, _⟩ | ⟨g, h1, h2, h3, _⟩
 ·simp [RV.blk, h1] at hb
 ·simp [RV.blk, h1] at hb
  subst hb
  obtain ⟨cur, hc, _⟩ := id h3
  exact ⟨h2, h3.lt, cur, hc⟩
theorem DataB.below {w w' : World} {lo : Nat} {y : RV} (h : DataB w lo y) (hb : Below w.heap.size w w') : DataB w' lo y := h.kept fun b h' => hb.block b (h.blk b h').2.1
theorem DataB.rok {w : World} {lo : Nat} {y : RV} (h : DataB w lo y) : ROk w y := by
 rcases h.at_ with ⟨h1, h2, h3⟩ | ⟨g, h1, _, h3, h4, h5⟩
 ·exact ⟨by rw [h1, h2]; exact ⟨rfl, Or.inl rfl⟩, h.len, by rw [h2]; simp, by omega, h.byte⟩
 ·refine ⟨?_, h.len, h4, h5, h.byte⟩
  rw [h1]
  refine ⟨rfl, Or.inr ⟨g, 0, rfl, h3.lt, fun k hk => ?_⟩⟩
  rw [Nat.zero_add]
  refine h3.cell ?_
  rw [List.getElem?_map]
  simp [List.getD, List.getElem?_eq_getElem hk]
theorem flatR_len (ps : List RV) : (ps.flatMap RV.cells).length = ps.length * 9 := by
 induction ps with
 | nil => rfl
 | cons x r ih => simp only [List.flatMap_cons, List.length_append, ih, RV.cells_len, List.length_cons]; omega
theorem flatR_at : ∀ (ps : List RV) (i j : Nat) (y : RV), ps[i]? = some y → j < 9 → (ps.flatMap RV.cells)[i * 9 + j]? = y.cells[j]?
 | [], i, j, y, hi, _ => by simp at hi
 | x :: r, 0, j, y, hi, hj => by
  simp at hi
  subst hi
  rw [List.flatMap_cons, Nat.zero_mul, Nat.zero_add, List.getElem?_append_left (by rw [RV.cells_len]; exact hj)]
 | x :: r, i + 1, j, y, hi, hj => by
  rw [List.flatMap_cons, List.getElem?_append_right (by rw [RV.cells_len]; omega), RV.cells_len, show (i + 1) * 9 + j - 9 = i * 9 + j by omega]
  exact flatR_at r i j y (by simpa using hi) hj
def SV.blks (s : SV) : List Nat := (s.a.map (·.block)).toList ++ s.xs.flatMap RV.blk
structure SlotB (w : World) (lo : Nat) (s : SV) : Prop where
 at_ : ∃ gL, s.a = some ⟨gL, 0, none⟩ ∧ lo ≤ gL ∧ RowB w 29 gL (s.xs.flatMap RV.cells)
 each : ∀ y ∈ s.xs, DataB w lo y
 len : s.xs.length ≤ 1048576
 cap : s.xs.length ≤ s.c
 capM : s.c ≤ 9223372036854775807
theorem SlotB.kept {w w' : World} {lo : Nat} {s : SV} (h : SlotB w lo s) (hk : ∀ b ∈ s.blks, w'.heap[b]? = w.heap[b]?) : SlotB w' lo s := by
 refine ⟨?_, fun y hy => (h.each y hy).kept fun b hb => hk b (List.mem_append_right _ (List.mem_flatMap.2 ⟨y, hy, hb⟩)), h.len, h.cap, h.capM⟩
 obtain ⟨gL, h1, h2, h3⟩ := h.at_
 exact ⟨gL, h1, h2, h3.kept (hk gL (by simp [SV.blks, h1]))⟩
theorem SlotB.blk {w : World} {lo : Nat} {s : SV} (h : SlotB w lo s) : ∀ b ∈ s.blks, lo ≤ b ∧ b < w.heap.size ∧ ∃ cur t, w.heap[b]? = some (.cells cur t (0, 0)) ∧ (t = 5 ∨ t = 29) := by
 intro b hb
 rcases List.mem_append.1 hb with hb | hb
 ·obtain ⟨gL, h1, h2, h3⟩ := h.at_
  simp [h1] at hb
  subst hb
  obtain ⟨cur, hc, _⟩ := id h3
  exact ⟨h2, h3.lt, cur, _, hc, Or.inr rfl⟩
 ·obtain ⟨y, hy, hb⟩ := List.mem_flatMap.1 hb
  obtain ⟨h1, h2, cur, h3⟩ := (h.each y hy).blk b hb
  exact ⟨h1, h2, cur, _, h3, Or.inl rfl⟩
theorem SlotB.below {w w' : World} {lo : Nat} {s : SV} (h : SlotB w lo s) (hb : Below w.heap.size w w') : SlotB w' lo s := h.kept fun b h' => hb.block b (h.blk b h').2.1
theorem SlotB.le {w : World} {lo lo' : Nat} {s : SV} (h : SlotB w lo s) (hl : lo' ≤ lo) : SlotB w lo' s := by
 refine ⟨?_, fun y hy => (h.each y hy).le hl, h.len, h.cap, h.capM⟩
 obtain ⟨gL, h1, h2, h3⟩ := h.at_
 exact ⟨gL, h1, Nat.le_trans hl h2, h3⟩
theorem SlotB.rl {w : World} {lo : Nat} {s : SV} (h : SlotB w lo s) : ∃ gL, s.a = some ⟨gL, 0, none⟩ ∧ RL w gL s.xs := by
 obtain ⟨gL, h1, _, h3⟩ := h.at_
 refine ⟨gL, h1, h3.lt, fun k x hx => ?_, fun x hx => (h.each x hx).rok⟩
 have e : ∀ j v, j < 9 → x.cells[j]? = some v → w.cell? ⟨gL, k * 9 + j, none⟩ = some v := fun j v hj hv => h3.cell (by rw [flatR_at s.xs k j x hx hj]; exact hv)
 exact ⟨e 0 _ (by omega) rfl, e 1 _ (by omega) rfl, e 2 _ (by omega) rfl, e 3 _ (by omega) rfl, e 4 _ (by omega) rfl, e 5 _ (by omega) rfl, e 6 _ (by omega) rfl, e 7 _ (by omega) rfl, e 8 _ (by omega) rfl⟩
theorem SlotB.sok {w : World} {lo : Nat} {s : SV} (h : SlotB w lo s) : SOk w s := ⟨h.rl, h.len, h.cap, h.capM⟩
structure Forest (w : World) (lo : Nat) (ss : List SV) : Prop where
 each : ∀ s ∈ ss, SlotB w lo s
 nd : (ss.flatMap SV.blks).Nodup
theorem Forest.nil (w : World) (lo : Nat) : Forest w lo [] := ⟨(fun s h => by cases h), by simp⟩
theorem Forest.blk {w : World} {lo : Nat} {ss : List SV} (h : Forest w lo ss) : ∀ b ∈ ss.flatMap SV.blks, lo ≤ b ∧ b < w.heap.size ∧ ∃ cur t, w.heap[b]? = some (.cells cur t (0, 0)) ∧ (t = 5 ∨ t = 29) := by
 intro b hb
 obtain ⟨s, hs, hb⟩ := List.mem_flatMap.1 hb
 exact (h.each s hs).blk b hb
theorem Forest.kept {w w' : World} {lo : Nat} {ss : List SV} (h : Forest w lo ss) (hk : ∀ b ∈ ss.flatMap SV.blks, w'.heap[b]? = w.heap[b]?) : Forest w' lo ss :=
 ⟨fun s hs => (h.each s hs).kept fun b hb => hk b (List.mem_flatMap.2 ⟨s, hs, hb⟩), h.nd⟩
theorem Forest.below {w w' : World} {lo : Nat} {ss : List SV} (h : Forest w lo ss) (hb : Below w.heap.size w w') : Forest w' lo ss := h.kept fun b h' => hb.block b (h.blk b h').2.1
theorem Forest.le {w : World} {lo lo' : Nat} {ss : List SV} (h : Forest w lo ss) (hl : lo' ≤ lo) : Forest w lo' ss := ⟨fun s hs => (h.each s hs).le hl, h.nd⟩
theorem sub_flat {α β : Type} {f : α → List β} {l l' : List α} (h : List.Sublist l l') : List.Sublist (l.flatMap f) (l'.flatMap f) := by
 induction h with
 | slnil => exact List.Sublist.refl _
 | cons a _ ih => rw [List.flatMap_cons]; exact ih.trans (List.sublist_append_right _ _)
 | cons_cons a _ ih => rw [List.flatMap_cons, List.flatMap_cons]; exact List.Sublist.append (List.Sublist.refl _) ih
theorem Forest.sub {w : World} {lo : Nat} {ss ts : List SV} (h : Forest w lo ss) (hs : List.Sublist ts ss) : Forest w lo ts :=
 ⟨fun s h' => h.each s (hs.subset h'), h.nd.sublist (sub_flat hs)⟩
theorem Forest.snoc {w : World} {lo lo' : Nat} {ss : List SV} {s : SV} (h : Forest w lo ss) (hs : SlotB w lo' s) (hn : s.blks.Nodup) (hl : lo ≤ lo') (hlt : ∀ b ∈ ss.flatMap SV.blks, b < lo') : Forest w lo (ss ++ [s]) := by
 refine ⟨fun t ht => ?_, ?_⟩
 ·rcases List.mem_append.1 ht with h1 | h1
  ·exact h.each t h1
  ·rw [List.mem_singleton.1 h1]
   exact hs.le hl
 ·rw [List.flatMap_append, List.nodup_append]
  refine ⟨h.nd, by simpa using hn, fun a ha b hb e => ?_⟩
  have hb' : b ∈ s.blks := by simpa using hb
  have := (hs.blk b hb').1
  have := hlt a ha
  omega
def SV.cells (s : SV) : List Value := (scells (.slice s.a s.xs.length s.c) s.since s.bad).toList
theorem SV.cells_len (s : SV) : s.cells.length = 3 := rfl
theorem flatS_len (ps : List SV) : (ps.flatMap SV.cells).length = ps.length * 3 := by
 induction ps with
 | nil => rfl
 | cons x r ih => simp only [List.flatMap_cons, List.length_append, ih, SV.cells_len, List.length_cons]; omega
theorem flatS_at : ∀ (ps : List SV) (i j : Nat) (y : SV), ps[i]? = some y → j < 3 → (ps.flatMap SV.cells)[i * 3 + j]? = y.cells[j]?
 | [], i, j, y, hi, _ => by simp at hi
 | x :: r, 0, j, y, hi, hj => by
  simp at hi
  subst hi
  rw [List.flatMap_cons, Nat.zero_mul, Nat.zero_add, List.getElem?_append_left (by rw [SV.cells_len]; exact hj)]
 | x :: r, i + 1, j, y, hi, hj => by
  rw [List.flatMap_cons, List.getElem?_append_right (by rw [SV.cells_len]; omega), SV.cells_len, show (i + 1) * 3 + j - 3 = i * 3 + j by omega]
  exact flatS_at r i j y (by simpa using hi) hj
structure AnsB (w : World) (lo gS : Nat) (ts : List SV) : Prop where
 low : lo ≤ gS
 row : RowB w 39 gS (ts.flatMap SV.cells)
 forest : Forest w lo ts
theorem AnsB.kept {w w' : World} {lo gS : Nat} {ts : List SV} (h : AnsB w lo gS ts) (hk : ∀ b, lo ≤ b → w'.heap[b]? = w.heap[b]?) : AnsB w' lo gS ts := ⟨h.low, h.row.kept (hk _ h.low), h.forest.kept fun b hb => hk b (h.forest.blk b hb).1⟩
theorem AnsB.below {w w' : World} {lo gS : Nat} {ts : List SV} (h : AnsB w lo gS ts) (hb : Below w.heap.size w w') : AnsB w' lo gS ts := ⟨h.low, h.row.kept (hb.block _ h.row.lt), h.forest.below hb⟩
theorem AnsB.le {w : World} {lo lo' gS : Nat} {ts : List SV} (h : AnsB w lo gS ts) (hl : lo' ≤ lo) : AnsB w lo' gS ts := ⟨Nat.le_trans hl h.low, h.row, h.forest.le hl⟩
theorem clone_nil (cap : Nat) (w : World) :
  Calls Tryz.prog 94 #[.slice none 0 cap] w fun e w' => e = .returned (.slice none 0 0) ∧ w' = w := by
 have hq := fun (w : World) => Lib.run_eql_slice_nil (P := Tryz.prog) w 22 5 none 0 cap 0 0 Tryz.underlying22
 go_enter Tryz.func94, Tryz.ntmps94
 go_wp2
 go_ret
 exact ⟨rfl, rfl⟩
set_option maxHeartbeats 800000 in
theorem copyPacket_nil (p : Pk) (cap : Nat) (w : World) :
  Calls Tryz.prog 68 #[p.val (.slice none 0 cap)] w fun e w' => e = .returned (p.val (.slice none 0 0)) ∧ Below w.heap.size w w' := by
 unfold Pk.val
 go_enter Tryz.func68, Tryz.ntmps68
 go_wp2_with fail
 refine (clone_nil cap _).mono ?_
 rintro e w1 ⟨rfl, rfl⟩
 go_wp2
 refine bodyPost_ret (v := .agg #[.int .i64 p.src, .int .i64 p.dst, .int .i64 p.kind, .int .i64 p.id, .int .i64 p.hops, .bool p.whole, .int .i64 p.off, .bool p.more, .slice none 0 0]) (by simp [results, Tryz.results68, go_sem]) rfl ⟨rfl, ?_⟩
 exact Joins.below_alloc2 _ _ _
def RV.val (y : RV) : Value := y.p.val (.slice y.a y.zs.length y.c)
theorem copyPacket_rv (y : RV) (w : World) (h : ROk w y) :
  Calls Tryz.prog 68 #[y.val] w fun e w' => ∃ z : RV, e = .returned z.val ∧ z.key = y.key ∧ DataB w' w.heap.size z ∧ Below w.heap.size w w' := by
 obtain ⟨p, a, c, zs⟩ := y
 cases a with
 | none =>
  have h0 : zs.length = 0 := by
   rcases h.rd.2 with e | ⟨g, o, e, _⟩
   ·exact e
   ·cases e
  have hz : zs = [] := List.eq_nil_of_length_eq_zero h0
  subst hz
  exact (copyPacket_nil p c w).mono fun e w' ⟨h1, h2⟩ => ⟨⟨p, none, 0, []⟩, h1, rfl, ⟨Or.inl ⟨rfl, rfl, rfl⟩, by simp, fun z hz => by cases hz⟩, h2⟩
 | some ad =>
  refine (copyPacket_any p ad zs.length c zs w h.rd h.len).mono fun e w' ⟨g, c', h1, h2, h3⟩ => ⟨⟨p, some ⟨g, 0, none⟩, c', zs⟩, h1, rfl, ⟨Or.inr ⟨g, rfl, (own_lt h2 g rfl).1, RowB.of_own h2, ?_⟩, h.len, h.byte⟩, h3⟩
  exact own_caps h2
end Go.Proofs.YtjbkgmbakjnlhaaGreatDoor
