/- The contract of the program's FragOk: it is the specification's. -/
import Derived.Test.YtjbkgmbakjnlhabGreatDoorPartAe
import Derived.Test.YtjbkgmbakjnlhabGreatDoorPartAa
import Derived.Laws.EntriesVeiled
import Derived.Test.YtjbkgmbakjnlhabGreatDoorPartAc
import Derived.Deep.RegionLaw
import Derived.Deep.RegionHeld3
import Derived.Maps.AppendAt
namespace Go.Proofs.YtjbkgmbakjnlhabGreatDoor
set_option maxRecDepth 100000
open Go.RowKit

/-- what the check of a number says -/
def chk (p : Pk) (len : Nat) : Nat → Bool
  | 0 => inB p.src 0 65535 && inB p.dst 0 65535 && inB p.kind 1 7 && inB p.id 0 255
  | 1 => inB p.hops 1 64
  | 2 => inB p.off 0 128 && (p.off.tmod 4 == 0)
  | 3 => decide ((len : Int) ≤ 128) && decide (p.off ≤ 128 - (len : Int))
  | 4 => !p.more || (decide ((0 : Int) < len) && ((len : Int) % 4 == 0))
  | _ => !p.whole || ((p.off == 0) && !p.more)

theorem ok_of_all (p : Pk) (len : Nat) (h : ∀ j, j < 6 → chk p len j = true) : okB p len = true := by
  rw [← okS_eq]
  have h0 := h 0 (by omega)
  have h1 := h 1 (by omega)
  have h2 := h 2 (by omega)
  have h3 := h 3 (by omega)
  have h4 := h 4 (by omega)
  have h5 := h 5 (by omega)
  rw [okS_eq]
  simp only [chk, inB, Bool.and_eq_true, Bool.or_eq_true, decide_eq_true_eq, beq_iff_eq, Bool.not_eq_true'] at h0 h1 h2 h3 h4 h5
  have e := Int.tmod_eq_emod_of_nonneg (b := 4) h2.1.1
  simp only [okB, headB, offB, moreB, wholeB, inB, Bool.and_eq_true, Bool.or_eq_true, decide_eq_true_eq, beq_iff_eq, Bool.not_eq_true', beq_eq_false_iff_ne]
  rw [e] at h2
  refine ⟨⟨⟨⟨⟨⟨⟨?_, ?_⟩, ?_⟩, ?_⟩, ?_⟩, ⟨⟨?_, ?_⟩, ?_⟩⟩, ?_⟩, ?_⟩
  all_goals first | omega | exact h5 | skip
  rcases h4 with h4 | h4
  · exact Or.inl h4
  · exact Or.inr ⟨by omega, h4.2⟩

theorem not_of_one (p : Pk) (len j : Nat) (hj : j < 6) (h : chk p len j = false) : okB p len = false := by
  cases hk : okB p len with
  | false => rfl
  | true =>
    exfalso
    simp only [okB, headB, offB, moreB, wholeB, inB, Bool.and_eq_true, Bool.or_eq_true, decide_eq_true_eq, beq_iff_eq, Bool.not_eq_true', beq_eq_false_iff_ne] at hk
    obtain ⟨⟨⟨⟨⟨⟨⟨a1, a2⟩, a3⟩, a4⟩, a5⟩, ⟨⟨a6, a7⟩, a8⟩⟩, a9⟩, a10⟩ := hk
    have e := Int.tmod_eq_emod_of_nonneg (b := 4) a6.1
    have ht : chk p len j = true := by
      match j, hj with
      | 0, _ => simp [chk, inB, a1, a2, a3, a4]
      | 1, _ => simp [chk, inB, a5]
      | 2, _ => simp [chk, inB, a6, e, a7]
      | 3, _ => simp [chk]; omega
      | 4, _ =>
        simp only [chk, Bool.or_eq_true, Bool.not_eq_true', Bool.and_eq_true, decide_eq_true_eq, beq_iff_eq]
        rcases a9 with a9 | a9
        · exact Or.inl a9
        · exact Or.inr ⟨by omega, a9.2⟩
      | 5, _ => simpa [chk] using a10
    rw [ht] at h
    cases h

theorem chk0 (p : Pk) (len : Nat) (w : World) : Calls Tryz.prog 97 #[p.kval len] w fun e w' => e = .returned (.bool (chk p len 0)) ∧ Below w.heap.size w w' := key_any p len w
theorem chk1 (p : Pk) (len : Nat) (w : World) : Calls Tryz.prog 98 #[p.kval len] w fun e w' => e = .returned (.bool (chk p len 1)) ∧ Below w.heap.size w w' := hops_any p len w
theorem chk2 (p : Pk) (len : Nat) (w : World) : Calls Tryz.prog 99 #[p.kval len] w fun e w' => e = .returned (.bool (chk p len 2)) ∧ Below w.heap.size w w' := begins_any p len w
theorem chk3 (p : Pk) (len : Nat) (w : World) (hl : len ≤ 1048576) : Calls Tryz.prog 100 #[p.kval len] w fun e w' => e = .returned (.bool (chk p len 3)) ∧ Below w.heap.size w w' := ends_any p len w (by omega) (by omega)
theorem chk4 (p : Pk) (len : Nat) (w : World) (hl : len ≤ 1048576) : Calls Tryz.prog 101 #[p.kval len] w fun e w' => e = .returned (.bool (chk p len 4)) ∧ Below w.heap.size w w' := leaves_any p len w hl
theorem chk5 (p : Pk) (len : Nat) (w : World) : Calls Tryz.prog 102 #[p.kval len] w fun e w' => e = .returned (.bool (chk p len 5)) ∧ Below w.heap.size w w' := whole_any p len w

/-- the keyed packet's cells; the six checks; the world at the loop's head -/
def kcells (p : Pk) (len : Nat) : Array Value := #[.int .i64 p.src, .int .i64 p.dst, .int .i64 p.kind, .int .i64 p.id, .int .i64 p.hops, .bool p.whole, .int .i64 p.off, .bool p.more, .int .i64 len]
def sixF : Array Value := #[.func (.func 97) #[] #[], .func (.func 98) #[] #[], .func (.func 99) #[] #[], .func (.func 100) #[] #[], .func (.func 101) #[] #[], .func (.func 102) #[] #[]]
def headW (w1 : World) (p : Pk) (len : Nat) : World := (w1.alloc (.cells (kcells p len) 95)).alloc (.cells sixF 133)
theorem headW_size (w1 : World) (p : Pk) (len : Nat) : (headW w1 p len).heap.size = w1.heap.size + 2 := by simp [headW]
theorem headW_k {w1 wr : World} {p : Pk} {len j : Nat} {v : Value} (hb : Below (w1.heap.size + 2) (headW w1 p len) wr) (h : (kcells p len)[j]? = some v) : wr.cell? ⟨w1.heap.size, j, none⟩ = some v := by
  rw [hb.cell (p := ⟨w1.heap.size, j, none⟩) (by simp), headW, World.cell?_alloc_past _ _ _ (by simp), World.cell?_alloc_at _ _ _ _ rfl, h]
theorem headW_f {w1 wr : World} {p : Pk} {len j : Nat} {v : Value} (hb : Below (w1.heap.size + 2) (headW w1 p len) wr) (h : sixF[j]? = some v) : wr.cell? ⟨w1.heap.size + 1, j, none⟩ = some v := by
  rw [hb.cell (p := ⟨w1.heap.size + 1, j, none⟩) (by simp), headW, World.cell?_alloc_at _ _ _ _ (by simp), h]
theorem upto_succ {p : Pk} {len k : Nat} (h : ∀ j, j < k → chk p len j = true) (hk : chk p len k = true) : ∀ j, j < k + 1 → chk p len j = true := fun j hj => by
  rcases Nat.lt_or_ge j k with h' | h'
  · exact h j h'
  · obtain rfl : j = k := by omega
    exact hk

set_option maxHeartbeats 3200000 in
theorem implOk_any (p : Pk) (a : Option Addr) (len cap : Nat) (w : World) (hl : len ≤ 1048576) :
    Calls Tryz.prog 55 #[p.val (.slice a len cap)] w fun e w' => e = .returned (.bool (okB p len)) ∧ Below w.heap.size w w' := by
  unfold Pk.val
  go_enter Tryz.func55, Tryz.ntmps55
  go_wp2_with fail
  refine (keyed_any p a len cap _).mono ?_
  rintro e w1 ⟨rfl, hb1⟩
  have HB : Hid (Below w.heap.size w w1) := (Joins.below_alloc1 _ _).trans (hb1.mono (by simp))
  have hs1 : w.heap.size < w1.heap.size := Nat.lt_of_lt_of_le (by simp) hb1.size
  clear hb1
  unfold Pk.kval
  go_wp2_with fail
  refine (packetChecks_any _).mono ?_
  rintro e w2 ⟨rfl, rfl⟩
  go_wp2
  go_loopw [10] (fun i wr => ∃ k : Nat, k ≤ 6 ∧ i = .int .i64 k ∧ Hid (∀ j, j < k → chk p len j = true) ∧ Hid (Below (w1.heap.size + 2) (headW w1 p len) wr)) (fun i _ => 6 - (intOf i).toNat)
  case atStart => exact ⟨0, by omega, rfl, fun j hj => by omega, Below.refl _ _⟩
  case round =>
    obtain ⟨k, hk, rfl, HC, HW⟩ := hrel
    have c0 := headW_k HW.out (j := 0) (v := .int .i64 p.src) rfl
    have c1 := headW_k HW.out (j := 1) (v := .int .i64 p.dst) rfl
    have c2 := headW_k HW.out (j := 2) (v := .int .i64 p.kind) rfl
    have c3 := headW_k HW.out (j := 3) (v := .int .i64 p.id) rfl
    have c4 := headW_k HW.out (j := 4) (v := .int .i64 p.hops) rfl
    have c5 := headW_k HW.out (j := 5) (v := .bool p.whole) rfl
    have c6 := headW_k HW.out (j := 6) (v := .int .i64 p.off) rfl
    have c7 := headW_k HW.out (j := 7) (v := .bool p.more) rfl
    have c8 := headW_k HW.out (j := 8) (v := .int .i64 len) rfl
    have hsr : w1.heap.size + 2 ≤ wr.heap.size := by have := HW.out.size; rw [headW_size] at this; exact this
    have hlt1 : w1.heap.size < wr.heap.size := by omega
    have hlt2 : w1.heap.size + 1 < wr.heap.size := by omega
    have fin : ∀ wx : World, Below (w1.heap.size + 2) (headW w1 p len) wx → Below w.heap.size w wx := fun wx h =>
      ((HB.out.alloc (by omega) _).alloc (by simp; omega) _).trans (h.mono (by omega))
    have FIN := (show Hid (∀ wx : World, Below (w1.heap.size + 2) (headW w1 p len) wx → Below w.heap.size w wx) from fin)
    clear fin
    rcases (show k = 0 ∨ k = 1 ∨ k = 2 ∨ k = 3 ∨ k = 4 ∨ k = 5 ∨ k = 6 from by omega) with rfl | rfl | rfl | rfl | rfl | rfl | rfl
    · have f := headW_f HW.out (j := 0) (v := .func (.func 97) #[] #[]) rfl
      cases hv : chk p len 0
      · have HN : Hid (okB p len = false) := not_of_one p len 0 (by omega) hv
        go_wp2_with (go_at_call 97; refine (chk0 p len _).mono ?_; rintro e w' ⟨rfl, hb⟩)
        go_ret
        exact ⟨ret_bool HN.out.symm, FIN.out _ ((HW.out.alloc hsr _).trans (hb.mono (by simp; omega)))⟩
      · go_wp2_with (go_at_call 97; refine (chk0 p len _).mono ?_; rintro e w' ⟨rfl, hb⟩)
        go_roundw
        case rel => exact ⟨1, by omega, rfl, upto_succ HC.out hv, (HW.out.alloc hsr _).trans (hb.mono (by simp; omega))⟩
        case measure => simp [intOf]
    · have f := headW_f HW.out (j := 1) (v := .func (.func 98) #[] #[]) rfl
      cases hv : chk p len 1
      · have HN : Hid (okB p len = false) := not_of_one p len 1 (by omega) hv
        go_wp2_with (go_at_call 98; refine (chk1 p len _).mono ?_; rintro e w' ⟨rfl, hb⟩)
        go_ret
        exact ⟨ret_bool HN.out.symm, FIN.out _ ((HW.out.alloc hsr _).trans (hb.mono (by simp; omega)))⟩
      · go_wp2_with (go_at_call 98; refine (chk1 p len _).mono ?_; rintro e w' ⟨rfl, hb⟩)
        go_roundw
        case rel => exact ⟨2, by omega, rfl, upto_succ HC.out hv, (HW.out.alloc hsr _).trans (hb.mono (by simp; omega))⟩
        case measure => simp [intOf]
    · have f := headW_f HW.out (j := 2) (v := .func (.func 99) #[] #[]) rfl
      cases hv : chk p len 2
      · have HN : Hid (okB p len = false) := not_of_one p len 2 (by omega) hv
        go_wp2_with (go_at_call 99; refine (chk2 p len _).mono ?_; rintro e w' ⟨rfl, hb⟩)
        go_ret
        exact ⟨ret_bool HN.out.symm, FIN.out _ ((HW.out.alloc hsr _).trans (hb.mono (by simp; omega)))⟩
      · go_wp2_with (go_at_call 99; refine (chk2 p len _).mono ?_; rintro e w' ⟨rfl, hb⟩)
        go_roundw
        case rel => exact ⟨3, by omega, rfl, upto_succ HC.out hv, (HW.out.alloc hsr _).trans (hb.mono (by simp; omega))⟩
        case measure => simp [intOf]
    · have f := headW_f HW.out (j := 3) (v := .func (.func 100) #[] #[]) rfl
      cases hv : chk p len 3
      · have HN : Hid (okB p len = false) := not_of_one p len 3 (by omega) hv
        go_wp2_with (go_at_call 100; refine (chk3 p len _ hl).mono ?_; rintro e w' ⟨rfl, hb⟩)
        go_ret
        exact ⟨ret_bool HN.out.symm, FIN.out _ ((HW.out.alloc hsr _).trans (hb.mono (by simp; omega)))⟩
      · go_wp2_with (go_at_call 100; refine (chk3 p len _ hl).mono ?_; rintro e w' ⟨rfl, hb⟩)
        go_roundw
        case rel => exact ⟨4, by omega, rfl, upto_succ HC.out hv, (HW.out.alloc hsr _).trans (hb.mono (by simp; omega))⟩
        case measure => simp [intOf]
    · have f := headW_f HW.out (j := 4) (v := .func (.func 101) #[] #[]) rfl
      cases hv : chk p len 4
      · have HN : Hid (okB p len = false) := not_of_one p len 4 (by omega) hv
        go_wp2_with (go_at_call 101; refine (chk4 p len _ hl).mono ?_; rintro e w' ⟨rfl, hb⟩)
        go_ret
        exact ⟨ret_bool HN.out.symm, FIN.out _ ((HW.out.alloc hsr _).trans (hb.mono (by simp; omega)))⟩
      · go_wp2_with (go_at_call 101; refine (chk4 p len _ hl).mono ?_; rintro e w' ⟨rfl, hb⟩)
        go_roundw
        case rel => exact ⟨5, by omega, rfl, upto_succ HC.out hv, (HW.out.alloc hsr _).trans (hb.mono (by simp; omega))⟩
        case measure => simp [intOf]
    · have f := headW_f HW.out (j := 5) (v := .func (.func 102) #[] #[]) rfl
      cases hv : chk p len 5
      · have HN : Hid (okB p len = false) := not_of_one p len 5 (by omega) hv
        go_wp2_with (go_at_call 102; refine (chk5 p len _).mono ?_; rintro e w' ⟨rfl, hb⟩)
        go_ret
        exact ⟨ret_bool HN.out.symm, FIN.out _ ((HW.out.alloc hsr _).trans (hb.mono (by simp; omega)))⟩
      · go_wp2_with (go_at_call 102; refine (chk5 p len _).mono ?_; rintro e w' ⟨rfl, hb⟩)
        go_roundw
        case rel => exact ⟨6, by omega, rfl, upto_succ HC.out hv, (HW.out.alloc hsr _).trans (hb.mono (by simp; omega))⟩
        case measure => simp [intOf]
    · go_wp2
      go_ret
      exact ⟨ret_bool (ok_of_all p len HC.out).symm, FIN.out _ HW.out⟩
end Go.Proofs.YtjbkgmbakjnlhabGreatDoor

/- The contract of copyPacket. -/
namespace Go.Proofs.YtjbkgmbakjnlhabGreatDoor
set_option maxRecDepth 100000
open Go.RowKit

set_option maxHeartbeats 800000 in
theorem copyPacket_any (p : Pk) (ad : Addr) (len cap : Nat) (zs : List Int) (w : World) (hr : RdB w (some ad) len zs) (hl : len ≤ 1048576) :
    Calls Tryz.prog 56 #[p.val (.slice (some ad) len cap)] w fun e w' => ∃ g c, e = .returned (p.val (.slice (some ⟨g, 0, none⟩) len c)) ∧ w'.ownsRow w.heap.size 5 1 (.slice (some ⟨g, 0, none⟩) len c) len (zs.map (.int .u8)) ∧ Below w.heap.size w w' := by
  unfold Pk.val
  go_enter Tryz.func56, Tryz.ntmps56
  go_wp2_with fail
  refine (clone_any ad len cap zs _ (hr.below (Joins.below_alloc2 _ _ _)) hl).mono ?_
  rintro e w1 ⟨g, c, rfl, hown, hb⟩
  have hf := (bcell hb).2
  have X : Boxed w1 w.heap.size p (.slice (some ad) len cap) := ((Boxed.new w p (.slice (some ad) len cap) 33).below (Joins.below_alloc1 _ _)).below hb
  have Z : Boxed w1 (w.heap.size + 1) zeroPk (.slice none 0 0) := (Boxed.newAt (w.alloc _) (w.heap.size + 1) zeroPk (.slice none 0 0) 33 (by simp)).below hb
  have HB : Hid (Below w.heap.size w w1) := (Joins.below_alloc2 _ _ _).trans (hb.mono (by simp; omega))
  have HO : Hid (w1.ownsRow (w.heap.size + 2) 5 1 (.slice (some ⟨g, 0, none⟩) len c) len (zs.map (.int .u8))) := Joins.ownsRow_le hown (by simp)
  obtain ⟨hlt0, c0, c1, c2, c3, c4, c5, c6, c7, c8⟩ := X
  obtain ⟨hlt1, z0, z1, z2, z3, z4, z5, z6, z7, z8⟩ := Z
  have hf0 : ∀ o, w1.frozen? ⟨w.heap.size, o, none⟩ = false := fun o => by rw [hf _ _ (by simp; omega)]; go_simp
  have hf1 : ∀ o, w1.frozen? ⟨w.heap.size + 1, o, none⟩ = false := fun o => by rw [hf _ _ (by simp)]; go_simp
  clear hown hb hf
  go_wp2
  refine bodyPost_ret (v := .agg #[.int .i64 p.src, .int .i64 p.dst, .int .i64 p.kind, .int .i64 p.id, .int .i64 p.hops, .bool p.whole, .int .i64 p.off, .bool p.more, .slice (some ⟨g, 0, none⟩) len c]) (by simp [results, Tryz.results56, go_sem, z0, z1, z2, z3, z4, z5, z6, z7, z8]) rfl ⟨g, c, rfl, ?_, ?_⟩
  · exact Joins.ownsRow_le (own9 (ownsRow_setCell_below HO.out (by simp) _) (by omega) _ _ _ _ _ _ _ _ _) (by omega)
  · exact below9 (Below.setCell HB.out (by simp) _) (by omega) _ _ _ _ _ _ _ _ _

/-- what FragHop answers: the code, the packet, its bytes -/
def hopC (p : Pk) (len : Nat) : Int := if okB p len = true then (if p.hops = 1 then 2 else 0) else 1
def hopP (p : Pk) (len : Nat) : Pk := if hopC p len = 0 then ⟨p.src, p.dst, p.kind, p.id, p.hops - 1, p.whole, p.off, p.more⟩ else zeroPk
def hopD (p : Pk) (zs : List Int) : List Int := if hopC p zs.length = 0 then zs else []

end Go.Proofs.YtjbkgmbakjnlhabGreatDoor

/- An append as one step of a region that draws; small facts on owned rows. -/
namespace Go.Proofs.YtjbkgmbakjnlhabGreatDoor
set_option maxRecDepth 100000
open Go.RowKit

theorem own_caps {w : World} {base e size n c : Nat} {a : Option Addr} {xs : List Value} (h : w.ownsRow base e size (.slice a n c) n xs) : n ≤ c ∧ c ≤ 9223372036854775807 := by
  rcases h.2 with ⟨hv, h0⟩ | ⟨g, cap, cur, hv, _, _, hc, hm, _⟩
  · simp at hv; omega
  · simp at hv; unfold maxLen at hm; omega

/-- append to a slice of the call's own, as one step of a region that draws -/
theorem step_append_own {P : Program} {w : World} {ops : Array Oper} {o : Oper} {a : Act} {K : Act → World → Prop} {Q : Exit → Act → World → Prop} {E : Prop} (hgd : o.guard = none) (s x : Operand) (t : TypeId)
    (ho : o.op = .call { callee := .builtin .append, args := #[s, x], argTypes := #[t, t] })
    (base : Nat) (e : TypeId) (i : TypeInfo) (z : Value) (size bytes : Nat) (ht : P.underlying t = some (.slice e)) (hi : P.info? e = some i) (hz : i.zero = some z)
    (hsize : i.size = size) (hby : i.bytes = bytes) (hzs : z.cells.size = size) (hsz : 0 < size)
    (v : Value) (n : Nat) (xs : List Value) (hs : a.eval s = v) (hown : w.ownsRow base e size v n xs)
    (ad : Addr) (m c : Nat) (news : List Value) (hx : a.eval x = .slice (some ad) m c) (hl : news.length = m * size) (hnews : ∀ j u, news[j]? = some u → w.cell? (ad.add j) = some u) (h1 : ∀ u ∈ news, u.oneCell' = true)
    (h63 : n + m ≤ maxLen) (hbytes : (n + m) * bytes ≤ 140737488355328) (hbase : base ≤ w.heap.size)
    (h : ∀ v' w', w'.ownsRow base e size v' (n + m) (xs ++ news) → w.grownBy w' v.ownBlock → (v' = .slice none 0 0 ↔ v = .slice none 0 0 ∧ m = 0) → K (a.put o.dst v') w') :
    if Region.wanted o (yielded ops a.tmps) = true then Oper.wp P o a w K Q else E := by
  have hw : Region.wanted o (yielded ops a.tmps) = true := by simp [Region.wanted, hgd]
  rw [if_pos hw]
  exact wp_append_own w s x t ho base e i z size bytes ht hi hz hsize hby hzs hsz v n xs hs hown ad m c news hx hl hnews h1 h63 hbytes hbase h

/-- the same, with the slot that is written spelt out -/
theorem step_append_d {P : Program} {w : World} {ops : Array Oper} {o : Oper} {a : Act} {K : Act → World → Prop} {Q : Exit → Act → World → Prop} {E : Prop} (hgd : o.guard = none) (d : Option Tmp) (hd : o.dst = d) (s x : Operand) (t : TypeId)
    (ho : o.op = .call { callee := .builtin .append, args := #[s, x], argTypes := #[t, t] })
    (base : Nat) (e : TypeId) (i : TypeInfo) (z : Value) (size bytes : Nat) (ht : P.underlying t = some (.slice e)) (hi : P.info? e = some i) (hz : i.zero = some z)
    (hsize : i.size = size) (hby : i.bytes = bytes) (hzs : z.cells.size = size) (hsz : 0 < size)
    (v : Value) (n : Nat) (xs : List Value) (hs : a.eval s = v) (hown : w.ownsRow base e size v n xs)
    (ad : Addr) (m c : Nat) (news : List Value) (hx : a.eval x = .slice (some ad) m c) (hl : news.length = m * size) (hnews : ∀ j u, news[j]? = some u → w.cell? (ad.add j) = some u) (h1 : ∀ u ∈ news, u.oneCell' = true)
    (h63 : n + m ≤ maxLen) (hbytes : (n + m) * bytes ≤ 140737488355328) (hbase : base ≤ w.heap.size)
    (h : ∀ v' w', w'.ownsRow base e size v' (n + m) (xs ++ news) → w.grownBy w' v.ownBlock → (v' = .slice none 0 0 ↔ v = .slice none 0 0 ∧ m = 0) → K (a.put d v') w') :
    if Region.wanted o (yielded ops a.tmps) = true then Oper.wp P o a w K Q else E := by
  subst hd
  exact step_append_own hgd s x t ho base e i z size bytes ht hi hz hsize hby hzs hsz v n xs hs hown ad m c news hx hl hnews h1 h63 hbytes hbase h

/-- an operation that yields in every world that meets a condition, taken first -/
theorem take_held {P : Program} {md : Region.Mode} {ops : Array Oper} {Q : Exit → Act → World → Prop} {S : World → Prop} {fuel : Nat} {listed : Array Bool} {a : Act} {w : World} {oi : Oper} (i : Nat) (d : Option Tmp) (v : Value) (hi : ops[i]? = some oi) (hd : oi.dst = d)
    (hs : Region.noSelect ops = true) (hf : Region.free md ops listed i = true) (hr : (Region.ready md ops listed).contains i = true)
    (hQ : ∀ c a w, Q (.panic c) (a.put d v) w → Q (.panic c) a w) (hw : Region.wanted oi (yielded ops a.tmps) = true) (hy : ∀ w, S w → (execOp a.eval oi).run P w = .ok (.value v) w) (hS : S w)
    (h : wpAnyH P md ops Q S fuel (listed.setIfInBounds i true) (a.put d v) w) : wpAnyH P md ops Q S (fuel + 1) listed a w := by
  subst hd
  exact wpAnyH_take hi hs hf hr hQ (Or.inl ⟨hw, hy⟩) hS h
theorem form_of {w : World} {base e size n : Nat} {v : Value} {xs : List Value} (h : w.ownsRow base e size v n xs) (hn : v = .slice none 0 0 → False) : ∃ g c, v = .slice (some ⟨g, 0, none⟩) n c := by
  rcases Joins.ownsRow_forms h with h | h
  · exact absurd h.1 hn
  · exact h
end Go.Proofs.YtjbkgmbakjnlhabGreatDoor

/- Regions that draw their order, by what holds whatever has come up. -/
namespace Go.Proofs.YtjbkgmbakjnlhabGreatDoor
set_option maxRecDepth 100000
open Go.RowKit

section inv
variable {P : Program} {ops : Array Oper} {Q : Exit → Act → World → Prop} {md : Region.Mode} {S : World → Prop}
theorem wpAnyH_inv (I : Nat → Array Bool → Act → World → Prop) (h0 : ∀ l a w, I 0 l a w → False)
    (h1 : ∀ f l a w, I (f + 1) l a w → Region.ready md ops l ≠ [] ∧ ∀ i ∈ Region.ready md ops l, wpOp P ops Q i (fun a' w' => S w' ∧ (I f (l.setIfInBounds i true) a' w' ∨ wpAnyH P md ops Q S f (l.setIfInBounds i true) a' w')) a w) :
    ∀ f l a w, I f l a w → wpAnyH P md ops Q S f l a w
  | 0, l, a, w, h => (h0 l a w h).elim
  | f + 1, l, a, w, h => ⟨fun e => absurd e (h1 f l a w h).1, fun i hi => wpOp_mono (fun a' w' h' => ⟨h'.1, h'.2.elim (wpAnyH_inv I h0 h1 f _ a' w') id⟩) ((h1 f l a w h).2 i hi)⟩
theorem wpOp_of {i : Nat} {o : Oper} {a : Act} {w : World} {K : Act → World → Prop} (ho : ops[i]? = some o) (hg : o.guard = none) (h : Oper.wp P o a w K Q) : wpOp P ops Q i K a w := by
  unfold wpOp
  simp only [ho]
  rw [if_pos (by simp [Region.wanted, hg])]
  exact .inl h
/-- append to a row of the call's own, and where it lies then -/
theorem wpOp_append {i : Nat} {o : Oper} {a : Act} {w : World} {K : Act → World → Prop} (ho : ops[i]? = some o) (hg : o.guard = none) (d : Tmp) (hd : o.dst = some d) (s x : Operand) (t : TypeId)
    (hop : o.op = .call { callee := .builtin .append, args := #[s, x], argTypes := #[t, t] })
    (base : Nat) (e : TypeId) (ti : TypeInfo) (z : Value) (size bytes : Nat) (ht : P.underlying t = some (.slice e)) (hi : P.info? e = some ti) (hz : ti.zero = some z)
    (hsize : ti.size = size) (hby : ti.bytes = bytes) (hzs : z.cells.size = size) (hsz : 0 < size)
    (v : Value) (n : Nat) (xs : List Value) (hs : a.eval s = v) (hown : w.ownsRow base e size v n xs)
    (ad : Addr) (m c : Nat) (news : List Value) (hx : a.eval x = .slice (some ad) m c) (hl : news.length = m * size) (hnews : ∀ j u, news[j]? = some u → w.cell? (ad.add j) = some u) (h1 : ∀ u ∈ news, u.oneCell' = true)
    (h63 : n + m ≤ maxLen) (hbytes : (n + m) * bytes ≤ 140737488355328) (hbase : base ≤ w.heap.size)
    (h : ∀ v' w', w'.ownsRow base e size v' (n + m) (xs ++ news) → w.grownBy w' v.ownBlock → (v' = .slice none 0 0 ↔ v = .slice none 0 0 ∧ m = 0) → (v'.ownBlock = v.ownBlock ∨ v'.ownBlock = some w.heap.size) → K (a.put (some d) v') w') : wpOp P ops Q i K a w := by
  refine wpOp_of ho hg ?_
  obtain ⟨v', w', hr, h2, h3, h4, h5⟩ := run_append_own_at (P := P) w base t o.type e ti z size bytes ht hi hz hsize hby hzs hsz v n xs hown ad m c news hl hnews h1 h63 hbytes hbase
  unfold Oper.wp execOp
  simp only [hop, resolve, invoke, builtin, Sem.run_bind, Sem.run_pure, Result.andThen_ok, List.map_toArray, List.map_cons, List.map_nil, hs, hx, hr]
  rw [← hd] at h
  exact h v' w' h2 h3 h4 h5
/-- a call of a Go function, what it hands back put into its slot -/
theorem wpOp_call {i : Nat} {o : Oper} {a : Act} {w : World} {K : Act → World → Prop} (ho : ops[i]? = some o) (hg : o.guard = none) (d : Tmp) (hd : o.dst = some d) (f : FuncId) (args : Array Value) (hrun : (execOp a.eval o).run P w = .ok (.enter f args) w)
    (h : Calls P f args w (fun e w' => ∃ r, e = .returned r ∧ K (a.put (some d) r) w')) : wpOp P ops Q i K a w := by
  refine wpOp_of ho hg ?_
  unfold Oper.wp
  rw [hrun, Oper.upon_enter, hd]
  refine h.mono fun e w'' hh => ?_
  obtain ⟨r, rfl, hk⟩ := hh
  exact hk
/-- a call as one step of a region that draws -/
theorem step_call {o : Oper} {a : Act} {w : World} {K : Act → World → Prop} {E : Prop} (hg : o.guard = none) (d : Tmp) (hd : o.dst = some d) (f : FuncId) (args : Array Value) (hrun : (execOp a.eval o).run P w = .ok (.enter f args) w)
    (h : Calls P f args w (fun e w' => ∃ r, e = .returned r ∧ K (a.put (some d) r) w')) : if Region.wanted o (yielded ops a.tmps) = true then Oper.wp P o a w K Q else E := by
  rw [if_pos (by simp [Region.wanted, hg])]
  unfold Oper.wp
  rw [hrun, Oper.upon_enter, hd]
  refine h.mono fun e w'' hh => ?_
  obtain ⟨r, rfl, hk⟩ := hh
  exact hk
/-- what makes memory -/
theorem wpOp_made {i : Nat} {o : Oper} {a : Act} {w w' : World} {v : Value} {K : Act → World → Prop} (ho : ops[i]? = some o) (hg : o.guard = none) (d : Tmp) (hd : o.dst = some d) (hrun : (execOp a.eval o).run P w = .ok (.value v) w')
    (h : K (a.put (some d) v) w') : wpOp P ops Q i K a w := by
  refine wpOp_of ho hg ?_
  unfold Oper.wp
  rw [hrun, Oper.upon_value, hd]
  exact h
end inv

/-- a slot that is written, if it is -/
def pf (b : Bool) (d : Tmp) (v : Value) (a : Act) : Act := bif b then a.put (some d) v else a
theorem pf_size (b : Bool) (d : Tmp) (v : Value) (a : Act) : (pf b d v a).tmps.size = a.tmps.size := by cases b <;> simp [pf, Act.put]
theorem pf_put {b : Bool} {d d' : Tmp} {v v' : Value} {a : Act} (h : d ≠ d') : (pf b d v a).put (some d') v' = pf b d v (a.put (some d') v') := by
  cases b
  · rfl
  · exact Act.put_comm a (x := some d) (y := some d') v v' (fun k hk e => h ((Option.some.inj hk).trans (Option.some.inj e).symm))
theorem pf_same {d : Tmp} {v : Value} {a : Act} (h : d < a.tmps.size) : (pf true d v a).eval (.tmp d) = v := by
  simp [pf, Act.put, Act.eval, h]
theorem pf_other {b : Bool} {d d' : Tmp} {v : Value} {a : Act} (h : d ≠ d') : (pf b d v a).eval (.tmp d') = a.eval (.tmp d') := by
  cases b
  · rfl
  · simp [pf, Act.put, Act.eval, Array.getElem?_setIfInBounds_ne h]
end Go.Proofs.YtjbkgmbakjnlhabGreatDoor
