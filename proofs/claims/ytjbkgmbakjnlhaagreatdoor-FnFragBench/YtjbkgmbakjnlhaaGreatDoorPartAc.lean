import Derived.Test.YtjbkgmbakjnlhaaGreatDoorPartAa
import Derived.Laws.AppendOwnNone
import Derived.Deep.RegionHeld3
import Derived.Test.YtjbkgmbakjnlhaaGreatDoorPartAb
import Derived.Laws.EntriesVeiled
namespace Go.Proofs.YtjbkgmbakjnlhaaGreatDoor
set_option maxRecDepth 100000
open Go.RowKit
theorem add_none (b off j : Nat) : (Addr.mk b off none).add j = ⟨b, off + j, none⟩ := by
 unfold Addr.add
 split <;> simp_all
theorem cells_rdb {w : World} {ad : Addr} {len : Nat} {zs : List Int} (hr : RdB w (some ad) len zs) : ∀ j u, (zs.map (Value.int .u8))[j]? = some u → w.cell? (ad.add j) = some u := by
 intro j u hu
 obtain ⟨hz, h0 | ⟨b, off, ha, _, hc⟩⟩ := hr
 ·subst hz
  rw [List.length_eq_zero_iff.1 h0] at hu
  simp at hu
 ·cases ha
  have hj : j < zs.length := by
   rcases Nat.lt_or_ge j zs.length with h | h
   ·exact h
   ·rw [List.getElem?_eq_none (by simpa using h)] at hu; cases hu
  have := hc j (by omega)
  simp [List.getElem?_eq_getElem hj] at hu
  subst hu
  have h2 : w.cell? ⟨b, off + j, none⟩ = some (.int .u8 zs[j]) := by simpa [List.getD, List.getElem?_eq_getElem hj] using this
  rw [add_none]
  exact h2
theorem own_empty (w : World) (n base : Nat) (h : n = w.heap.size) (hb : base ≤ n) : (w.alloc (.cells #[] 5)).ownsRow base 5 1 (.slice (some ⟨n, 0, none⟩) 0 0) 0 [] :=
 ⟨rfl, Or.inr ⟨n, 0, #[], rfl, hb, heap_new _ _ _ h, Nat.le_refl _, by unfold maxLen; omega, rfl, rfl⟩⟩
theorem one_u8 (zs : List Int) : ∀ u ∈ zs.map (Value.int .u8), u.oneCell' = true := by
 intro u hu
 obtain ⟨x, _, rfl⟩ := List.mem_map.1 hu
 rfl
set_option maxHeartbeats 800000 in
theorem l1Copy_any (p : Pk) (ad : Addr) (len cap : Nat) (zs : List Int) (w : World) (hr : RdB w (some ad) len zs) (hl : len ≤ 1048576) :
  Calls Tryz.prog 33 #[p.val (.slice (some ad) len cap)] w fun e w' => ∃ g c, e = .returned (p.val (.slice (some ⟨g, 0, none⟩) len c)) ∧ w'.ownsRow w.heap.size 5 1 (.slice (some ⟨g, 0, none⟩) len c) len (zs.map (.int .u8)) ∧ Below w.heap.size w w' := by
 unfold Pk.val
 obtain ⟨i0, hi, hz0, hz1, hz2⟩ := info_parts Tryz.info5
 go_enter Tryz.func33, Tryz.ntmps33
 go_wp2_with (at_builtin; refine wpList_append_own _ rfl _ _ 22 rfl (w.heap.size + 2) 5 i0 (.int .u8 0) 1 1 Tryz.underlying22 hi hz0 hz1 hz2 rfl (by decide) (.slice (some ⟨w.heap.size + 2, 0, none⟩) 0 0) 0 [] rfl ?h1 ad len cap (zs.map (.int .u8)) rfl ?h2 ?h3 (one_u8 zs) ?h4 ?h5 ?h6 ?_)
 case h1 => exact own_empty _ _ _ (by simp) (by omega)
 case h2 => simp [hr.1]
 case h3 => exact cells_rdb (hr.below (Joins.below_alloc3 _ _ _ _))
 case h4 => unfold maxLen; omega
 case h5 => omega
 case h6 => simp
 intro v1 w1 hown hgrow hnil
 obtain ⟨g, c, rfl⟩ : ∃ g c, v1 = .slice (some ⟨g, 0, none⟩) len c := by
  rcases Joins.ownsRow_forms hown with h | h
  ·exact absurd h.1 hnil
  ·exact h
 have hb : Below (w.heap.size + 2) _ w1 := (Below.refl _ _).grown hgrow (by simp) (by intro k hk; simp [Value.ownBlock] at hk; omega)
 have hlt : w.heap.size + 2 < w1.heap.size := Nat.lt_of_lt_of_le (by simp) hb.size
 have hlt0 : w.heap.size < w1.heap.size := by omega
 have hlt1 : w.heap.size + 1 < w1.heap.size := by omega
 have hf := (bcell hb).2
 have X : Boxed w1 w.heap.size p (.slice (some ad) len cap) := (((Boxed.new w p (.slice (some ad) len cap) 29).below (zBa _ _)).below (zBa _ _)).upto hb (by omega)
 have Z : Boxed w1 (w.heap.size + 1) zeroPk (.slice none 0 0) := ((Boxed.newAt (w.alloc _) (w.heap.size + 1) zeroPk (.slice none 0 0) 29 (by simp)).below (zBa _ _)).upto hb (by omega)
 obtain ⟨_, c0, c1, c2, c3, c4, c5, c6, c7, c8⟩ := X
 obtain ⟨_, z0, z1, z2, z3, z4, z5, z6, z7, z8⟩ := Z
 have HB : Hid (Below w.heap.size w w1) := (Joins.below_alloc3 _ _ _ _).trans (hb.mono (by omega))
 have HO : Hid (w1.ownsRow (w.heap.size + 2) 5 1 (.slice (some ⟨g, 0, none⟩) len c) len (zs.map (.int .u8))) := hown
 clear hown hgrow hnil hb
 go_wp2
 refine bodyPost_ret (v := .agg #[.int .i64 p.src, .int .i64 p.dst, .int .i64 p.kind, .int .i64 p.id, .int .i64 p.hops, .bool p.whole, .int .i64 p.off, .bool p.more, .slice (some ⟨g, 0, none⟩) len c]) (by simp [results, Tryz.results33, go_sem, z0, z1, z2, z3, z4, z5, z6, z7, z8]) rfl ⟨g, c, rfl, ?_, ?_⟩
 ·exact Joins.ownsRow_le (own9 (ownsRow_setCell_below HO.out (by simp) _) (by omega) _ _ _ _ _ _ _ _ _) (by omega)
 ·exact below9 (Below.setCell HB.out (by simp) _) (by omega) _ _ _ _ _ _ _ _ _
set_option maxHeartbeats 800000 in
theorem clone_any (ad : Addr) (len cap : Nat) (zs : List Int) (w : World) (hr : RdB w (some ad) len zs) (hl : len ≤ 1048576) :
  Calls Tryz.prog 94 #[.slice (some ad) len cap] w fun e w' => ∃ g c, e = .returned (.slice (some ⟨g, 0, none⟩) len c) ∧ w'.ownsRow w.heap.size 5 1 (.slice (some ⟨g, 0, none⟩) len c) len (zs.map (.int .u8)) ∧ Below w.heap.size w w' := by
 obtain ⟨i0, hi, hz0, hz1, hz2⟩ := info_parts Tryz.info5
 have hq := fun (w : World) => Lib.run_eql_slice_nil (P := Tryz.prog) w 22 5 (some ad) len cap 0 0 Tryz.underlying22
 go_enter Tryz.func94, Tryz.ntmps94
 go_wp2_with (at_builtin; refine wpList_append_own _ rfl _ _ 22 rfl w.heap.size 5 i0 (.int .u8 0) 1 1 Tryz.underlying22 hi hz0 hz1 hz2 rfl (by decide) (.slice (some ⟨w.heap.size, 0, none⟩) 0 0) 0 [] rfl ?h1 ad len cap (zs.map (.int .u8)) rfl ?h2 ?h3 (one_u8 zs) ?h4 ?h5 ?h6 ?_)
 case h1 => exact own_empty _ _ _ (by simp) (by omega)
 case h2 => simp [hr.1]
 case h3 => exact cells_rdb (hr.below (zBa _ _))
 case h4 => unfold maxLen; omega
 case h5 => omega
 case h6 => simp
 intro v1 w1 hown hgrow hnil
 obtain ⟨g, c, rfl⟩ : ∃ g c, v1 = .slice (some ⟨g, 0, none⟩) len c := by
  rcases Joins.ownsRow_forms hown with h | h
  ·exact absurd h.1 hnil
  ·exact h
 have hb : Below w.heap.size _ w1 := (Below.refl _ _).grown hgrow (by simp) (by intro k hk; simp [Value.ownBlock] at hk; omega)
 have HB : Hid (Below w.heap.size w w1) := (zBa _ _).trans hb
 have HO : Hid (w1.ownsRow w.heap.size 5 1 (.slice (some ⟨g, 0, none⟩) len c) len (zs.map (.int .u8))) := by simpa [Hid] using hown
 clear hown hgrow hnil hb
 go_wp2
 go_ret
 exact ⟨g, c, rfl, HO.out, HB.out⟩
def Pk.kval (p : Pk) (n : Int) : Value := .agg #[.int .i64 p.src, .int .i64 p.dst, .int .i64 p.kind, .int .i64 p.id, .int .i64 p.hops, .bool p.whole, .int .i64 p.off, .bool p.more, .int .i64 n]
set_option maxHeartbeats 400000 in
theorem keyed_any (p : Pk) (a : Option Addr) (len cap : Nat) (w : World) :
  Calls Tryz.prog 61 #[p.val (.slice a len cap)] w fun e w' => e = .returned (p.kval len) ∧ Below w.heap.size w w' := by
 unfold Pk.val Pk.kval
 go_enter Tryz.func61, Tryz.ntmps61
 go_wp2
 exact bodyPost_ret (v := p.kval len) (by simp [results, Tryz.results61, go_sem, Pk.kval]) rfl ⟨rfl, Joins.below_alloc2 _ _ _⟩
set_option maxHeartbeats 400000 in
theorem packetChecks_any (w : World) :
  Calls Tryz.prog 93 #[] w fun e w' => e = .returned (.slice (some ⟨w.heap.size, 0, none⟩) 6 6) ∧
   w' = w.alloc (.cells #[.func (.func 108) #[] #[], .func (.func 109) #[] #[], .func (.func 110) #[] #[], .func (.func 111) #[] #[], .func (.func 112) #[] #[], .func (.func 113) #[] #[]] 148) := by
 go_enter Tryz.func93, Tryz.ntmps93
 go_wp2
 go_ret
 exact ⟨rfl, rfl⟩
set_option maxHeartbeats 400000 in
theorem hops_any (p : Pk) (n : Int) (w : World) :
  Calls Tryz.prog 109 #[p.kval n] w fun e w' => e = .returned (.bool (inB p.hops 1 64)) ∧ Below w.heap.size w w' := by
 unfold Pk.kval
 rw [← clamp_eq p.hops 1 64 (by omega)]
 go_enter Tryz.func109, Tryz.ntmps109
 go_wp2
 go_quiet ((go_at_call 37; exact Calls.quiet_of_same (clamp_any _ _ _ _)))
 go_wp2
 go_ret
 exact ⟨rfl, (zBa _ _).trans (Joins.below_draws _ _ _)⟩
set_option maxHeartbeats 400000 in
theorem begins_any (p : Pk) (n : Int) (w : World) :
  Calls Tryz.prog 110 #[p.kval n] w fun e w' => e = .returned (.bool (inB p.off 0 128 && (p.off.tmod 4 == 0))) ∧ Below w.heap.size w w' := by
 unfold Pk.kval
 rw [← clamp_eq p.off 0 128 (by omega)]
 cases h : (p.off == clampI p.off 0 128)
 all_goals
  go_enter Tryz.func110, Tryz.ntmps110
  go_wp2
  go_quiet ((go_at_call 37; exact Calls.quiet_of_same (clamp_any _ _ _ _)))
  go_wp2
  go_ret
  exact ⟨rfl, (zBa _ _).trans (Joins.below_draws _ _ _)⟩
set_option maxHeartbeats 400000 in
theorem ends_any (p : Pk) (n : Int) (w : World) (h0 : 0 ≤ n) (h1 : n ≤ 1048576) :
  Calls Tryz.prog 111 #[p.kval n] w fun e w' => e = .returned (.bool (decide (n ≤ 128) && decide (p.off ≤ 128 - n))) ∧ Below w.heap.size w w' := by
 unfold Pk.kval
 by_cases h : n ≤ 128
 all_goals
  go_enter Tryz.func111, Tryz.ntmps111
  go_wp2
  go_ret
  refine ⟨ret_bool ?_, zBa _ _⟩
  first | (simp [h]; done) | (simp; intros; omega)
set_option maxHeartbeats 400000 in
theorem leaves_any (p : Pk) (n : Nat) (w : World) (h1 : n ≤ 1048576) :
  Calls Tryz.prog 112 #[p.kval n] w fun e w' => e = .returned (.bool (!p.more || (decide ((0 : Int) < n) && ((n : Int) % 4 == 0)))) ∧ Below w.heap.size w w' := by
 unfold Pk.kval
 go_enter Tryz.func112, Tryz.ntmps112
 go_wp2
 all_goals
  go_ret
  refine ⟨ret_bool ?_, zBa _ _⟩
  first | (simp_all; done) | (simp_all; omega)
set_option maxHeartbeats 400000 in
theorem whole_any (p : Pk) (n : Int) (w : World) :
  Calls Tryz.prog 113 #[p.kval n] w fun e w' => e = .returned (.bool (!p.whole || ((p.off == 0) && !p.more))) ∧ Below w.heap.size w w' := by
 unfold Pk.kval
 go_enter Tryz.func113, Tryz.ntmps113
 go_wp2
 all_goals
  go_ret
  refine ⟨ret_bool ?_, zBa _ _⟩
  first | (simp_all; done) | (simp_all; omega)
set_option maxHeartbeats 1600000 in
theorem nearest_any (s d k i : Int) (w : World) :
  Calls Tryz.prog 117 #[.agg #[.int .i64 s, .int .i64 d, .int .i64 k, .int .i64 i]] w fun e w' => e = .returned (.agg #[.int .i64 (clampI s 0 65535), .int .i64 (clampI d 0 65535), .int .i64 (clampI k 1 7), .int .i64 (clampI i 0 255)]) ∧ Below w.heap.size w w' := by
 go_enter Tryz.func117, Tryz.ntmps117
 go_wp2
 go_region_held3 (fun w' => w'.cell? ⟨w.heap.size, 0, none⟩ = some (.int .i64 s) ∧ w'.cell? ⟨w.heap.size, 1, none⟩ = some (.int .i64 d) ∧ w'.cell? ⟨w.heap.size, 2, none⟩ = some (.int .i64 k) ∧ w'.cell? ⟨w.heap.size, 3, none⟩ = some (.int .i64 i)) (go_keep)
  (first | (go_at_call 37; refine (clamp_any _ _ _ _).mono ?_; rintro e w' ⟨rfl, rfl⟩))
 go_wp2
 exact bodyPost_ret (v := .agg #[.int .i64 (clampI s 0 65535), .int .i64 (clampI d 0 65535), .int .i64 (clampI k 1 7), .int .i64 (clampI i 0 255)]) (by simp [results, Tryz.results117, go_sem]) rfl ⟨rfl, (Joins.below_alloc2 _ _ _).drew⟩
theorem eqg51 (x y : Operand) (xs ys : Array Value) (w : World) : (eqGuard .eql 103 x y (.agg xs) (.agg ys)).run Tryz.prog w = .ok () w := run_eqGuard_agg w .eql 103 x y xs ys (by kernel_rfl)
theorem eql51 (s d k i s' d' k' i' : Int) (w : World) : (binOp .eql 103 (.agg #[.int .i64 s, .int .i64 d, .int .i64 k, .int .i64 i]) (.agg #[.int .i64 s', .int .i64 d', .int .i64 k', .int .i64 i'])).run Tryz.prog w =
  .ok (.bool ((s == s') && (d == d') && (k == k') && (i == i'))) w := by
 rw [run_eql_struct, show (10000 : Nat) = 9999 + 1 from rfl, run_equalIn_agg w 9999 103 _ _ (by kernel_rfl) (by kernel_rfl)]
 go_simp
 by_cases h1 : s = s' <;> by_cases h2 : d = d' <;> by_cases h3 : k = k' <;> by_cases h4 : i = i' <;> simp [h1, h2, h3, h4]
set_option maxHeartbeats 1600000 in
theorem key_any (p : Pk) (n : Int) (w : World) :
  Calls Tryz.prog 108 #[p.kval n] w fun e w' => e = .returned (.bool (inB p.src 0 65535 && inB p.dst 0 65535 && inB p.kind 1 7 && inB p.id 0 255)) ∧ Below w.heap.size w w' := by
 unfold Pk.kval
 rw [← clamp_eq p.src 0 65535 (by omega), ← clamp_eq p.dst 0 65535 (by omega), ← clamp_eq p.kind 1 7 (by omega), ← clamp_eq p.id 0 255 (by omega)]
 have hg := eqg51
 have he := eql51
 go_enter Tryz.func108, Tryz.ntmps108
 go_wp2
 go_region_held3 (fun w' => w.heap.size < w'.heap.size ∧ w'.cell? ⟨w.heap.size, 0, none⟩ = some (.int .i64 p.src) ∧ w'.cell? ⟨w.heap.size, 1, none⟩ = some (.int .i64 p.dst) ∧ w'.cell? ⟨w.heap.size, 2, none⟩ = some (.int .i64 p.kind) ∧ w'.cell? ⟨w.heap.size, 3, none⟩ = some (.int .i64 p.id)) (first | go_keep)
  (first | (go_at_call 117; refine (nearest_any _ _ _ _ _).mono ?_; rintro e w' ⟨rfl, hb⟩; have hsz : w.heap.size < w'.heap.size := Nat.lt_of_lt_of_le (by simp) hb.size; have hc : ∀ b o, b < w.heap.size + 1 → w'.cell? ⟨b, o, none⟩ = _ := fun b o h => hb.cell (p := ⟨b, o, none⟩) (by simpa using h)))
 go_wp2
 go_ret
 exact ⟨rfl, (zBa _ _).drew.trans (hb.mono (by simp))⟩
def chk (p : Pk) (len : Nat) : Nat → Bool
 | 0 => inB p.src 0 65535 && inB p.dst 0 65535 && inB p.kind 1 7 && inB p.id 0 255
 | 1 => inB p.hops 1 64
 | 2 => inB p.off 0 128 && (p.off.tmod 4 == 0)
 | 3 => decide ((len : Int) ≤ 128) && decide (p.off ≤ 128 - (len : Int))
 | 4 => !p.more || (decide ((0 : Int) < len) && ((len : Int) % 4 == 0))
 | _ => !p.whole || ((p.off == 0) && !p.more)
theorem ok_of_all (p : Pk) (len : Nat) (h : ∀ j, j < 6 → chk p len j = true) : okB p len = true := by
 rw [← okS_eq]
 have h0 := h 0 (by omega)
 have h1 := h 1 (by omega)
 have h2 := h 2 (by omega)
 have h3 := h 3 (by omega)
 have h4 := h 4 (by omega)
 have h5 := h 5 (by omega)
 rw [okS_eq]
 simp only [chk, inB, Bool.and_eq_true, Bool.or_eq_true, decide_eq_true_eq, beq_iff_eq, Bool.not_eq_true'] at h0 h1 h2 h3 h4 h5
 have e := Int.tmod_eq_emod_of_nonneg (b := 4) h2.1.1
 simp only [okB, headB, offB, moreB, wholeB, inB, Bool.and_eq_true, Bool.or_eq_true, decide_eq_true_eq, beq_iff_eq, Bool.not_eq_true', beq_eq_false_iff_ne]
 rw [e] at h2
 refine ⟨⟨⟨⟨⟨⟨⟨?_, ?_⟩, ?_⟩, ?_⟩, ?_⟩, ⟨⟨?_, ?_⟩, ?_⟩⟩, ?_⟩, ?_⟩
 all_goals first | omega | exact h5 | skip
 rcases h4 with h4 | h4
 ·exact Or.inl h4
 ·exact Or.inr ⟨by omega, h4.2⟩
theorem not_of_one (p : Pk) (len j : Nat) (hj : j < 6) (h : chk p len j = false) : okB p len = false := by
 cases hk : okB p len with
 | false => rfl
 | true =>
  exfalso
  simp only [okB, headB, offB, moreB, wholeB, inB, Bool.and_eq_true, Bool.or_eq_true, decide_eq_true_eq, beq_iff_eq, Bool.not_eq_true', beq_eq_false_iff_ne] at hk
  obtain ⟨⟨⟨⟨⟨⟨⟨a1, a2⟩, a3⟩, a4⟩, a5⟩, ⟨⟨a6, a7⟩, a8⟩⟩, a9⟩, a10⟩ := hk
  have e := Int.tmod_eq_emod_of_nonneg (b := 4) a6.1
  have ht : chk p len j = true := by
   match j, hj with
   | 0, _ => simp [chk, inB, a1, a2, a3, a4]
   | 1, _ => simp [chk, inB, a5]
   | 2, _ => simp [chk, inB, a6, e, a7]
   | 3, _ => simp [chk]; omega
   | 4, _ =>
    simp only [chk, Bool.or_eq_true, Bool.not_eq_true', Bool.and_eq_true, decide_eq_true_eq, beq_iff_eq]
    rcases a9 with a9 | a9
    ·exact Or.inl a9
    ·exact Or.inr ⟨by omega, a9.2⟩
   | 5, _ => simpa [chk] using a10
  rw [ht] at h
  cases h
theorem chk0 (p : Pk) (len : Nat) (w : World) : Calls Tryz.prog 108 #[p.kval len] w fun e w' => e = .returned (.bool (chk p len 0)) ∧ Below w.heap.size w w' := key_any p len w
theorem chk1 (p : Pk) (len : Nat) (w : World) : Calls Tryz.prog 109 #[p.kval len] w fun e w' => e = .returned (.bool (chk p len 1)) ∧ Below w.heap.size w w' := hops_any p len w
theorem chk2 (p : Pk) (len : Nat) (w : World) : Calls Tryz.prog 110 #[p.kval len] w fun e w' => e = .returned (.bool (chk p len 2)) ∧ Below w.heap.size w w' := begins_any p len w
theorem chk3 (p : Pk) (len : Nat) (w : World) (hl : len ≤ 1048576) : Calls Tryz.prog 111 #[p.kval len] w fun e w' => e = .returned (.bool (chk p len 3)) ∧ Below w.heap.size w w' := ends_any p len w (by omega) (by omega)
theorem chk4 (p : Pk) (len : Nat) (w : World) (hl : len ≤ 1048576) : Calls Tryz.prog 112 #[p.kval len] w fun e w' => e = .returned (.bool (chk p len 4)) ∧ Below w.heap.size w w' := leaves_any p len w hl
theorem chk5 (p : Pk) (len : Nat) (w : World) : Calls Tryz.prog 113 #[p.kval len] w fun e w' => e = .returned (.bool (chk p len 5)) ∧ Below w.heap.size w w' := whole_any p len w
def kcells (p : Pk) (len : Nat) : Array Value := #[.int .i64 p.src, .int .i64 p.dst, .int .i64 p.kind, .int .i64 p.id, .int .i64 p.hops, .bool p.whole, .int .i64 p.off, .bool p.more, .int .i64 len]
def sixF : Array Value := #[.func (.func 108) #[] #[], .func (.func 109) #[] #[], .func (.func 110) #[] #[], .func (.func 111) #[] #[], .func (.func 112) #[] #[], .func (.func 113) #[] #[]]
def headW (w1 : World) (p : Pk) (len : Nat) : World := (w1.alloc (.cells (kcells p len) 105)).alloc (.cells sixF 148)
theorem headW_size (w1 : World) (p : Pk) (len : Nat) : (headW w1 p len).heap.size = w1.heap.size + 2 := by simp [headW]
theorem headW_k {w1 wr : World} {p : Pk} {len j : Nat} {v : Value} (hb : Below (w1.heap.size + 2) (headW w1 p len) wr) (h : (kcells p len)[j]? = some v) : wr.cell? ⟨w1.heap.size, j, none⟩ = some v := by
 rw [hb.cell (p := ⟨w1.heap.size, j, none⟩) (by simp), headW, World.cell?_alloc_past _ _ _ (by simp), World.cell?_alloc_at _ _ _ _ rfl, h]
theorem headW_f {w1 wr : World} {p : Pk} {len j : Nat} {v : Value} (hb : Below (w1.heap.size + 2) (headW w1 p len) wr) (h : sixF[j]? = some v) : wr.cell? ⟨w1.heap.size + 1, j, none⟩ = some v := by
 rw [hb.cell (p := ⟨w1.heap.size + 1, j, none⟩) (by simp), headW, World.cell?_alloc_at _ _ _ _ (by simp), h]
theorem upto_succ {p : Pk} {len k : Nat} (h : ∀ j, j < k → chk p len j = true) (hk : chk p len k = true) : ∀ j, j < k + 1 → chk p len j = true := fun j hj => by
 rcases Nat.lt_or_ge j k with h' | h'
 ·exact h j h'
 ·obtain rfl : j = k := by omega
  exact hk
set_option maxHeartbeats 3200000 in
theorem implOk_any (p : Pk) (a : Option Addr) (len cap : Nat) (w : World) (hl : len ≤ 1048576) :
  Calls Tryz.prog 67 #[p.val (.slice a len cap)] w fun e w' => e = .returned (.bool (okB p len)) ∧ Below w.heap.size w w' := by
 unfold Pk.val
 go_enter Tryz.func67, Tryz.ntmps67
 go_wp2_with fail
 refine (keyed_any p a len cap _).mono ?_
 rintro e w1 ⟨rfl, hb1⟩
 have HB : Hid (Below w.heap.size w w1) := (zBa _ _).trans (hb1.mono (by simp))
 have hs1 : w.heap.size < w1.heap.size := Nat.lt_of_lt_of_le (by simp) hb1.size
 clear hb1
 unfold Pk.kval
 go_wp2_with fail
 refine (packetChecks_any _).mono ?_
 rintro e w2 ⟨rfl, rfl⟩
 go_wp2
 go_loopw [10] (fun i wr => ∃ k : Nat, k ≤ 6 ∧ i = .int .i64 k ∧ Hid (∀ j, j < k → chk p len j = true) ∧ Hid (Below (w1.heap.size + 2) (headW w1 p len) wr)) (fun i _ => 6 - (intOf i).toNat)
 case atStart => exact ⟨0, by omega, rfl, fun j hj => by omega, Below.refl _ _⟩
 case round =>
  obtain ⟨k, hk, rfl, HC, HW⟩ := hrel
  have c0 := headW_k HW.out (j := 0) (v := .int .i64 p.src) rfl
  have c1 := headW_k HW.out (j := 1) (v := .int .i64 p.dst) rfl
  have c2 := headW_k HW.out (j := 2) (v := .int .i64 p.kind) rfl
  have c3 := headW_k HW.out (j := 3) (v := .int .i64 p.id) rfl
  have c4 := headW_k HW.out (j := 4) (v := .int .i64 p.hops) rfl
  have c5 := headW_k HW.out (j := 5) (v := .bool p.whole) rfl
  have c6 := headW_k HW.out (j := 6) (v := .int .i64 p.off) rfl
  have c7 := headW_k HW.out (j := 7) (v := .bool p.more) rfl
  have c8 := headW_k HW.out (j := 8) (v := .int .i64 len) rfl
  have hsr : w1.heap.size + 2 ≤ wr.heap.size := by have := HW.out.size; rw [headW_size] at this; exact this
  have hlt1 : w1.heap.size < wr.heap.size := by omega
  have hlt2 : w1.heap.size + 1 < wr.heap.size := by omega
  have fin : ∀ wx : World, Below (w1.heap.size + 2) (headW w1 p len) wx → Below w.heap.size w wx := fun wx h =>
   ((HB.out.alloc (by omega) _).alloc (by simp; omega) _).trans (h.mono (by omega))
  have FIN := (show Hid (∀ wx : World, Below (w1.heap.size + 2) (headW w1 p len) wx → Below w.heap.size w wx) from fin)
  clear fin
  rcases (show k = 0 ∨ k = 1 ∨ k = 2 ∨ k = 3 ∨ k = 4 ∨ k = 5 ∨ k = 6 from by omega) with rfl | rfl | rfl | rfl | rfl | rfl | rfl
  ·have f := headW_f HW.out (j := 0) (v := .func (.func 108) #[] #[]) rfl
   cases hv : chk p len 0
   ·have HN : Hid (okB p len = false) := not_of_one p len 0 (by omega) hv
    go_wp2_with (go_at_call 108; refine (chk0 p len _).mono ?_; rintro e w' ⟨rfl, hb⟩)
    go_ret
    exact ⟨ret_bool HN.out.symm, FIN.out _ ((HW.out.alloc hsr _).trans (hb.mono (by simp; omega)))⟩
   ·go_wp2_with (go_at_call 108; refine (chk0 p len _).mono ?_; rintro e w' ⟨rfl, hb⟩)
    go_roundw
    case rel => exact ⟨1, by omega, rfl, upto_succ HC.out hv, (HW.out.alloc hsr _).trans (hb.mono (by simp; omega))⟩
    case measure => simp [intOf]
  ·have f := headW_f HW.out (j := 1) (v := .func (.func 109) #[] #[]) rfl
   cases hv : chk p len 1
   ·have HN : Hid (okB p len = false) := not_of_one p len 1 (by omega) hv
    go_wp2_with (go_at_call 109; refine (chk1 p len _).mono ?_; rintro e w' ⟨rfl, hb⟩)
    go_ret
    exact ⟨ret_bool HN.out.symm, FIN.out _ ((HW.out.alloc hsr _).trans (hb.mono (by simp; omega)))⟩
   ·go_wp2_with (go_at_call 109; refine (chk1 p len _).mono ?_; rintro e w' ⟨rfl, hb⟩)
    go_roundw
    case rel => exact ⟨2, by omega, rfl, upto_succ HC.out hv, (HW.out.alloc hsr _).trans (hb.mono (by simp; omega))⟩
    case measure => simp [intOf]
  ·have f := headW_f HW.out (j := 2) (v := .func (.func 110) #[] #[]) rfl
   cases hv : chk p len 2
   ·have HN : Hid (okB p len = false) := not_of_one p len 2 (by omega) hv
    go_wp2_with (go_at_call 110; refine (chk2 p len _).mono ?_; rintro e w' ⟨rfl, hb⟩)
    go_ret
    exact ⟨ret_bool HN.out.symm, FIN.out _ ((HW.out.alloc hsr _).trans (hb.mono (by simp; omega)))⟩
   ·go_wp2_with (go_at_call 110; refine (chk2 p len _).mono ?_; rintro e w' ⟨rfl, hb⟩)
    go_roundw
    case rel => exact ⟨3, by omega, rfl, upto_succ HC.out hv, (HW.out.alloc hsr _).trans (hb.mono (by simp; omega))⟩
    case measure => simp [intOf]
  ·have f := headW_f HW.out (j := 3) (v := .func (.func 111) #[] #[]) rfl
   cases hv : chk p len 3
   ·have HN : Hid (okB p len = false) := not_of_one p len 3 (by omega) hv
    go_wp2_with (go_at_call 111; refine (chk3 p len _ hl).mono ?_; rintro e w' ⟨rfl, hb⟩)
    go_ret
    exact ⟨ret_bool HN.out.symm, FIN.out _ ((HW.out.alloc hsr _).trans (hb.mono (by simp; omega)))⟩
   ·go_wp2_with (go_at_call 111; refine (chk3 p len _ hl).mono ?_; rintro e w' ⟨rfl, hb⟩)
    go_roundw
    case rel => exact ⟨4, by omega, rfl, upto_succ HC.out hv, (HW.out.alloc hsr _).trans (hb.mono (by simp; omega))⟩
    case measure => simp [intOf]
  ·have f := headW_f HW.out (j := 4) (v := .func (.func 112) #[] #[]) rfl
   cases hv : chk p len 4
   ·have HN : Hid (okB p len = false) := not_of_one p len 4 (by omega) hv
    go_wp2_with (go_at_call 112; refine (chk4 p len _ hl).mono ?_; rintro e w' ⟨rfl, hb⟩)
    go_ret
    exact ⟨ret_bool HN.out.symm, FIN.out _ ((HW.out.alloc hsr _).trans (hb.mono (by simp; omega)))⟩
   ·go_wp2_with (go_at_call 112; refine (chk4 p len _ hl).mono ?_; rintro e w' ⟨rfl, hb⟩)
    go_roundw
    case rel => exact ⟨5, by omega, rfl, upto_succ HC.out hv, (HW.out.alloc hsr _).trans (hb.mono (by simp; omega))⟩
    case measure => simp [intOf]
  ·have f := headW_f HW.out (j := 5) (v := .func (.func 113) #[] #[]) rfl
   cases hv : chk p len 5
   ·have HN : Hid (okB p len = false) := not_of_one p len 5 (by omega) hv
    go_wp2_with (go_at_call 113; refine (chk5 p len _).mono ?_; rintro e w' ⟨rfl, hb⟩)
    go_ret
    exact ⟨ret_bool HN.out.symm, FIN.out _ ((HW.out.alloc hsr _).trans (hb.mono (by simp; omega)))⟩
   ·go_wp2_with (go_at_call 113; refine (chk5 p len _).mono ?_; rintro e w' ⟨rfl, hb⟩)
    go_roundw
    case rel => exact ⟨6, by omega, rfl, upto_succ HC.out hv, (HW.out.alloc hsr _).trans (hb.mono (by simp; omega))⟩
    case measure => simp [intOf]
  ·go_wp2
   go_ret
   exact ⟨ret_bool (ok_of_all p len HC.out).symm, FIN.out _ HW.out⟩
set_option maxHeartbeats 800000 in
theorem copyPacket_any (p : Pk) (ad : Addr) (len cap : Nat) (zs : List Int) (w : World) (hr : RdB w (some ad) len zs) (hl : len ≤ 1048576) :
  Calls Tryz.prog 68 #[p.val (.slice (some ad) len cap)] w fun e w' => ∃ g c, e = .returned (p.val (.slice (some ⟨g, 0, none⟩) len c)) ∧ w'.ownsRow w.heap.size 5 1 (.slice (some ⟨g, 0, none⟩) len c) len (zs.map (.int .u8)) ∧ Below w.heap.size w w' := by
 unfold Pk.val
 go_enter Tryz.func68, Tryz.ntmps68
 go_wp2_with fail
 refine (clone_any ad len cap zs _ (hr.below (Joins.below_alloc2 _ _ _)) hl).mono ?_
 rintro e w1 ⟨g, c, rfl, hown, hb⟩
 have hf := (bcell hb).2
 have X : Boxed w1 w.heap.size p (.slice (some ad) len cap) := ((Boxed.new w p (.slice (some ad) len cap) 29).below (zBa _ _)).below hb
 have Z : Boxed w1 (w.heap.size + 1) zeroPk (.slice none 0 0) := (Boxed.newAt (w.alloc _) (w.heap.size + 1) zeroPk (.slice none 0 0) 29 (by simp)).below hb
 have HB : Hid (Below w.heap.size w w1) := (Joins.below_alloc2 _ _ _).trans (hb.mono (by simp; omega))
 have HO : Hid (w1.ownsRow (w.heap.size + 2) 5 1 (.slice (some ⟨g, 0, none⟩) len c) len (zs.map (.int .u8))) := Joins.ownsRow_le hown (by simp)
 obtain ⟨hlt0, c0, c1, c2, c3, c4, c5, c6, c7, c8⟩ := X
 obtain ⟨hlt1, z0, z1, z2, z3, z4, z5, z6, z7, z8⟩ := Z
 have hf0 : ∀ o, w1.frozen? ⟨w.heap.size, o, none⟩ = false := fun o => by rw [hf _ _ (by simp; omega)]; go_simp
 have hf1 : ∀ o, w1.frozen? ⟨w.heap.size + 1, o, none⟩ = false := fun o => by rw [hf _ _ (by simp)]; go_simp
 clear hown hb hf
 go_wp2
 refine bodyPost_ret (v := .agg #[.int .i64 p.src, .int .i64 p.dst, .int .i64 p.kind, .int .i64 p.id, .int .i64 p.hops, .bool p.whole, .int .i64 p.off, .bool p.more, .slice (some ⟨g, 0, none⟩) len c]) (by simp [results, Tryz.results68, go_sem, z0, z1, z2, z3, z4, z5, z6, z7, z8]) rfl ⟨g, c, rfl, ?_, ?_⟩
 ·exact Joins.ownsRow_le (own9 (ownsRow_setCell_below HO.out (by simp) _) (by omega) _ _ _ _ _ _ _ _ _) (by omega)
 ·exact below9 (Below.setCell HB.out (by simp) _) (by omega) _ _ _ _ _ _ _ _ _
end Go.Proofs.YtjbkgmbakjnlhaaGreatDoor
