/- Benches compared. -/
import Derived.Test.YtjbkgmbakjnlhabGreatDoorPartAd
import Derived.Test.YtjbkgmbakjnlhabGreatDoorPartAa
import Derived.Laws.AppendOwnNone
import Derived.Deep.RegionHeld3
namespace Go.Proofs.YtjbkgmbakjnlhabGreatDoor
set_option maxRecDepth 100000
open Go.RowKit

/-- a slot's cells at its place in a list -/
structure SElem (w : World) (g k : Nat) (y : SV) : Prop where
  e0 : w.cell? ⟨g, k * 3, none⟩ = some (.slice y.a y.xs.length y.c)
  e1 : w.cell? ⟨g, k * 3 + 1, none⟩ = some (.int .i64 y.since)
  e2 : w.cell? ⟨g, k * 3 + 2, none⟩ = some (.bool y.bad)
theorem SElem.upto {w w' : World} {B g k : Nat} {y : SV} (h : SElem w g k y) (hb : Below B w w') (hB : g < B) : SElem w' g k y :=
  have e : ∀ o, w'.cell? ⟨g, o, none⟩ = w.cell? ⟨g, o, none⟩ := fun o => hb.cell (p := ⟨g, o, none⟩) hB
  ⟨(e _).trans h.e0, (e _).trans h.e1, (e _).trans h.e2⟩
/-- a slot's pieces can be read -/
structure SOk (w : World) (x : SV) : Prop where
  at_ : ∃ gL, x.a = some ⟨gL, 0, none⟩ ∧ RL w gL x.xs
  len : x.xs.length ≤ 1048576
  cap : x.xs.length ≤ x.c
  capM : x.c ≤ 9223372036854775807
theorem SOk.below {w w' : World} {x : SV} (h : SOk w x) (hb : Below w.heap.size w w') : SOk w' x := by
  obtain ⟨gL, h1, h2⟩ := h.at_
  exact ⟨⟨gL, h1, h2.below hb⟩, h.len, h.cap, h.capM⟩
/-- a list of slots can be read -/
structure SL (w : World) (g : Nat) (ss : List SV) : Prop where
  lt : g < w.heap.size
  elem : ∀ k x, ss[k]? = some x → SElem w g k x
  each : ∀ x ∈ ss, SOk w x
theorem SL.below {w w' : World} {g : Nat} {xs : List SV} (h : SL w g xs) (hb : Below w.heap.size w w') : SL w' g xs :=
  ⟨Nat.lt_of_lt_of_le h.lt hb.size, fun k x hx => (h.elem k x hx).upto hb h.lt, fun x hx => (h.each x hx).below hb⟩
theorem SB.sl {w : World} {lo gS n : Nat} {ts : List SV} (h : SB w lo gS n ts) : SL w gS ts := by
  refine ⟨h.lt, fun k x hx => ?_, fun y hy => ?_⟩
  · obtain ⟨cur, hc, _, r⟩ := h.blk
    have e : ∀ j, j < 3 → w.cell? ⟨gS, k * 3 + j, none⟩ = (scells (.slice x.a x.xs.length x.c) x.since x.bad)[j]? := fun j hj => by rw [cell_of_row _ _ _ _ _ _ hc]; exact r k x hx j hj
    exact ⟨e 0 (by omega), e 1 (by omega), e 2 (by omega)⟩
  · obtain ⟨gL, h1, h2, h3, h4⟩ := h.each y hy
    exact ⟨⟨gL, h1, h3.rl⟩, h4, by omega, by omega⟩

set_option maxRecDepth 100000 in
set_option maxHeartbeats 3200000 in
theorem eqFragSlot_same (x y : SV) (w : World) (hx : SOk w x) (hy : SOk w y) (hk : y.xs.map RV.key = x.xs.map RV.key) :
    Calls Tryz.prog 59 #[.agg #[.slice x.a x.xs.length x.c, .int .i64 x.since, .bool x.bad], .agg #[.slice y.a x.xs.length y.c, .int .i64 x.since, .bool x.bad]] w fun e w' => e = .returned (.bool true) ∧ Below w.heap.size w w' := by
  have KE : Hid (∀ W : World, Below w.heap.size w W → Calls Tryz.prog 87 #[.slice x.a x.xs.length x.c, .slice y.a x.xs.length y.c] W fun e w' => e = .returned (.bool true) ∧ Below W.heap.size W w') := fun W h => by
    obtain ⟨gx, hx1, hx2⟩ := hx.at_
    obtain ⟨gy, hy1, hy2⟩ := hy.at_
    rw [hx1, hy1]
    exact eqFragPacketS_same gx gy x.c y.c x.xs y.xs W (hx2.below h) (hy2.below h) hk hx.len
  have hne : ∀ z : Int, (z != z) = false := fun z => by simp
  have hnb : ∀ z : Bool, (z != z) = false := fun z => by simp
  clear hx hy hk
  go_enter Tryz.func59, Tryz.ntmps59
  go_wp2_with fail
  refine (KE.out _ (Joins.below_alloc2 _ _ _)).mono ?_
  rintro e w1 ⟨rfl, b1⟩
  obtain ⟨hc, hf⟩ := bcell b1
  have z1 : w1.cell? ⟨w.heap.size, 1, none⟩ = some (.int .i64 x.since) := (hc _ _ (by simp; omega)).trans (by go_simp)
  have z2 : w1.cell? ⟨w.heap.size, 2, none⟩ = some (.bool x.bad) := (hc _ _ (by simp; omega)).trans (by go_simp)
  have y1 : w1.cell? ⟨w.heap.size + 1, 1, none⟩ = some (.int .i64 x.since) := (hc _ _ (by simp)).trans (by go_simp)
  have y2 : w1.cell? ⟨w.heap.size + 1, 2, none⟩ = some (.bool x.bad) := (hc _ _ (by simp)).trans (by go_simp)
  have B1 : Hid (Below w.heap.size w w1) := (Joins.below_alloc2 _ _ _).trans (b1.mono (by simp; omega))
  have s1 := b1.size
  clear b1 hc hf
  go_wp2
  go_ret
  exact ⟨rfl, B1.out⟩

set_option maxRecDepth 100000 in
set_option maxHeartbeats 6400000 in
theorem eqFragSlotS_same (g g' cl cl' : Nat) (xs ys : List SV) (w : World) (hL : SL w g xs) (hL' : SL w g' ys) (hk : ys.map SV.key = xs.map SV.key) (hm : xs.length ≤ 1048576) :
    Calls Tryz.prog 34 #[.slice (some ⟨g, 0, none⟩) xs.length cl, .slice (some ⟨g', 0, none⟩) xs.length cl'] w fun e w' => e = .returned (.bool true) ∧ Below w.heap.size w w' := by
  have HL : Hid (SL w g xs) := hL
  have HL' : Hid (SL w g' ys) := hL'
  have HK : Hid (ys.map SV.key = xs.map SV.key) := hk
  have hne : ((xs.length : Int) != (xs.length : Int)) = false := by simp
  clear hL hL' hk
  go_enter Tryz.func34, Tryz.ntmps34
  go_wp2
  go_loopw [5] (fun i wr => ∃ k : Nat, k ≤ xs.length ∧ i = .int .i64 k ∧ Hid (Below w.heap.size w wr)) (fun i _ => xs.length - (intOf i).toNat)
  case atStart => exact ⟨0, by omega, rfl, Below.refl _ _⟩
  case round =>
    obtain ⟨k, hk, rfl, HB⟩ := hrel
    have hsz := HB.out.size
    by_cases hlt : k < xs.length
    · obtain ⟨x, hx⟩ := get_of_lt hlt
      have hyl : ys.length = xs.length := by have := congrArg List.length HK.out; simpa using this
      obtain ⟨y, hy⟩ := get_of_lt (show k < ys.length by omega)
      have hkey : y.key = x.key := by
        have h := congrArg (fun l => l[k]?) HK.out
        simp only [List.getElem?_map, hx, hy, Option.map_some] at h
        exact Option.some.inj h
      have hp : y.xs.map RV.key = x.xs.map RV.key := congrArg Prod.fst hkey
      have hl : y.xs.length = x.xs.length := by have := congrArg List.length hp; simpa using this
      have hs : y.since = x.since := congrArg (fun t => t.2.1) hkey
      have hb : y.bad = x.bad := congrArg (fun t => t.2.2) hkey
      have Lr := HL.out.below HB.out
      have Lr' := HL'.out.below HB.out
      have hi : (k : Int) < (xs.length : Int) := by omega
      obtain ⟨c0, c1, c2⟩ := Lr.elem k x hx
      have RX : Hid (SOk wr x) := Lr.each x (List.mem_of_getElem? hx)
      have RY : Hid (SOk wr y) := Lr'.each y (List.mem_of_getElem? hy)
      have HP : Hid (y.xs.map RV.key = x.xs.map RV.key) := hp
      obtain ⟨k0, k1, k2⟩ := Lr'.elem k y hy
      rw [hl] at k0
      rw [hs] at k1
      rw [hb] at k2
      have hgr := Lr.lt
      have hgr' := Lr'.lt
      have KE : Hid (∀ W : World, Below wr.heap.size wr W → Calls Tryz.prog 59 #[.agg #[.slice x.a x.xs.length x.c, .int .i64 x.since, .bool x.bad], .agg #[.slice y.a x.xs.length y.c, .int .i64 x.since, .bool x.bad]] W fun e w' => e = .returned (.bool true) ∧ Below W.heap.size W w') := fun W h => eqFragSlot_same x y W (RX.out.below h) (RY.out.below h) HP.out
      clear hx hy Lr Lr' hkey hp hs hb hl
      go_wp2
      go_region_held3 (fun w' => w'.cell? ⟨g, k * 3, none⟩ = some (.slice x.a x.xs.length x.c) ∧ w'.cell? ⟨g, k * 3 + 1, none⟩ = some (.int .i64 x.since) ∧ w'.cell? ⟨g, k * 3 + 2, none⟩ = some (.bool x.bad) ∧ w'.cell? ⟨g', k * 3, none⟩ = some (.slice y.a x.xs.length y.c) ∧ w'.cell? ⟨g', k * 3 + 1, none⟩ = some (.int .i64 x.since) ∧ w'.cell? ⟨g', k * 3 + 2, none⟩ = some (.bool x.bad)) (go_keep)
        (first
          | (go_at_call 59; (with_reducible refine (KE.out _ (draw1 _)).mono ?_); rintro e w1 ⟨rfl, b1⟩; have hc1 : ∀ b o, b < wr.heap.size → w1.cell? ⟨b, o, none⟩ = wr.cell? ⟨b, o, none⟩ := fun b o h => b1.cell (p := ⟨b, o, none⟩) h))
      go_wp2
      go_roundw
      case rel => exact ⟨k + 1, by omega, by go_num, HB.out.drew.trans (b1.mono hsz)⟩
      case measure => simp [intOf]; omega
    · go_wp2
      go_ret
      exact ⟨rfl, HB.out⟩

set_option maxRecDepth 100000 in
set_option maxHeartbeats 3200000 in
theorem eqFragBench_same (now : Int) (g g' cl cl' : Nat) (xs ys : List SV) (w : World) (hL : SL w g xs) (hL' : SL w g' ys) (hk : ys.map SV.key = xs.map SV.key) (hm : xs.length ≤ 1048576) :
    Calls Tryz.prog 11 #[.agg #[.int .i64 now, .slice (some ⟨g, 0, none⟩) xs.length cl], .agg #[.int .i64 now, .slice (some ⟨g', 0, none⟩) xs.length cl']] w fun e w' => e = .returned (.bool true) ∧ Below w.heap.size w w' := by
  have KE : Hid (∀ W : World, Below w.heap.size w W → Calls Tryz.prog 34 #[.slice (some ⟨g, 0, none⟩) xs.length cl, .slice (some ⟨g', 0, none⟩) xs.length cl'] W fun e w' => e = .returned (.bool true) ∧ Below W.heap.size W w') := fun W h => eqFragSlotS_same g g' cl cl' xs ys W (hL.below h) (hL'.below h) hk hm
  have hne : ∀ z : Int, (z != z) = false := fun z => by simp
  clear hL hL' hk
  go_enter Tryz.func11, Tryz.ntmps11
  go_wp2_with fail
  refine (KE.out _ (Joins.below_alloc2 _ _ _)).mono ?_
  rintro e w1 ⟨rfl, b1⟩
  have B1 : Hid (Below w.heap.size w w1) := (Joins.below_alloc2 _ _ _).trans (b1.mono (by simp; omega))
  clear b1
  go_wp2
  go_ret
  exact ⟨rfl, B1.out⟩
end Go.Proofs.YtjbkgmbakjnlhabGreatDoor

/- Contracts of the two copies of a packet, and of the two FragHop. -/
namespace Go.Proofs.YtjbkgmbakjnlhabGreatDoor
set_option maxRecDepth 100000
open Go.RowKit

theorem add_none (b off j : Nat) : (Addr.mk b off none).add j = ⟨b, off + j, none⟩ := by
  unfold Addr.add
  split <;> simp_all
theorem cells_rdb {w : World} {ad : Addr} {len : Nat} {zs : List Int} (hr : RdB w (some ad) len zs) : ∀ j u, (zs.map (Value.int .u8))[j]? = some u → w.cell? (ad.add j) = some u := by
  intro j u hu
  obtain ⟨hz, h0 | ⟨b, off, ha, _, hc⟩⟩ := hr
  · subst hz
    rw [List.length_eq_zero_iff.1 h0] at hu
    simp at hu
  · cases ha
    have hj : j < zs.length := by
      rcases Nat.lt_or_ge j zs.length with h | h
      · exact h
      · rw [List.getElem?_eq_none (by simpa using h)] at hu; cases hu
    have := hc j (by omega)
    simp [List.getElem?_eq_getElem hj] at hu
    subst hu
    have h2 : w.cell? ⟨b, off + j, none⟩ = some (.int .u8 zs[j]) := by simpa [List.getD, List.getElem?_eq_getElem hj] using this
    rw [add_none]
    exact h2
theorem own_empty (w : World) (n base : Nat) (h : n = w.heap.size) (hb : base ≤ n) : (w.alloc (.cells #[] 5)).ownsRow base 5 1 (.slice (some ⟨n, 0, none⟩) 0 0) 0 [] :=
  ⟨rfl, Or.inr ⟨n, 0, #[], rfl, hb, heap_new _ _ _ h, Nat.le_refl _, by unfold maxLen; omega, rfl, rfl⟩⟩
theorem one_u8 (zs : List Int) : ∀ u ∈ zs.map (Value.int .u8), u.oneCell' = true := by
  intro u hu
  obtain ⟨x, _, rfl⟩ := List.mem_map.1 hu
  rfl

set_option maxHeartbeats 800000 in
theorem l1Copy_any (p : Pk) (ad : Addr) (len cap : Nat) (zs : List Int) (w : World) (hr : RdB w (some ad) len zs) (hl : len ≤ 1048576) :
    Calls Tryz.prog 24 #[p.val (.slice (some ad) len cap)] w fun e w' => ∃ g c, e = .returned (p.val (.slice (some ⟨g, 0, none⟩) len c)) ∧ w'.ownsRow w.heap.size 5 1 (.slice (some ⟨g, 0, none⟩) len c) len (zs.map (.int .u8)) ∧ Below w.heap.size w w' := by
  unfold Pk.val
  obtain ⟨i0, hi, hz0, hz1, hz2⟩ := info_parts Tryz.info5
  go_enter Tryz.func24, Tryz.ntmps24
  go_wp2_with (at_builtin; refine wpList_append_own _ rfl _ _ 25 rfl (w.heap.size + 2) 5 i0 (.int .u8 0) 1 1 Tryz.underlying25 hi hz0 hz1 hz2 rfl (by decide) (.slice (some ⟨w.heap.size + 2, 0, none⟩) 0 0) 0 [] rfl ?h1 ad len cap (zs.map (.int .u8)) rfl ?h2 ?h3 (one_u8 zs) ?h4 ?h5 ?h6 ?_)
  case h1 => exact own_empty _ _ _ (by simp) (by omega)
  case h2 => simp [hr.1]
  case h3 => exact cells_rdb (hr.below (Joins.below_alloc3 _ _ _ _))
  case h4 => unfold maxLen; omega
  case h5 => omega
  case h6 => simp
  intro v1 w1 hown hgrow hnil
  obtain ⟨g, c, rfl⟩ : ∃ g c, v1 = .slice (some ⟨g, 0, none⟩) len c := by
    rcases Joins.ownsRow_forms hown with h | h
    · exact absurd h.1 hnil
    · exact h
  have hb : Below (w.heap.size + 2) _ w1 := (Below.refl _ _).grown hgrow (by simp) (by intro k hk; simp [Value.ownBlock] at hk; omega)
  have hlt : w.heap.size + 2 < w1.heap.size := Nat.lt_of_lt_of_le (by simp) hb.size
  have hlt0 : w.heap.size < w1.heap.size := by omega
  have hlt1 : w.heap.size + 1 < w1.heap.size := by omega
  have hf := (bcell hb).2
  have X : Boxed w1 w.heap.size p (.slice (some ad) len cap) := (((Boxed.new w p (.slice (some ad) len cap) 33).below (Joins.below_alloc1 _ _)).below (Joins.below_alloc1 _ _)).upto hb (by omega)
  have Z : Boxed w1 (w.heap.size + 1) zeroPk (.slice none 0 0) := ((Boxed.newAt (w.alloc _) (w.heap.size + 1) zeroPk (.slice none 0 0) 33 (by simp)).below (Joins.below_alloc1 _ _)).upto hb (by omega)
  obtain ⟨_, c0, c1, c2, c3, c4, c5, c6, c7, c8⟩ := X
  obtain ⟨_, z0, z1, z2, z3, z4, z5, z6, z7, z8⟩ := Z
  have HB : Hid (Below w.heap.size w w1) := (Joins.below_alloc3 _ _ _ _).trans (hb.mono (by omega))
  have HO : Hid (w1.ownsRow (w.heap.size + 2) 5 1 (.slice (some ⟨g, 0, none⟩) len c) len (zs.map (.int .u8))) := hown
  clear hown hgrow hnil hb
  go_wp2
  refine bodyPost_ret (v := .agg #[.int .i64 p.src, .int .i64 p.dst, .int .i64 p.kind, .int .i64 p.id, .int .i64 p.hops, .bool p.whole, .int .i64 p.off, .bool p.more, .slice (some ⟨g, 0, none⟩) len c]) (by simp [results, Tryz.results24, go_sem, z0, z1, z2, z3, z4, z5, z6, z7, z8]) rfl ⟨g, c, rfl, ?_, ?_⟩
  · exact Joins.ownsRow_le (own9 (ownsRow_setCell_below HO.out (by simp) _) (by omega) _ _ _ _ _ _ _ _ _) (by omega)
  · exact below9 (Below.setCell HB.out (by simp) _) (by omega) _ _ _ _ _ _ _ _ _

set_option maxHeartbeats 800000 in
theorem clone_any (ad : Addr) (len cap : Nat) (zs : List Int) (w : World) (hr : RdB w (some ad) len zs) (hl : len ≤ 1048576) :
    Calls Tryz.prog 81 #[.slice (some ad) len cap] w fun e w' => ∃ g c, e = .returned (.slice (some ⟨g, 0, none⟩) len c) ∧ w'.ownsRow w.heap.size 5 1 (.slice (some ⟨g, 0, none⟩) len c) len (zs.map (.int .u8)) ∧ Below w.heap.size w w' := by
  obtain ⟨i0, hi, hz0, hz1, hz2⟩ := info_parts Tryz.info5
  have hq := fun (w : World) => Lib.run_eql_slice_nil (P := Tryz.prog) w 25 5 (some ad) len cap 0 0 Tryz.underlying25
  go_enter Tryz.func81, Tryz.ntmps81
  go_wp2_with (at_builtin; refine wpList_append_own _ rfl _ _ 25 rfl w.heap.size 5 i0 (.int .u8 0) 1 1 Tryz.underlying25 hi hz0 hz1 hz2 rfl (by decide) (.slice (some ⟨w.heap.size, 0, none⟩) 0 0) 0 [] rfl ?h1 ad len cap (zs.map (.int .u8)) rfl ?h2 ?h3 (one_u8 zs) ?h4 ?h5 ?h6 ?_)
  case h1 => exact own_empty _ _ _ (by simp) (by omega)
  case h2 => simp [hr.1]
  case h3 => exact cells_rdb (hr.below (Joins.below_alloc1 _ _))
  case h4 => unfold maxLen; omega
  case h5 => omega
  case h6 => simp
  intro v1 w1 hown hgrow hnil
  obtain ⟨g, c, rfl⟩ : ∃ g c, v1 = .slice (some ⟨g, 0, none⟩) len c := by
    rcases Joins.ownsRow_forms hown with h | h
    · exact absurd h.1 hnil
    · exact h
  have hb : Below w.heap.size _ w1 := (Below.refl _ _).grown hgrow (by simp) (by intro k hk; simp [Value.ownBlock] at hk; omega)
  have HB : Hid (Below w.heap.size w w1) := (Joins.below_alloc1 _ _).trans hb
  have HO : Hid (w1.ownsRow w.heap.size 5 1 (.slice (some ⟨g, 0, none⟩) len c) len (zs.map (.int .u8))) := by simpa [Hid] using hown
  clear hown hgrow hnil hb
  go_wp2
  go_ret
  exact ⟨g, c, rfl, HO.out, HB.out⟩
end Go.Proofs.YtjbkgmbakjnlhabGreatDoor

/- The contracts of keyed, packetChecks and the six checks. -/
namespace Go.Proofs.YtjbkgmbakjnlhabGreatDoor
set_option maxRecDepth 100000
open Go.RowKit

/-- a keyed packet as a value -/
def Pk.kval (p : Pk) (n : Int) : Value := .agg #[.int .i64 p.src, .int .i64 p.dst, .int .i64 p.kind, .int .i64 p.id, .int .i64 p.hops, .bool p.whole, .int .i64 p.off, .bool p.more, .int .i64 n]

set_option maxHeartbeats 400000 in
theorem keyed_any (p : Pk) (a : Option Addr) (len cap : Nat) (w : World) :
    Calls Tryz.prog 52 #[p.val (.slice a len cap)] w fun e w' => e = .returned (p.kval len) ∧ Below w.heap.size w w' := by
  unfold Pk.val Pk.kval
  go_enter Tryz.func52, Tryz.ntmps52
  go_wp2
  exact bodyPost_ret (v := p.kval len) (by simp [results, Tryz.results52, go_sem, Pk.kval]) rfl ⟨rfl, Joins.below_alloc2 _ _ _⟩

set_option maxHeartbeats 400000 in
theorem packetChecks_any (w : World) :
    Calls Tryz.prog 80 #[] w fun e w' => e = .returned (.slice (some ⟨w.heap.size, 0, none⟩) 6 6) ∧
      w' = w.alloc (.cells #[.func (.func 97) #[] #[], .func (.func 98) #[] #[], .func (.func 99) #[] #[], .func (.func 100) #[] #[], .func (.func 101) #[] #[], .func (.func 102) #[] #[]] 133) := by
  go_enter Tryz.func80, Tryz.ntmps80
  go_wp2
  go_ret
  exact ⟨rfl, rfl⟩

set_option maxHeartbeats 400000 in
theorem hops_any (p : Pk) (n : Int) (w : World) :
    Calls Tryz.prog 98 #[p.kval n] w fun e w' => e = .returned (.bool (inB p.hops 1 64)) ∧ Below w.heap.size w w' := by
  unfold Pk.kval
  rw [← clamp_eq p.hops 1 64 (by omega)]
  go_enter Tryz.func98, Tryz.ntmps98
  go_wp2
  go_quiet ((go_at_call 72; exact Calls.quiet_of_same (clamp_any _ _ _ _)))
  go_wp2
  go_ret
  exact ⟨rfl, (Joins.below_alloc1 _ _).trans (Joins.below_draws _ _ _)⟩

set_option maxHeartbeats 400000 in
theorem begins_any (p : Pk) (n : Int) (w : World) :
    Calls Tryz.prog 99 #[p.kval n] w fun e w' => e = .returned (.bool (inB p.off 0 128 && (p.off.tmod 4 == 0))) ∧ Below w.heap.size w w' := by
  unfold Pk.kval
  rw [← clamp_eq p.off 0 128 (by omega)]
  cases h : (p.off == clampI p.off 0 128)
  all_goals
    go_enter Tryz.func99, Tryz.ntmps99
    go_wp2
    go_quiet ((go_at_call 72; exact Calls.quiet_of_same (clamp_any _ _ _ _)))
    go_wp2
    go_ret
    exact ⟨rfl, (Joins.below_alloc1 _ _).trans (Joins.below_draws _ _ _)⟩

set_option maxHeartbeats 400000 in
theorem ends_any (p : Pk) (n : Int) (w : World) (h0 : 0 ≤ n) (h1 : n ≤ 1048576) :
    Calls Tryz.prog 100 #[p.kval n] w fun e w' => e = .returned (.bool (decide (n ≤ 128) && decide (p.off ≤ 128 - n))) ∧ Below w.heap.size w w' := by
  unfold Pk.kval
  by_cases h : n ≤ 128
  all_goals
    go_enter Tryz.func100, Tryz.ntmps100
    go_wp2
    go_ret
    refine ⟨ret_bool ?_, Joins.below_alloc1 _ _⟩
    first | (simp [h]; done) | (simp; intros; omega)

set_option maxHeartbeats 400000 in
theorem leaves_any (p : Pk) (n : Nat) (w : World) (h1 : n ≤ 1048576) :
    Calls Tryz.prog 101 #[p.kval n] w fun e w' => e = .returned (.bool (!p.more || (decide ((0 : Int) < n) && ((n : Int) % 4 == 0)))) ∧ Below w.heap.size w w' := by
  unfold Pk.kval
  go_enter Tryz.func101, Tryz.ntmps101
  go_wp2
  all_goals
    go_ret
    refine ⟨ret_bool ?_, Joins.below_alloc1 _ _⟩
    first | (simp_all; done) | (simp_all; omega)

set_option maxHeartbeats 400000 in
theorem whole_any (p : Pk) (n : Int) (w : World) :
    Calls Tryz.prog 102 #[p.kval n] w fun e w' => e = .returned (.bool (!p.whole || ((p.off == 0) && !p.more))) ∧ Below w.heap.size w w' := by
  unfold Pk.kval
  go_enter Tryz.func102, Tryz.ntmps102
  go_wp2
  all_goals
    go_ret
    refine ⟨ret_bool ?_, Joins.below_alloc1 _ _⟩
    first | (simp_all; done) | (simp_all; omega)

set_option maxHeartbeats 1600000 in
theorem nearest_any (s d k i : Int) (w : World) :
    Calls Tryz.prog 115 #[.agg #[.int .i64 s, .int .i64 d, .int .i64 k, .int .i64 i]] w fun e w' => e = .returned (.agg #[.int .i64 (clampI s 0 65535), .int .i64 (clampI d 0 65535), .int .i64 (clampI k 1 7), .int .i64 (clampI i 0 255)]) ∧ Below w.heap.size w w' := by
  go_enter Tryz.func115, Tryz.ntmps115
  go_wp2
  go_region_held3 (fun w' => w'.cell? ⟨w.heap.size, 0, none⟩ = some (.int .i64 s) ∧ w'.cell? ⟨w.heap.size, 1, none⟩ = some (.int .i64 d) ∧ w'.cell? ⟨w.heap.size, 2, none⟩ = some (.int .i64 k) ∧ w'.cell? ⟨w.heap.size, 3, none⟩ = some (.int .i64 i)) (go_keep)
    (first | (go_at_call 72; refine (clamp_any _ _ _ _).mono ?_; rintro e w' ⟨rfl, rfl⟩))
  go_wp2
  exact bodyPost_ret (v := .agg #[.int .i64 (clampI s 0 65535), .int .i64 (clampI d 0 65535), .int .i64 (clampI k 1 7), .int .i64 (clampI i 0 255)]) (by simp [results, Tryz.results115, go_sem]) rfl ⟨rfl, (Joins.below_alloc2 _ _ _).drew⟩

theorem eqg51 (x y : Operand) (xs ys : Array Value) (w : World) : (eqGuard .eql 93 x y (.agg xs) (.agg ys)).run Tryz.prog w = .ok () w := run_eqGuard_agg w .eql 93 x y xs ys (by kernel_rfl)
theorem eql51 (s d k i s' d' k' i' : Int) (w : World) : (binOp .eql 93 (.agg #[.int .i64 s, .int .i64 d, .int .i64 k, .int .i64 i]) (.agg #[.int .i64 s', .int .i64 d', .int .i64 k', .int .i64 i'])).run Tryz.prog w =
    .ok (.bool ((s == s') && (d == d') && (k == k') && (i == i'))) w := by
  rw [run_eql_struct, show (10000 : Nat) = 9999 + 1 from rfl, run_equalIn_agg w 9999 93 _ _ (by kernel_rfl) (by kernel_rfl)]
  go_simp
  by_cases h1 : s = s' <;> by_cases h2 : d = d' <;> by_cases h3 : k = k' <;> by_cases h4 : i = i' <;> simp [h1, h2, h3, h4]

set_option maxHeartbeats 1600000 in
theorem key_any (p : Pk) (n : Int) (w : World) :
    Calls Tryz.prog 97 #[p.kval n] w fun e w' => e = .returned (.bool (inB p.src 0 65535 && inB p.dst 0 65535 && inB p.kind 1 7 && inB p.id 0 255)) ∧ Below w.heap.size w w' := by
  unfold Pk.kval
  rw [← clamp_eq p.src 0 65535 (by omega), ← clamp_eq p.dst 0 65535 (by omega), ← clamp_eq p.kind 1 7 (by omega), ← clamp_eq p.id 0 255 (by omega)]
  have hg := eqg51
  have he := eql51
  go_enter Tryz.func97, Tryz.ntmps97
  go_wp2
  go_region_held3 (fun w' => w.heap.size < w'.heap.size ∧ w'.cell? ⟨w.heap.size, 0, none⟩ = some (.int .i64 p.src) ∧ w'.cell? ⟨w.heap.size, 1, none⟩ = some (.int .i64 p.dst) ∧ w'.cell? ⟨w.heap.size, 2, none⟩ = some (.int .i64 p.kind) ∧ w'.cell? ⟨w.heap.size, 3, none⟩ = some (.int .i64 p.id)) (first | go_keep)
    (first | (go_at_call 115; refine (nearest_any _ _ _ _ _).mono ?_; rintro e w' ⟨rfl, hb⟩; have hsz : w.heap.size < w'.heap.size := Nat.lt_of_lt_of_le (by simp) hb.size; have hc : ∀ b o, b < w.heap.size + 1 → w'.cell? ⟨b, o, none⟩ = _ := fun b o h => hb.cell (p := ⟨b, o, none⟩) (by simpa using h)))
  go_wp2
  go_ret
  exact ⟨rfl, (Joins.below_alloc1 _ _).drew.trans (hb.mono (by simp))⟩
end Go.Proofs.YtjbkgmbakjnlhabGreatDoor
