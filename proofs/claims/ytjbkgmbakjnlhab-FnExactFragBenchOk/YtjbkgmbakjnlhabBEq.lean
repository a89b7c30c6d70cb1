/- Benches compared. -/
import Derived.Test.YtjbkgmbakjnlhabBMake
import Derived.Test.YtjbkgmbakjnlhabLEq
namespace Go.Proofs.Ytjbkgmbakjnlhab
open Go.RowKit

/-- a slot's cells at its place in a list -/
structure SElem (w : World) (g k : Nat) (y : SV) : Prop where
  e0 : w.cell? ⟨g, k * 3, none⟩ = some (.slice y.a y.xs.length y.c)
  e1 : w.cell? ⟨g, k * 3 + 1, none⟩ = some (.int .i64 y.since)
  e2 : w.cell? ⟨g, k * 3 + 2, none⟩ = some (.bool y.bad)
theorem SElem.upto {w w' : World} {B g k : Nat} {y : SV} (h : SElem w g k y) (hb : Below B w w') (hB : g < B) : SElem w' g k y :=
  have e : ∀ o, w'.cell? ⟨g, o, none⟩ = w.cell? ⟨g, o, none⟩ := fun o => hb.cell (p := ⟨g, o, none⟩) hB
  ⟨(e _).trans h.e0, (e _).trans h.e1, (e _).trans h.e2⟩
/-- a slot's pieces can be read -/
structure SOk (w : World) (x : SV) : Prop where
  at_ : ∃ gL, x.a = some ⟨gL, 0, none⟩ ∧ RL w gL x.xs
  len : x.xs.length ≤ 1048576
  cap : x.xs.length ≤ x.c
  capM : x.c ≤ 9223372036854775807
theorem SOk.below {w w' : World} {x : SV} (h : SOk w x) (hb : Below w.heap.size w w') : SOk w' x := by
  obtain ⟨gL, h1, h2⟩ := h.at_
  exact ⟨⟨gL, h1, h2.below hb⟩, h.len, h.cap, h.capM⟩
/-- a list of slots can be read -/
structure SL (w : World) (g : Nat) (ss : List SV) : Prop where
  lt : g < w.heap.size
  elem : ∀ k x, ss[k]? = some x → SElem w g k x
  each : ∀ x ∈ ss, SOk w x
theorem SL.below {w w' : World} {g : Nat} {xs : List SV} (h : SL w g xs) (hb : Below w.heap.size w w') : SL w' g xs :=
  ⟨Nat.lt_of_lt_of_le h.lt hb.size, fun k x hx => (h.elem k x hx).upto hb h.lt, fun x hx => (h.each x hx).below hb⟩
theorem SB.sl {w : World} {lo gS n : Nat} {ts : List SV} (h : SB w lo gS n ts) : SL w gS ts := by
  refine ⟨h.lt, fun k x hx => ?_, fun y hy => ?_⟩
  · obtain ⟨cur, hc, _, r⟩ := h.blk
    have e : ∀ j, j < 3 → w.cell? ⟨gS, k * 3 + j, none⟩ = (scells (.slice x.a x.xs.length x.c) x.since x.bad)[j]? := fun j hj => by rw [cell_of_row _ _ _ _ _ _ hc]; exact r k x hx j hj
    exact ⟨e 0 (by omega), e 1 (by omega), e 2 (by omega)⟩
  · obtain ⟨gL, h1, h2, h3, h4⟩ := h.each y hy
    exact ⟨⟨gL, h1, h3.rl⟩, h4, by omega, by omega⟩

set_option maxRecDepth 100000 in
set_option maxHeartbeats 3200000 in
theorem eqFragSlot_same (x y : SV) (w : World) (hx : SOk w x) (hy : SOk w y) (hk : y.xs.map RV.key = x.xs.map RV.key) :
    Calls Try.prog 63 #[.agg #[.slice x.a x.xs.length x.c, .int .i64 x.since, .bool x.bad], .agg #[.slice y.a x.xs.length y.c, .int .i64 x.since, .bool x.bad]] w fun e w' => e = .returned (.bool true) ∧ Below w.heap.size w w' := by
  have KE : Hid (∀ W : World, Below w.heap.size w W → Calls Try.prog 15 #[.slice x.a x.xs.length x.c, .slice y.a x.xs.length y.c] W fun e w' => e = .returned (.bool true) ∧ Below W.heap.size W w') := fun W h => by
    obtain ⟨gx, hx1, hx2⟩ := hx.at_
    obtain ⟨gy, hy1, hy2⟩ := hy.at_
    rw [hx1, hy1]
    exact eqFragPacketS_same gx gy x.c y.c x.xs y.xs W (hx2.below h) (hy2.below h) hk hx.len
  have hne : ∀ z : Int, (z != z) = false := fun z => by simp
  have hnb : ∀ z : Bool, (z != z) = false := fun z => by simp
  clear hx hy hk
  go_enter Try.func63, Try.ntmps63
  go_wp2_with fail
  refine (KE.out _ (Joins.below_alloc2 _ _ _)).mono ?_
  rintro e w1 ⟨rfl, b1⟩
  obtain ⟨hc, hf⟩ := bcell b1
  have z1 : w1.cell? ⟨w.heap.size, 1, none⟩ = some (.int .i64 x.since) := (hc _ _ (by simp; omega)).trans (by go_simp)
  have z2 : w1.cell? ⟨w.heap.size, 2, none⟩ = some (.bool x.bad) := (hc _ _ (by simp; omega)).trans (by go_simp)
  have y1 : w1.cell? ⟨w.heap.size + 1, 1, none⟩ = some (.int .i64 x.since) := (hc _ _ (by simp)).trans (by go_simp)
  have y2 : w1.cell? ⟨w.heap.size + 1, 2, none⟩ = some (.bool x.bad) := (hc _ _ (by simp)).trans (by go_simp)
  have B1 : Hid (Below w.heap.size w w1) := (Joins.below_alloc2 _ _ _).trans (b1.mono (by simp; omega))
  have s1 := b1.size
  clear b1 hc hf
  go_wp2
  go_ret
  exact ⟨rfl, B1.out⟩

set_option maxRecDepth 100000 in
set_option maxHeartbeats 6400000 in
theorem eqFragSlotS_same (g g' cl cl' : Nat) (xs ys : List SV) (w : World) (hL : SL w g xs) (hL' : SL w g' ys) (hk : ys.map SV.key = xs.map SV.key) (hm : xs.length ≤ 1048576) :
    Calls Try.prog 53 #[.slice (some ⟨g, 0, none⟩) xs.length cl, .slice (some ⟨g', 0, none⟩) xs.length cl'] w fun e w' => e = .returned (.bool true) ∧ Below w.heap.size w w' := by
  have HL : Hid (SL w g xs) := hL
  have HL' : Hid (SL w g' ys) := hL'
  have HK : Hid (ys.map SV.key = xs.map SV.key) := hk
  have hne : ((xs.length : Int) != (xs.length : Int)) = false := by simp
  clear hL hL' hk
  go_enter Try.func53, Try.ntmps53
  go_wp2
  go_loopw [5] (fun i wr => ∃ k : Nat, k ≤ xs.length ∧ i = .int .i64 k ∧ Hid (Below w.heap.size w wr)) (fun i _ => xs.length - (intOf i).toNat)
  case atStart => exact ⟨0, by omega, rfl, Below.refl _ _⟩
  case round =>
    obtain ⟨k, hk, rfl, HB⟩ := hrel
    have hsz := HB.out.size
    by_cases hlt : k < xs.length
    · obtain ⟨x, hx⟩ := get_of_lt hlt
      have hyl : ys.length = xs.length := by have := congrArg List.length HK.out; simpa using this
      obtain ⟨y, hy⟩ := get_of_lt (show k < ys.length by omega)
      have hkey : y.key = x.key := by
        have h := congrArg (fun l => l[k]?) HK.out
        simp only [List.getElem?_map, hx, hy, Option.map_some] at h
        exact Option.some.inj h
      have hp : y.xs.map RV.key = x.xs.map RV.key := congrArg Prod.fst hkey
      have hl : y.xs.length = x.xs.length := by have := congrArg List.length hp; simpa using this
      have hs : y.since = x.since := congrArg (fun t => t.2.1) hkey
      have hb : y.bad = x.bad := congrArg (fun t => t.2.2) hkey
      have Lr := HL.out.below HB.out
      have Lr' := HL'.out.below HB.out
      have hi : (k : Int) < (xs.length : Int) := by omega
      obtain ⟨c0, c1, c2⟩ := Lr.elem k x hx
      have RX : Hid (SOk wr x) := Lr.each x (List.mem_of_getElem? hx)
      have RY : Hid (SOk wr y) := Lr'.each y (List.mem_of_getElem? hy)
      have HP : Hid (y.xs.map RV.key = x.xs.map RV.key) := hp
      obtain ⟨k0, k1, k2⟩ := Lr'.elem k y hy
      rw [hl] at k0
      rw [hs] at k1
      rw [hb] at k2
      have hgr := Lr.lt
      have hgr' := Lr'.lt
      have KE : Hid (∀ W : World, Below wr.heap.size wr W → Calls Try.prog 63 #[.agg #[.slice x.a x.xs.length x.c, .int .i64 x.since, .bool x.bad], .agg #[.slice y.a x.xs.length y.c, .int .i64 x.since, .bool x.bad]] W fun e w' => e = .returned (.bool true) ∧ Below W.heap.size W w') := fun W h => eqFragSlot_same x y W (RX.out.below h) (RY.out.below h) HP.out
      clear hx hy Lr Lr' hkey hp hs hb hl
      go_wp2
      go_region_held3 (fun w' => w'.cell? ⟨g, k * 3, none⟩ = some (.slice x.a x.xs.length x.c) ∧ w'.cell? ⟨g, k * 3 + 1, none⟩ = some (.int .i64 x.since) ∧ w'.cell? ⟨g, k * 3 + 2, none⟩ = some (.bool x.bad) ∧ w'.cell? ⟨g', k * 3, none⟩ = some (.slice y.a x.xs.length y.c) ∧ w'.cell? ⟨g', k * 3 + 1, none⟩ = some (.int .i64 x.since) ∧ w'.cell? ⟨g', k * 3 + 2, none⟩ = some (.bool x.bad)) (go_keep)
        (first
          | (go_at_call 63; (with_reducible refine (KE.out _ (draw1 _)).mono ?_); rintro e w1 ⟨rfl, b1⟩; have hc1 : ∀ b o, b < wr.heap.size → w1.cell? ⟨b, o, none⟩ = wr.cell? ⟨b, o, none⟩ := fun b o h => b1.cell (p := ⟨b, o, none⟩) h))
      go_wp2
      go_roundw
      case rel => exact ⟨k + 1, by omega, by go_num, HB.out.drew.trans (b1.mono hsz)⟩
      case measure => simp [intOf]; omega
    · go_wp2
      go_ret
      exact ⟨rfl, HB.out⟩

set_option maxRecDepth 100000 in
set_option maxHeartbeats 3200000 in
theorem eqFragBench_same (now : Int) (g g' cl cl' : Nat) (xs ys : List SV) (w : World) (hL : SL w g xs) (hL' : SL w g' ys) (hk : ys.map SV.key = xs.map SV.key) (hm : xs.length ≤ 1048576) :
    Calls Try.prog 23 #[.agg #[.int .i64 now, .slice (some ⟨g, 0, none⟩) xs.length cl], .agg #[.int .i64 now, .slice (some ⟨g', 0, none⟩) xs.length cl']] w fun e w' => e = .returned (.bool true) ∧ Below w.heap.size w w' := by
  have KE : Hid (∀ W : World, Below w.heap.size w W → Calls Try.prog 53 #[.slice (some ⟨g, 0, none⟩) xs.length cl, .slice (some ⟨g', 0, none⟩) xs.length cl'] W fun e w' => e = .returned (.bool true) ∧ Below W.heap.size W w') := fun W h => eqFragSlotS_same g g' cl cl' xs ys W (hL.below h) (hL'.below h) hk hm
  have hne : ∀ z : Int, (z != z) = false := fun z => by simp
  clear hL hL' hk
  go_enter Try.func23, Try.ntmps23
  go_wp2_with fail
  refine (KE.out _ (Joins.below_alloc2 _ _ _)).mono ?_
  rintro e w1 ⟨rfl, b1⟩
  have B1 : Hid (Below w.heap.size w w1) := (Joins.below_alloc2 _ _ _).trans (b1.mono (by simp; omega))
  clear b1
  go_wp2
  go_ret
  exact ⟨rfl, B1.out⟩
end Go.Proofs.Ytjbkgmbakjnlhab
