/- The specification's l3Disagree, l3End, l3Who. -/
import Derived.Test.YtjbkgmbakjnlhabGreatDoorSpecB
import Derived.Test.YtjbkgmbakjnlhabGreatDoorPartAm
import Derived.Test.YtjbkgmbakjnlhabGreatDoorPartAf
namespace Go.Proofs.YtjbkgmbakjnlhabGreatDoor
set_option maxRecDepth 100000
open Go.RowKit

/-- the first so many are against none -/
def Still (xs : List RV) (i : Nat) : Prop := ∀ (a b : Nat) x y, a < i → xs[a]? = some x → xs[b]? = some y → againstB x.key y.key = false
def StillAt (xs : List RV) (i j : Nat) : Prop := ∀ (b : Nat) x y, b < j → xs[i]? = some x → xs[b]? = some y → againstB x.key y.key = false
theorem lt_of_get {α : Type} {xs : List α} {k : Nat} {x : α} (h : xs[k]? = some x) : k < xs.length := by
  rcases Nat.lt_or_ge k xs.length with h' | h'
  · exact h'
  · rw [List.getElem?_eq_none h'] at h; cases h
theorem Still.succ {xs : List RV} {i : Nat} (h : Still xs i) (h2 : StillAt xs i xs.length) : Still xs (i + 1) := by
  intro a b x y ha hx hy
  rcases Nat.lt_or_ge a i with h' | h'
  · exact h a b x y h' hx hy
  · obtain rfl : a = i := by omega
    exact h2 b x y (lt_of_get hy) hx hy
theorem StillAt.succ {xs : List RV} {i j : Nat} {x y : RV} (h : StillAt xs i j) (hx : xs[i]? = some x) (hy : xs[j]? = some y) (hd : againstB x.key y.key = false) : StillAt xs i (j + 1) := by
  intro b x' y' hb hx' hy'
  rcases Nat.lt_or_ge b j with h' | h'
  · exact h b x' y' h' hx' hy'
  · obtain rfl : b = j := by omega
    rw [hx] at hx'
    rw [hy] at hy'
    obtain rfl := Option.some.inj hx'
    obtain rfl := Option.some.inj hy'
    exact hd
theorem still_all {xs : List RV} (h : Still xs xs.length) : disagreeL (xs.map RV.key) = false := by
  rw [← Bool.not_eq_true, disagreeL_iff]
  rintro ⟨x, hx, y, hy, hd⟩
  obtain ⟨x', hx', rfl⟩ := List.mem_map.1 hx
  obtain ⟨y', hy', rfl⟩ := List.mem_map.1 hy
  obtain ⟨i, hi⟩ := List.getElem?_of_mem hx'
  obtain ⟨j, hj⟩ := List.getElem?_of_mem hy'
  rw [h i j x' y' (lt_of_get hi) hi hj] at hd
  cases hd
theorem not_still {xs : List RV} {i j : Nat} {x y : RV} (hx : xs[i]? = some x) (hy : xs[j]? = some y) (hd : againstB x.key y.key = true) : disagreeL (xs.map RV.key) = true :=
  (disagreeL_iff _).2 ⟨x.key, List.mem_map_of_mem (List.mem_of_getElem? hx), y.key, List.mem_map_of_mem (List.mem_of_getElem? hy), hd⟩

set_option maxRecDepth 100000 in
set_option maxHeartbeats 6400000 in
theorem l3Disagree_any (g cl : Nat) (xs : List RV) (w : World) (hL : RL w g xs) (hm : xs.length ≤ 40) (ho : ∀ x ∈ xs, okB x.p x.zs.length = true) :
    Calls Tryz.prog 67 #[.slice (some ⟨g, 0, none⟩) xs.length cl] w fun e w' => e = .returned (.bool (disagreeL (xs.map RV.key))) ∧ Below w.heap.size w w' := by
  have HL : Hid (RL w g xs) := hL
  have HO : Hid (∀ x ∈ xs, okB x.p x.zs.length = true) := ho
  clear hL ho
  go_enter Tryz.func67, Tryz.ntmps67
  go_wp2
  go_loopw [3] (fun i wr => ∃ k : Nat, k ≤ xs.length ∧ i = .int .i64 k ∧ Hid (Still xs k) ∧ Hid (Below w.heap.size w wr)) (fun i _ => xs.length - (intOf i).toNat)
  case atStart => exact ⟨0, by omega, rfl, fun a b x y h => by omega, Below.refl _ _⟩
  case round =>
    obtain ⟨k, hk, rfl, HC, HB⟩ := hrel
    obtain ⟨ws, rfl⟩ : ∃ ws, ws = wr := ⟨_, rfl⟩
    by_cases hlt : k < xs.length
    · have hi : (k : Int) < (xs.length : Int) := by omega
      obtain ⟨x, hx⟩ := get_of_lt hlt
      have HX : Hid (xs[k]? = some x) := hx
      clear hx
      go_wp2
      go_loopw [4] (fun j wq => ∃ m : Nat, m ≤ xs.length ∧ j = .int .i64 m ∧ Hid (StillAt xs k m) ∧ Hid (Below w.heap.size w wq)) (fun j _ => xs.length - (intOf j).toNat)
      case atStart => exact ⟨0, by omega, rfl, fun b x y h => by omega, HB.out⟩
      case round =>
        obtain ⟨m, hmk, rfl, HM, HQ⟩ := hrel
        have hsz := HQ.out.size
        by_cases hmlt : m < xs.length
        · have hmi : (m : Int) < (xs.length : Int) := by omega
          obtain ⟨y, hy⟩ := get_of_lt hmlt
          have HY : Hid (xs[m]? = some y) := hy
          clear hy
          have Lr := HL.out.below HQ.out
          have hgr := Lr.lt
          have bx := ok_bounds (HO.out x (List.mem_of_getElem? HX.out))
          have by_ := ok_bounds (HO.out y (List.mem_of_getElem? HY.out))
          have RX : Hid (ROk wr x) := Lr.each x (List.mem_of_getElem? HX.out)
          have RY : Hid (ROk wr y) := Lr.each y (List.mem_of_getElem? HY.out)
          have KA : Hid (∀ W : World, Below wr.heap.size wr W → Calls Tryz.prog 90 #[.agg #[.int .i64 x.p.src, .int .i64 x.p.dst, .int .i64 x.p.kind, .int .i64 x.p.id, .int .i64 x.p.hops, .bool x.p.whole, .int .i64 x.p.off, .bool x.p.more, .slice x.a x.zs.length x.c], .agg #[.int .i64 y.p.src, .int .i64 y.p.dst, .int .i64 y.p.kind, .int .i64 y.p.id, .int .i64 y.p.hops, .bool y.p.whole, .int .i64 y.p.off, .bool y.p.more, .slice y.a y.zs.length y.c]] W fun e w' => e = .returned (.bool (againstB x.key y.key)) ∧ Below W.heap.size W w') := fun W hW => l3Against_any x.p y.p x.a y.a x.zs y.zs x.c y.c W bx.1 bx.2.1 by_.1 by_.2.1 (RX.out.below hW) (RY.out.below hW)
          obtain ⟨c0, c1, c2, c3, c4, c5, c6, c7, c8⟩ := Lr.elem k x HX.out
          obtain ⟨k0, k1, k2, k3, k4, k5, k6, k7, k8⟩ := Lr.elem m y HY.out
          clear Lr
          cases hd : againstB x.key y.key
          · rw [hd] at KA
            have HD : Hid (againstB x.key y.key = false) := hd
            clear hd
            go_wp2
            go_region_held3 (fun w' => w'.cell? ⟨g, k * 9, none⟩ = some (.int .i64 x.p.src) ∧ w'.cell? ⟨g, k * 9 + 1, none⟩ = some (.int .i64 x.p.dst) ∧ w'.cell? ⟨g, k * 9 + 2, none⟩ = some (.int .i64 x.p.kind) ∧ w'.cell? ⟨g, k * 9 + 3, none⟩ = some (.int .i64 x.p.id) ∧ w'.cell? ⟨g, k * 9 + 4, none⟩ = some (.int .i64 x.p.hops) ∧ w'.cell? ⟨g, k * 9 + 5, none⟩ = some (.bool x.p.whole) ∧ w'.cell? ⟨g, k * 9 + 6, none⟩ = some (.int .i64 x.p.off) ∧ w'.cell? ⟨g, k * 9 + 7, none⟩ = some (.bool x.p.more) ∧ w'.cell? ⟨g, k * 9 + 8, none⟩ = some (.slice x.a x.zs.length x.c) ∧ w'.cell? ⟨g, m * 9, none⟩ = some (.int .i64 y.p.src) ∧ w'.cell? ⟨g, m * 9 + 1, none⟩ = some (.int .i64 y.p.dst) ∧ w'.cell? ⟨g, m * 9 + 2, none⟩ = some (.int .i64 y.p.kind) ∧ w'.cell? ⟨g, m * 9 + 3, none⟩ = some (.int .i64 y.p.id) ∧ w'.cell? ⟨g, m * 9 + 4, none⟩ = some (.int .i64 y.p.hops) ∧ w'.cell? ⟨g, m * 9 + 5, none⟩ = some (.bool y.p.whole) ∧ w'.cell? ⟨g, m * 9 + 6, none⟩ = some (.int .i64 y.p.off) ∧ w'.cell? ⟨g, m * 9 + 7, none⟩ = some (.bool y.p.more) ∧ w'.cell? ⟨g, m * 9 + 8, none⟩ = some (.slice y.a y.zs.length y.c)) (go_keep)
              (first
                | (go_at_call 90; with_reducible refine (KA.out _ (draw1 _)).mono ?_; rintro e w1 ⟨rfl, b1⟩; have hc1 : ∀ b o, b < wr.heap.size → w1.cell? ⟨b, o, none⟩ = _ := fun b o h => b1.cell (p := ⟨b, o, none⟩) (by simpa using h)))
            go_wp2
            go_roundw
            case rel => exact ⟨m + 1, by omega, by go_num, HM.out.succ HX.out HY.out HD.out, HQ.out.drew.trans (b1.mono hsz)⟩
            case measure => simp [intOf]; omega
          · rw [hd] at KA
            have HD : Hid (disagreeL (xs.map RV.key) = true) := not_still HX.out HY.out hd
            clear hd
            go_wp2
            go_region_held3 (fun w' => w'.cell? ⟨g, k * 9, none⟩ = some (.int .i64 x.p.src) ∧ w'.cell? ⟨g, k * 9 + 1, none⟩ = some (.int .i64 x.p.dst) ∧ w'.cell? ⟨g, k * 9 + 2, none⟩ = some (.int .i64 x.p.kind) ∧ w'.cell? ⟨g, k * 9 + 3, none⟩ = some (.int .i64 x.p.id) ∧ w'.cell? ⟨g, k * 9 + 4, none⟩ = some (.int .i64 x.p.hops) ∧ w'.cell? ⟨g, k * 9 + 5, none⟩ = some (.bool x.p.whole) ∧ w'.cell? ⟨g, k * 9 + 6, none⟩ = some (.int .i64 x.p.off) ∧ w'.cell? ⟨g, k * 9 + 7, none⟩ = some (.bool x.p.more) ∧ w'.cell? ⟨g, k * 9 + 8, none⟩ = some (.slice x.a x.zs.length x.c) ∧ w'.cell? ⟨g, m * 9, none⟩ = some (.int .i64 y.p.src) ∧ w'.cell? ⟨g, m * 9 + 1, none⟩ = some (.int .i64 y.p.dst) ∧ w'.cell? ⟨g, m * 9 + 2, none⟩ = some (.int .i64 y.p.kind) ∧ w'.cell? ⟨g, m * 9 + 3, none⟩ = some (.int .i64 y.p.id) ∧ w'.cell? ⟨g, m * 9 + 4, none⟩ = some (.int .i64 y.p.hops) ∧ w'.cell? ⟨g, m * 9 + 5, none⟩ = some (.bool y.p.whole) ∧ w'.cell? ⟨g, m * 9 + 6, none⟩ = some (.int .i64 y.p.off) ∧ w'.cell? ⟨g, m * 9 + 7, none⟩ = some (.bool y.p.more) ∧ w'.cell? ⟨g, m * 9 + 8, none⟩ = some (.slice y.a y.zs.length y.c)) (go_keep)
              (first
                | (go_at_call 90; with_reducible refine (KA.out _ (draw1 _)).mono ?_; rintro e w1 ⟨rfl, b1⟩; have hc1 : ∀ b o, b < wr.heap.size → w1.cell? ⟨b, o, none⟩ = _ := fun b o h => b1.cell (p := ⟨b, o, none⟩) (by simpa using h)))
            go_wp2
            go_ret
            exact ⟨ret_bool HD.out.symm, HQ.out.drew.trans (b1.mono hsz)⟩
        · obtain rfl : m = xs.length := by omega
          go_wp2
          go_roundw
          case rel => exact ⟨k + 1, by omega, by go_num, HC.out.succ HM.out, HQ.out⟩
          case measure => simp [intOf]; omega
    · obtain rfl : k = xs.length := by omega
      go_wp2
      go_ret
      exact ⟨ret_bool (still_all HC.out).symm, HB.out⟩

/-- the end as a number, -1 if none tells it -/
def endI (L : List PB) : Int := match endL L with | some e => e | none => -1

set_option maxRecDepth 100000 in
set_option maxHeartbeats 3200000 in
theorem l3End_any (g cl : Nat) (xs : List RV) (w : World) (hL : RL w g xs) (hm : xs.length ≤ 40) (ho : ∀ x ∈ xs, okB x.p x.zs.length = true) :
    Calls Tryz.prog 68 #[.slice (some ⟨g, 0, none⟩) xs.length cl] w fun e w' => e = .returned (.int .i64 (endI (xs.map RV.key))) ∧ Below w.heap.size w w' := by
  have HL : Hid (RL w g xs) := hL
  have HO : Hid (∀ x ∈ xs, okB x.p x.zs.length = true) := ho
  clear hL ho
  go_enter Tryz.func68, Tryz.ntmps68
  go_wp2
  go_loopw [3] (fun i wr => ∃ k : Nat, k ≤ xs.length ∧ i = .int .i64 k ∧ Hid (∀ j x, j < k → xs[j]? = some x → x.p.more = true) ∧ Hid (Below w.heap.size w wr)) (fun i _ => xs.length - (intOf i).toNat)
  case atStart => exact ⟨0, by omega, rfl, fun j x hj => by omega, Below.refl _ _⟩
  case round =>
    obtain ⟨k, hk, rfl, HC, HB⟩ := hrel
    by_cases hlt : k < xs.length
    · obtain ⟨x, hx⟩ := get_of_lt hlt
      have HX : Hid (xs[k]? = some x) := hx
      have Lr := HL.out.below HB.out
      have hgr := Lr.lt
      have Hk := Lr.elem k x hx
      have hi : (k : Int) < (xs.length : Int) := by omega
      have bx := ok_bounds (HO.out x (List.mem_of_getElem? hx))
      have hp := (Lr.each x (List.mem_of_getElem? hx)).len
      obtain ⟨p, a, c, zs⟩ := x
      obtain ⟨s2, d2, k2, i2, h2, w2, o2, m2⟩ := p
      clear hx Lr
      obtain ⟨c0, c1, c2, c3, c4, c5, c6, c7, c8⟩ := Hk
      obtain ⟨o0, o1, o3⟩ := bx
      cases m2
      · have HE : Hid (endL (xs.map RV.key) = some (o2 + (zs.length : Int))) := by
          refine endL_at (k := k) (map_get HX.out) rfl fun j y hj hy => ?_
          obtain ⟨z, hz, rfl⟩ := get_key hy
          exact HC.out j z hj hz
        go_wp2
        go_quiet (fail)
        go_wp2
        go_ret
        refine ⟨?_, HB.out.trans (Joins.below_draws _ _ _)⟩
        unfold endI
        rw [HE.out]
        rfl
      · go_wp2
        go_roundw
        case rel =>
          refine ⟨k + 1, by omega, by go_num, fun j y hj hy => ?_, HB.out⟩
          rcases Nat.lt_or_ge j k with h | h
          · exact HC.out j y h hy
          · obtain rfl : j = k := by omega
            rw [HX.out] at hy
            obtain rfl := Option.some.inj hy
            rfl
        case measure => simp [intOf]; omega
    · obtain rfl : k = xs.length := by omega
      have HE : Hid (endL (xs.map RV.key) = none) := by
        refine endL_none fun j y hy => ?_
        obtain ⟨z, hz, rfl⟩ := get_key hy
        exact HC.out j z (lt_of_get hz) hz
      go_wp2
      go_ret
      refine ⟨?_, HB.out⟩
      unfold endI
      rw [HE.out]
      rfl

/-- the first that has a byte, -1 if none has it -/
def WhoIs (xs : List RV) (at_ r : Int) : Prop := (∃ (i : Nat) (x : RV), r = (i : Int) ∧ xs[i]? = some x ∧ (xs.map RV.key).find? (fun y => hasB y at_) = some x.key ∧ hasB x.key at_ = true) ∨ (r = -1 ∧ (xs.map RV.key).find? (fun y => hasB y at_) = none)
theorem find_at {L : List PB} {f : PB → Bool} {k : Nat} {x : PB} (hx : L[k]? = some x) (hf : f x = true) (h : ∀ j y, j < k → L[j]? = some y → f y = false) : L.find? f = some x := by
  induction L generalizing k with
  | nil => simp at hx
  | cons z r ih =>
    match k with
    | 0 =>
      simp at hx
      subst hx
      simp [List.find?, hf]
    | k + 1 =>
      have hz := h 0 z (by omega) rfl
      simp at hx
      simp only [List.find?, hz]
      exact ih hx (fun j y hj hy => h (j + 1) y (by omega) (by simpa using hy))

set_option maxRecDepth 100000 in
set_option maxHeartbeats 3200000 in
theorem l3Who_any (g cl : Nat) (xs : List RV) (at_ : Int) (w : World) (hL : RL w g xs) (hm : xs.length ≤ 40) (ho : ∀ x ∈ xs, okB x.p x.zs.length = true) :
    Calls Tryz.prog 70 #[.slice (some ⟨g, 0, none⟩) xs.length cl, .int .i64 at_] w fun e w' => ∃ r, e = .returned (.int .i64 r) ∧ WhoIs xs at_ r ∧ Below w.heap.size w w' := by
  have HL : Hid (RL w g xs) := hL
  have HO : Hid (∀ x ∈ xs, okB x.p x.zs.length = true) := ho
  clear hL ho
  go_enter Tryz.func70, Tryz.ntmps70
  go_wp2
  go_loopw [5] (fun i wr => ∃ k : Nat, k ≤ xs.length ∧ i = .int .i64 k ∧ Hid (∀ j x, j < k → xs[j]? = some x → hasB x.key at_ = false) ∧ Hid (Below w.heap.size w wr)) (fun i _ => xs.length - (intOf i).toNat)
  case atStart => exact ⟨0, by omega, rfl, fun j x hj => by omega, Below.refl _ _⟩
  case round =>
    obtain ⟨k, hk, rfl, HC, HB⟩ := hrel
    have hsz := HB.out.size
    by_cases hlt : k < xs.length
    · obtain ⟨x, hx⟩ := get_of_lt hlt
      have HX : Hid (xs[k]? = some x) := hx
      have Lr := HL.out.below HB.out
      have hgr := Lr.lt
      have Hk := Lr.elem k x hx
      have hi : (k : Int) < (xs.length : Int) := by omega
      have bx := ok_bounds (HO.out x (List.mem_of_getElem? hx))
      have hp := (Lr.each x (List.mem_of_getElem? hx)).len
      clear hx Lr
      obtain ⟨c0, c1, c2, c3, c4, c5, c6, c7, c8⟩ := Hk
      have KH : Hid (∀ W : World, Calls Tryz.prog 91 #[.agg #[.int .i64 x.p.src, .int .i64 x.p.dst, .int .i64 x.p.kind, .int .i64 x.p.id, .int .i64 x.p.hops, .bool x.p.whole, .int .i64 x.p.off, .bool x.p.more, .slice x.a x.zs.length x.c], .int .i64 at_] W fun e w' => e = .returned (.bool (hasB x.key at_)) ∧ Below W.heap.size W w') := fun W => l3Has_any x.p x.a x.zs x.c at_ W bx.1 bx.2.1 hp
      cases hh : hasB x.key at_
      · rw [hh] at KH
        have HH : Hid (hasB x.key at_ = false) := hh
        clear hh
        go_wp2_with (go_at_call 91; with_reducible refine (KH.out _).mono ?_; rintro e w1 ⟨rfl, b1⟩)
        go_roundw
        case rel =>
          refine ⟨k + 1, by omega, by go_num, fun j y hj hy => ?_, HB.out.trans (b1.mono hsz)⟩
          rcases Nat.lt_or_ge j k with h | h
          · exact HC.out j y h hy
          · obtain rfl : j = k := by omega
            rw [HX.out] at hy
            obtain rfl := Option.some.inj hy
            exact HH.out
        case measure => simp [intOf]; omega
      · rw [hh] at KH
        have HF : Hid ((xs.map RV.key).find? (fun y => hasB y at_) = some x.key) := find_at (map_get HX.out) hh fun j y hj hy => by
          obtain ⟨z, hz, rfl⟩ := get_key hy
          exact HC.out j z hj hz
        have HH : Hid (hasB x.key at_ = true) := hh
        clear hh
        go_wp2_with (go_at_call 91; with_reducible refine (KH.out _).mono ?_; rintro e w1 ⟨rfl, b1⟩)
        go_ret
        exact ⟨k, rfl, Or.inl ⟨k, x, rfl, HX.out, HF.out, HH.out⟩, HB.out.trans (b1.mono hsz)⟩
    · obtain rfl : k = xs.length := by omega
      go_wp2
      go_ret
      refine ⟨-1, rfl, Or.inr ⟨rfl, List.find?_eq_none.2 fun y hy => ?_⟩, HB.out⟩
      obtain ⟨x, hx, rfl⟩ := List.mem_map.1 hy
      obtain ⟨j, hj⟩ := List.getElem?_of_mem hx
      rw [HC.out j x (lt_of_get hj) hj]
      simp
end Go.Proofs.YtjbkgmbakjnlhabGreatDoor

/- The specification's l3Head. -/
namespace Go.Proofs.YtjbkgmbakjnlhabGreatDoor
set_option maxRecDepth 100000
open Go.RowKit

/-- the head of the first so many -/
def headSp (x0 : RV) (L : List PB) (k : Nat) : Pk := ⟨x0.p.src, x0.p.dst, x0.p.kind, x0.p.id, (L.take k).foldl leastH x0.p.hops, (L.take k).any (fun y => y.1.whole), 0, false⟩
theorem headSp_succ {x0 : RV} {L : List PB} {k : Nat} {x : PB} (hx : L[k]? = some x) : headSp x0 L (k + 1) = { headSp x0 L k with hops := leastH (headSp x0 L k).hops x, whole := (headSp x0 L k).whole || x.1.whole } := by
  unfold headSp
  rw [List.take_add_one, hx]
  simp [List.foldl_append, List.any_append]
theorem headSp_all {x0 : RV} {L : List PB} (h0 : L[0]? = some x0.key) : headSp x0 L L.length = headL L := by
  match L, h0 with
  | x :: r, h0 =>
    simp at h0
    subst h0
    unfold headSp headL
    rw [List.take_length]
    rfl

theorem HW.draws {w wr : World} {rb bb : Nat} {p : Pk} {v : Value} (h : HW w wr rb bb p v) (n : Nat) : HW w (wr.drewN n) rb bb p v :=
  ⟨((Joins.below_draws wr.heap.size wr n).block _ (lt_of_block h.res)).trans h.res, ((Joins.below_draws wr.heap.size wr n).block _ (lt_of_block h.box)).trans h.box, h.bel.trans (Joins.below_draws _ _ _)⟩
theorem three_heap (w : World) (a b c : Obj) : (((w.alloc a).alloc b).alloc c).heap[w.heap.size]? = some a ∧ (((w.alloc a).alloc b).alloc c).heap[w.heap.size + 1]? = some b ∧ (((w.alloc a).alloc b).alloc c).heap[w.heap.size + 1 + 1]? = some c :=
  ⟨(Below.heap_alloc _ _ _ (by simp; omega)).trans ((Below.heap_alloc _ _ _ (by simp)).trans (heap_new _ _ _ rfl)), (Below.heap_alloc _ _ _ (by simp)).trans (heap_new _ _ _ (by simp)), heap_new _ _ _ (by simp)⟩
theorem keep5 {w W : World} {g : Nat} {x0 : RV} (h : RHead w g x0) (hg : g < w.heap.size) (hb : Below w.heap.size w W) : W.cell? ⟨g, 0, none⟩ = some (.int .i64 x0.p.src) ∧ W.cell? ⟨g, 1, none⟩ = some (.int .i64 x0.p.dst) ∧ W.cell? ⟨g, 2, none⟩ = some (.int .i64 x0.p.kind) ∧ W.cell? ⟨g, 3, none⟩ = some (.int .i64 x0.p.id) ∧ W.cell? ⟨g, 4, none⟩ = some (.int .i64 x0.p.hops) :=
  have e : ∀ o, W.cell? ⟨g, o, none⟩ = w.cell? ⟨g, o, none⟩ := fun o => hb.cell (p := ⟨g, o, none⟩) hg
  ⟨(e _).trans h.e0, (e _).trans h.e1, (e _).trans h.e2, (e _).trans h.e3, (e _).trans h.e4⟩

set_option maxRecDepth 100000 in
set_option maxHeartbeats 3200000 in
theorem l3Head_any (g cl : Nat) (xs : List RV) (x0 : RV) (w : World) (hL : RL w g xs) (hm : xs.length ≤ 40) (h0 : xs[0]? = some x0) :
    Calls Tryz.prog 69 #[.slice (some ⟨g, 0, none⟩) xs.length cl] w fun e w' => ∃ gd, e = .returned ((headL (xs.map RV.key)).val (.slice (some ⟨gd, 0, none⟩) 0 0)) ∧ w.heap.size ≤ gd ∧ w'.heap[gd]? = some (.cells #[] 5 (0, 0)) ∧ Below w.heap.size w w' := by
  have hposn : 0 < xs.length := lt_of_get h0
  have hpos : (0 : Int) < (xs.length : Int) := by omega
  have hne : xs ≠ [] := fun e => by rw [e] at hposn; simp at hposn
  have HL : Hid (RL w g xs) := hL
  have H0 : Hid (xs[0]? = some x0) := h0
  have hg := hL.lt
  obtain ⟨c0, c1, c2, c3, c4, c5, c6, c7, c8⟩ := (hL.elem 0 x0 h0).head
  have HH : Hid (RHead w g x0) := (hL.elem 0 x0 h0).head
  clear hL h0
  go_enter Tryz.func69, Tryz.ntmps69
  go_upto_region 1 with fail
  go_cut [3] (fun u wx => ∃ bb gd : Nat, u = .pointer (some ⟨bb, 0, none⟩) ∧ w.heap.size < bb ∧ w.heap.size < gd ∧ bb ≠ gd ∧ Hid (HW w wx w.heap.size bb ⟨x0.p.src, x0.p.dst, x0.p.kind, x0.p.id, x0.p.hops, false, 0, false⟩ (.slice (some ⟨gd, 0, none⟩) 0 0)) ∧ Hid (wx.heap[gd]? = some (.cells #[] 5 (0, 0))))
  case first =>
    go_region_held3 (fun w' => w'.cell? ⟨g, 0, none⟩ = some (.int .i64 x0.p.src) ∧ w'.cell? ⟨g, 1, none⟩ = some (.int .i64 x0.p.dst) ∧ w'.cell? ⟨g, 2, none⟩ = some (.int .i64 x0.p.kind) ∧ w'.cell? ⟨g, 3, none⟩ = some (.int .i64 x0.p.id) ∧ w'.cell? ⟨g, 4, none⟩ = some (.int .i64 x0.p.hops)) (first | (with_reducible exact keep5 HH.out hg ((Joins.below_alloc1 _ _).drew)) | (with_reducible exact keep5 HH.out hg ((Joins.below_alloc2 _ _ _).drew)) | (with_reducible exact keep5 HH.out hg ((Joins.below_alloc3 _ _ _ _).drew))) (fail)
    all_goals
      go_wp2
      go_meet
      case rel =>
        first
          | exact ⟨w.heap.size + 1 + 1, w.heap.size + 1, rfl, by omega, by omega, by omega, ⟨(three_heap w _ _ _).1, (three_heap w _ _ _).2.2, (Joins.below_alloc3 _ _ _ _).drew⟩, (three_heap w _ _ _).2.1⟩
          | exact ⟨w.heap.size + 1, w.heap.size + 1 + 1, rfl, by omega, by omega, by omega, ⟨(three_heap w _ _ _).1, (three_heap w _ _ _).2.1, (Joins.below_alloc3 _ _ _ _).drew⟩, (three_heap w _ _ _).2.2⟩
  case rest =>
    obtain ⟨bb, gd, rfl, hbb, hgd, hbg, HW0, HD0⟩ := hcut
    clear c0 c1 c2 c3 c4 c5 c6 c7 c8 HH
    go_wp2
    go_loopw [4] (fun i wr => ∃ (k : Nat) (p : Pk), k ≤ xs.length ∧ i = .int .i64 k ∧ Hid (p = headSp x0 (xs.map RV.key) k) ∧ Hid (HW w wr w.heap.size bb p (.slice (some ⟨gd, 0, none⟩) 0 0)) ∧ Hid (wr.heap[gd]? = some (.cells #[] 5 (0, 0)))) (fun i _ => xs.length - (intOf i).toNat)
    case atStart => exact ⟨0, headSp x0 (xs.map RV.key) 0, by omega, rfl, rfl, HW0.out, HD0.out⟩
    case round =>
      obtain ⟨k, p, hk, rfl, HP, HW1, HD1⟩ := hrel
      have B0 := HW1.out.bel
      have hs0 := B0.size
      have hrl := lt_of_block HW1.out.res
      have hbl := lt_of_block HW1.out.box
      have fx : ∀ o, wr.frozen? ⟨bb, o, none⟩ = false := fun o => Joins.unfrozen_of_block HW1.out.box o
      have fz : ∀ o, wr.frozen? ⟨w.heap.size, o, none⟩ = false := fun o => Joins.unfrozen_of_block HW1.out.res o
      obtain ⟨_, k0, k1, k2, k3, k4, k5, k6, k7, k8⟩ := Boxed.of_block HW1.out.box
      by_cases hlt : k < xs.length
      · obtain ⟨x, hx⟩ := get_of_lt hlt
        have Lr := HL.out.below B0
        have hgr := Lr.lt
        obtain ⟨c0, c1, c2, c3, c4, c5, c6, c7, c8⟩ := Lr.elem k x hx
        have HN : Hid (headSp x0 (xs.map RV.key) (k + 1) = ⟨p.src, p.dst, p.kind, p.id, leastH p.hops x.key, p.whole || x.p.whole, p.off, p.more⟩) := by
          show headSp x0 (xs.map RV.key) (k + 1) = _
          rw [headSp_succ (map_get hx), ← HP.out]
          rfl
        have hi : (k : Int) < (xs.length : Int) := by omega
        have hgb : g ≠ bb := by omega
        have hgb' : bb ≠ g := by omega
        clear hx Lr
        obtain ⟨s2, d2, n2, i2, h2, w2, o2, m2⟩ := p
        by_cases hlh : x.p.hops < h2
        · have el : leastH h2 x.key = x.p.hops := if_pos hlh
          have HN' : Hid (headSp x0 (xs.map RV.key) (k + 1) = ⟨s2, d2, n2, i2, x.p.hops, w2 || x.p.whole, o2, m2⟩) := by rw [← el]; exact HN.out
          clear el HN
          cases w2
          all_goals
            go_wp2
            go_quiet (fail)
            go_wp2
            go_roundw
            case rel => exact ⟨k + 1, _, by omega, by go_num, HN'.out.symm, ((HW1.out.draws _).set4 (by omega) (by omega) _).set5 (by omega) (by omega) _, (Below.heap_setCell _ _ _ _ (Ne.symm hbg)).trans ((Below.heap_setCell _ _ _ _ (Ne.symm hbg)).trans (((Joins.below_draws wr.heap.size wr _).block _ (lt_of_block HD1.out)).trans HD1.out))⟩
            case measure => simp [intOf]; omega
        · have el : leastH h2 x.key = h2 := if_neg hlh
          have HN' : Hid (headSp x0 (xs.map RV.key) (k + 1) = ⟨s2, d2, n2, i2, h2, w2 || x.p.whole, o2, m2⟩) := (show _ = _ by rw [HN.out, el])
          clear el HN
          cases w2
          all_goals
            go_wp2
            go_quiet (fail)
            go_wp2
            go_roundw
            case rel => exact ⟨k + 1, _, by omega, by go_num, HN'.out.symm, (HW1.out.draws _).set5 (by omega) (by omega) _, (Below.heap_setCell _ _ _ _ (Ne.symm hbg)).trans (((Joins.below_draws wr.heap.size wr _).block _ (lt_of_block HD1.out)).trans HD1.out)⟩
            case measure => simp [intOf]; omega
      · obtain rfl : k = xs.length := by omega
        have HE : Hid (p = headL (xs.map RV.key)) := by
          have h := headSp_all (x0 := x0) (L := xs.map RV.key) (map_get H0.out)
          rw [List.length_map] at h
          show p = _
          rw [HP.out, h]
        obtain ⟨_, z0, z1, z2, z3, z4, z5, z6, z7, z8⟩ := Boxed.of_block HW1.out.res
        have BH : Hid (Below w.heap.size w wr) := B0
        clear B0
        go_wp2
        refine bodyPost_ret (v := .agg #[.int .i64 p.src, .int .i64 p.dst, .int .i64 p.kind, .int .i64 p.id, .int .i64 p.hops, .bool p.whole, .int .i64 p.off, .bool p.more, .slice (some ⟨gd, 0, none⟩) 0 0]) (by simp [results, Tryz.results69, go_sem, z0, z1, z2, z3, z4, z5, z6, z7, z8]) rfl ⟨gd, ?_, by omega, ?_, ?_⟩
        · rw [← HE.out]
          rfl
        · exact (heap9 _ _ _ (by omega) _ _ _ _ _ _ _ _ _).trans HD1.out
        · exact below9 BH.out (Nat.le_refl _) _ _ _ _ _ _ _ _ _
end Go.Proofs.YtjbkgmbakjnlhabGreatDoor
