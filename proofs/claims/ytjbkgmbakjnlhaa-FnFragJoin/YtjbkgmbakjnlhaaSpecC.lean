/- The specification's l3Disagree, l3End, l3Who. -/
import Derived.Test.YtjbkgmbakjnlhaaSpecB
namespace Go.Proofs.Ytjbkgmbakjnlhaa
open Go.RowKit

/-- the first so many are against none -/
def Still (xs : List RV) (i : Nat) : Prop := ∀ (a b : Nat) x y, a < i → xs[a]? = some x → xs[b]? = some y → againstB x.key y.key = false
def StillAt (xs : List RV) (i j : Nat) : Prop := ∀ (b : Nat) x y, b < j → xs[i]? = some x → xs[b]? = some y → againstB x.key y.key = false
theorem lt_of_get {α : Type} {xs : List α} {k : Nat} {x : α} (h : xs[k]? = some x) : k < xs.length := by
  rcases Nat.lt_or_ge k xs.length with h' | h'
  · exact h'
  · rw [List.getElem?_eq_none h'] at h; cases h
theorem Still.succ {xs : List RV} {i : Nat} (h : Still xs i) (h2 : StillAt xs i xs.length) : Still xs (i + 1) := by
  intro a b x y ha hx hy
  rcases Nat.lt_or_ge a i with h' | h'
  · exact h a b x y h' hx hy
  · obtain rfl : a = i := by omega
    exact h2 b x y (lt_of_get hy) hx hy
theorem StillAt.succ {xs : List RV} {i j : Nat} {x y : RV} (h : StillAt xs i j) (hx : xs[i]? = some x) (hy : xs[j]? = some y) (hd : againstB x.key y.key = false) : StillAt xs i (j + 1) := by
  intro b x' y' hb hx' hy'
  rcases Nat.lt_or_ge b j with h' | h'
  · exact h b x' y' h' hx' hy'
  · obtain rfl : b = j := by omega
    rw [hx] at hx'
    rw [hy] at hy'
    obtain rfl := Option.some.inj hx'
    obtain rfl := Option.some.inj hy'
    exact hd
theorem still_all {xs : List RV} (h : Still xs xs.length) : disagreeL (xs.map RV.key) = false := by
  rw [← Bool.not_eq_true, disagreeL_iff]
  rintro ⟨x, hx, y, hy, hd⟩
  obtain ⟨x', hx', rfl⟩ := List.mem_map.1 hx
  obtain ⟨y', hy', rfl⟩ := List.mem_map.1 hy
  obtain ⟨i, hi⟩ := List.getElem?_of_mem hx'
  obtain ⟨j, hj⟩ := List.getElem?_of_mem hy'
  rw [h i j x' y' (lt_of_get hi) hi hj] at hd
  cases hd
theorem not_still {xs : List RV} {i j : Nat} {x y : RV} (hx : xs[i]? = some x) (hy : xs[j]? = some y) (hd : againstB x.key y.key = true) : disagreeL (xs.map RV.key) = true :=
  (disagreeL_iff _).2 ⟨x.key, List.mem_map_of_mem (List.mem_of_getElem? hx), y.key, List.mem_map_of_mem (List.mem_of_getElem? hy), hd⟩

set_option maxRecDepth 100000 in
set_option maxHeartbeats 6400000 in
theorem l3Disagree_any (g cl : Nat) (xs : List RV) (w : World) (hL : RL w g xs) (hm : xs.length ≤ 40) (ho : ∀ x ∈ xs, okB x.p x.zs.length = true) :
    Calls Try.prog 46 #[.slice (some ⟨g, 0, none⟩) xs.length cl] w fun e w' => e = .returned (.bool (disagreeL (xs.map RV.key))) ∧ Below w.heap.size w w' := by
  have HL : Hid (RL w g xs) := hL
  have HO : Hid (∀ x ∈ xs, okB x.p x.zs.length = true) := ho
  clear hL ho
  go_enter Try.func46, Try.ntmps46
  go_wp2
  go_loopw [3] (fun i wr => ∃ k : Nat, k ≤ xs.length ∧ i = .int .i64 k ∧ Hid (Still xs k) ∧ Hid (Below w.heap.size w wr)) (fun i _ => xs.length - (intOf i).toNat)
  case atStart => exact ⟨0, by omega, rfl, fun a b x y h => by omega, Below.refl _ _⟩
  case round =>
    obtain ⟨k, hk, rfl, HC, HB⟩ := hrel
    obtain ⟨ws, rfl⟩ : ∃ ws, ws = wr := ⟨_, rfl⟩
    by_cases hlt : k < xs.length
    · have hi : (k : Int) < (xs.length : Int) := by omega
      obtain ⟨x, hx⟩ := get_of_lt hlt
      have HX : Hid (xs[k]? = some x) := hx
      clear hx
      go_wp2
      go_loopw [4] (fun j wq => ∃ m : Nat, m ≤ xs.length ∧ j = .int .i64 m ∧ Hid (StillAt xs k m) ∧ Hid (Below w.heap.size w wq)) (fun j _ => xs.length - (intOf j).toNat)
      case atStart => exact ⟨0, by omega, rfl, fun b x y h => by omega, HB.out⟩
      case round =>
        obtain ⟨m, hmk, rfl, HM, HQ⟩ := hrel
        have hsz := HQ.out.size
        by_cases hmlt : m < xs.length
        · have hmi : (m : Int) < (xs.length : Int) := by omega
          obtain ⟨y, hy⟩ := get_of_lt hmlt
          have HY : Hid (xs[m]? = some y) := hy
          clear hy
          have Lr := HL.out.below HQ.out
          have hgr := Lr.lt
          have bx := ok_bounds (HO.out x (List.mem_of_getElem? HX.out))
          have by_ := ok_bounds (HO.out y (List.mem_of_getElem? HY.out))
          have RX : Hid (ROk wr x) := Lr.each x (List.mem_of_getElem? HX.out)
          have RY : Hid (ROk wr y) := Lr.each y (List.mem_of_getElem? HY.out)
          have KA : Hid (∀ W : World, Below wr.heap.size wr W → Calls Try.prog 73 #[.agg #[.int .i64 x.p.src, .int .i64 x.p.dst, .int .i64 x.p.kind, .int .i64 x.p.id, .int .i64 x.p.hops, .bool x.p.whole, .int .i64 x.p.off, .bool x.p.more, .slice x.a x.zs.length x.c], .agg #[.int .i64 y.p.src, .int .i64 y.p.dst, .int .i64 y.p.kind, .int .i64 y.p.id, .int .i64 y.p.hops, .bool y.p.whole, .int .i64 y.p.off, .bool y.p.more, .slice y.a y.zs.length y.c]] W fun e w' => e = .returned (.bool (againstB x.key y.key)) ∧ Below W.heap.size W w') := fun W hW => l3Against_any x.p y.p x.a y.a x.zs y.zs x.c y.c W bx.1 bx.2.1 by_.1 by_.2.1 (RX.out.below hW) (RY.out.below hW)
          obtain ⟨c0, c1, c2, c3, c4, c5, c6, c7, c8⟩ := Lr.elem k x HX.out
          obtain ⟨k0, k1, k2, k3, k4, k5, k6, k7, k8⟩ := Lr.elem m y HY.out
          clear Lr
          cases hd : againstB x.key y.key
          · rw [hd] at KA
            have HD : Hid (againstB x.key y.key = false) := hd
            clear hd
            go_wp2
            go_region_held3 (fun w' => w'.cell? ⟨g, k * 9, none⟩ = some (.int .i64 x.p.src) ∧ w'.cell? ⟨g, k * 9 + 1, none⟩ = some (.int .i64 x.p.dst) ∧ w'.cell? ⟨g, k * 9 + 2, none⟩ = some (.int .i64 x.p.kind) ∧ w'.cell? ⟨g, k * 9 + 3, none⟩ = some (.int .i64 x.p.id) ∧ w'.cell? ⟨g, k * 9 + 4, none⟩ = some (.int .i64 x.p.hops) ∧ w'.cell? ⟨g, k * 9 + 5, none⟩ = some (.bool x.p.whole) ∧ w'.cell? ⟨g, k * 9 + 6, none⟩ = some (.int .i64 x.p.off) ∧ w'.cell? ⟨g, k * 9 + 7, none⟩ = some (.bool x.p.more) ∧ w'.cell? ⟨g, k * 9 + 8, none⟩ = some (.slice x.a x.zs.length x.c) ∧ w'.cell? ⟨g, m * 9, none⟩ = some (.int .i64 y.p.src) ∧ w'.cell? ⟨g, m * 9 + 1, none⟩ = some (.int .i64 y.p.dst) ∧ w'.cell? ⟨g, m * 9 + 2, none⟩ = some (.int .i64 y.p.kind) ∧ w'.cell? ⟨g, m * 9 + 3, none⟩ = some (.int .i64 y.p.id) ∧ w'.cell? ⟨g, m * 9 + 4, none⟩ = some (.int .i64 y.p.hops) ∧ w'.cell? ⟨g, m * 9 + 5, none⟩ = some (.bool y.p.whole) ∧ w'.cell? ⟨g, m * 9 + 6, none⟩ = some (.int .i64 y.p.off) ∧ w'.cell? ⟨g, m * 9 + 7, none⟩ = some (.bool y.p.more) ∧ w'.cell? ⟨g, m * 9 + 8, none⟩ = some (.slice y.a y.zs.length y.c)) (go_keep)
              (first
                | (go_at_call 73; with_reducible refine (KA.out _ (draw1 _)).mono ?_; rintro e w1 ⟨rfl, b1⟩; have hc1 : ∀ b o, b < wr.heap.size → w1.cell? ⟨b, o, none⟩ = _ := fun b o h => b1.cell (p := ⟨b, o, none⟩) (by simpa using h)))
            go_wp2
            go_roundw
            case rel => exact ⟨m + 1, by omega, by go_num, HM.out.succ HX.out HY.out HD.out, HQ.out.drew.trans (b1.mono hsz)⟩
            case measure => simp [intOf]; omega
          · rw [hd] at KA
            have HD : Hid (disagreeL (xs.map RV.key) = true) := not_still HX.out HY.out hd
            clear hd
            go_wp2
            go_region_held3 (fun w' => w'.cell? ⟨g, k * 9, none⟩ = some (.int .i64 x.p.src) ∧ w'.cell? ⟨g, k * 9 + 1, none⟩ = some (.int .i64 x.p.dst) ∧ w'.cell? ⟨g, k * 9 + 2, none⟩ = some (.int .i64 x.p.kind) ∧ w'.cell? ⟨g, k * 9 + 3, none⟩ = some (.int .i64 x.p.id) ∧ w'.cell? ⟨g, k * 9 + 4, none⟩ = some (.int .i64 x.p.hops) ∧ w'.cell? ⟨g, k * 9 + 5, none⟩ = some (.bool x.p.whole) ∧ w'.cell? ⟨g, k * 9 + 6, none⟩ = some (.int .i64 x.p.off) ∧ w'.cell? ⟨g, k * 9 + 7, none⟩ = some (.bool x.p.more) ∧ w'.cell? ⟨g, k * 9 + 8, none⟩ = some (.slice x.a x.zs.length x.c) ∧ w'.cell? ⟨g, m * 9, none⟩ = some (.int .i64 y.p.src) ∧ w'.cell? ⟨g, m * 9 + 1, none⟩ = some (.int .i64 y.p.dst) ∧ w'.cell? ⟨g, m * 9 + 2, none⟩ = some (.int .i64 y.p.kind) ∧ w'.cell? ⟨g, m * 9 + 3, none⟩ = some (.int .i64 y.p.id) ∧ w'.cell? ⟨g, m * 9 + 4, none⟩ = some (.int .i64 y.p.hops) ∧ w'.cell? ⟨g, m * 9 + 5, none⟩ = some (.bool y.p.whole) ∧ w'.cell? ⟨g, m * 9 + 6, none⟩ = some (.int .i64 y.p.off) ∧ w'.cell? ⟨g, m * 9 + 7, none⟩ = some (.bool y.p.more) ∧ w'.cell? ⟨g, m * 9 + 8, none⟩ = some (.slice y.a y.zs.length y.c)) (go_keep)
              (first
                | (go_at_call 73; with_reducible refine (KA.out _ (draw1 _)).mono ?_; rintro e w1 ⟨rfl, b1⟩; have hc1 : ∀ b o, b < wr.heap.size → w1.cell? ⟨b, o, none⟩ = _ := fun b o h => b1.cell (p := ⟨b, o, none⟩) (by simpa using h)))
            go_wp2
            go_ret
            exact ⟨ret_bool HD.out.symm, HQ.out.drew.trans (b1.mono hsz)⟩
        · obtain rfl : m = xs.length := by omega
          go_wp2
          go_roundw
          case rel => exact ⟨k + 1, by omega, by go_num, HC.out.succ HM.out, HQ.out⟩
          case measure => simp [intOf]; omega
    · obtain rfl : k = xs.length := by omega
      go_wp2
      go_ret
      exact ⟨ret_bool (still_all HC.out).symm, HB.out⟩

/-- the end as a number, -1 if none tells it -/
def endI (L : List PB) : Int := match endL L with | some e => e | none => -1

set_option maxRecDepth 100000 in
set_option maxHeartbeats 3200000 in
theorem l3End_any (g cl : Nat) (xs : List RV) (w : World) (hL : RL w g xs) (hm : xs.length ≤ 40) (ho : ∀ x ∈ xs, okB x.p x.zs.length = true) :
    Calls Try.prog 47 #[.slice (some ⟨g, 0, none⟩) xs.length cl] w fun e w' => e = .returned (.int .i64 (endI (xs.map RV.key))) ∧ Below w.heap.size w w' := by
  have HL : Hid (RL w g xs) := hL
  have HO : Hid (∀ x ∈ xs, okB x.p x.zs.length = true) := ho
  clear hL ho
  go_enter Try.func47, Try.ntmps47
  go_wp2
  go_loopw [3] (fun i wr => ∃ k : Nat, k ≤ xs.length ∧ i = .int .i64 k ∧ Hid (∀ j x, j < k → xs[j]? = some x → x.p.more = true) ∧ Hid (Below w.heap.size w wr)) (fun i _ => xs.length - (intOf i).toNat)
  case atStart => exact ⟨0, by omega, rfl, fun j x hj => by omega, Below.refl _ _⟩
  case round =>
    obtain ⟨k, hk, rfl, HC, HB⟩ := hrel
    by_cases hlt : k < xs.length
    · obtain ⟨x, hx⟩ := get_of_lt hlt
      have HX : Hid (xs[k]? = some x) := hx
      have Lr := HL.out.below HB.out
      have hgr := Lr.lt
      have Hk := Lr.elem k x hx
      have hi : (k : Int) < (xs.length : Int) := by omega
      have bx := ok_bounds (HO.out x (List.mem_of_getElem? hx))
      have hp := (Lr.each x (List.mem_of_getElem? hx)).len
      obtain ⟨p, a, c, zs⟩ := x
      obtain ⟨s2, d2, k2, i2, h2, w2, o2, m2⟩ := p
      clear hx Lr
      obtain ⟨c0, c1, c2, c3, c4, c5, c6, c7, c8⟩ := Hk
      obtain ⟨o0, o1, o3⟩ := bx
      cases m2
      · have HE : Hid (endL (xs.map RV.key) = some (o2 + (zs.length : Int))) := by
          refine endL_at (k := k) (map_get HX.out) rfl fun j y hj hy => ?_
          obtain ⟨z, hz, rfl⟩ := get_key hy
          exact HC.out j z hj hz
        go_wp2
        go_quiet (fail)
        go_wp2
        go_ret
        refine ⟨?_, HB.out.trans (Joins.below_draws _ _ _)⟩
        unfold endI
        rw [HE.out]
        rfl
      · go_wp2
        go_roundw
        case rel =>
          refine ⟨k + 1, by omega, by go_num, fun j y hj hy => ?_, HB.out⟩
          rcases Nat.lt_or_ge j k with h | h
          · exact HC.out j y h hy
          · obtain rfl : j = k := by omega
            rw [HX.out] at hy
            obtain rfl := Option.some.inj hy
            rfl
        case measure => simp [intOf]; omega
    · obtain rfl : k = xs.length := by omega
      have HE : Hid (endL (xs.map RV.key) = none) := by
        refine endL_none fun j y hy => ?_
        obtain ⟨z, hz, rfl⟩ := get_key hy
        exact HC.out j z (lt_of_get hz) hz
      go_wp2
      go_ret
      refine ⟨?_, HB.out⟩
      unfold endI
      rw [HE.out]
      rfl

/-- the first that has a byte, -1 if none has it -/
def WhoIs (xs : List RV) (at_ r : Int) : Prop := (∃ (i : Nat) (x : RV), r = (i : Int) ∧ xs[i]? = some x ∧ (xs.map RV.key).find? (fun y => hasB y at_) = some x.key ∧ hasB x.key at_ = true) ∨ (r = -1 ∧ (xs.map RV.key).find? (fun y => hasB y at_) = none)
theorem find_at {L : List PB} {f : PB → Bool} {k : Nat} {x : PB} (hx : L[k]? = some x) (hf : f x = true) (h : ∀ j y, j < k → L[j]? = some y → f y = false) : L.find? f = some x := by
  induction L generalizing k with
  | nil => simp at hx
  | cons z r ih =>
    match k with
    | 0 =>
      simp at hx
      subst hx
      simp [List.find?, hf]
    | k + 1 =>
      have hz := h 0 z (by omega) rfl
      simp at hx
      simp only [List.find?, hz]
      exact ih hx (fun j y hj hy => h (j + 1) y (by omega) (by simpa using hy))

set_option maxRecDepth 100000 in
set_option maxHeartbeats 3200000 in
theorem l3Who_any (g cl : Nat) (xs : List RV) (at_ : Int) (w : World) (hL : RL w g xs) (hm : xs.length ≤ 40) (ho : ∀ x ∈ xs, okB x.p x.zs.length = true) :
    Calls Try.prog 49 #[.slice (some ⟨g, 0, none⟩) xs.length cl, .int .i64 at_] w fun e w' => ∃ r, e = .returned (.int .i64 r) ∧ WhoIs xs at_ r ∧ Below w.heap.size w w' := by
  have HL : Hid (RL w g xs) := hL
  have HO : Hid (∀ x ∈ xs, okB x.p x.zs.length = true) := ho
  clear hL ho
  go_enter Try.func49, Try.ntmps49
  go_wp2
  go_loopw [5] (fun i wr => ∃ k : Nat, k ≤ xs.length ∧ i = .int .i64 k ∧ Hid (∀ j x, j < k → xs[j]? = some x → hasB x.key at_ = false) ∧ Hid (Below w.heap.size w wr)) (fun i _ => xs.length - (intOf i).toNat)
  case atStart => exact ⟨0, by omega, rfl, fun j x hj => by omega, Below.refl _ _⟩
  case round =>
    obtain ⟨k, hk, rfl, HC, HB⟩ := hrel
    have hsz := HB.out.size
    by_cases hlt : k < xs.length
    · obtain ⟨x, hx⟩ := get_of_lt hlt
      have HX : Hid (xs[k]? = some x) := hx
      have Lr := HL.out.below HB.out
      have hgr := Lr.lt
      have Hk := Lr.elem k x hx
      have hi : (k : Int) < (xs.length : Int) := by omega
      have bx := ok_bounds (HO.out x (List.mem_of_getElem? hx))
      have hp := (Lr.each x (List.mem_of_getElem? hx)).len
      clear hx Lr
      obtain ⟨c0, c1, c2, c3, c4, c5, c6, c7, c8⟩ := Hk
      have KH : Hid (∀ W : World, Calls Try.prog 74 #[.agg #[.int .i64 x.p.src, .int .i64 x.p.dst, .int .i64 x.p.kind, .int .i64 x.p.id, .int .i64 x.p.hops, .bool x.p.whole, .int .i64 x.p.off, .bool x.p.more, .slice x.a x.zs.length x.c], .int .i64 at_] W fun e w' => e = .returned (.bool (hasB x.key at_)) ∧ Below W.heap.size W w') := fun W => l3Has_any x.p x.a x.zs x.c at_ W bx.1 bx.2.1 hp
      cases hh : hasB x.key at_
      · rw [hh] at KH
        have HH : Hid (hasB x.key at_ = false) := hh
        clear hh
        go_wp2_with (go_at_call 74; with_reducible refine (KH.out _).mono ?_; rintro e w1 ⟨rfl, b1⟩)
        go_roundw
        case rel =>
          refine ⟨k + 1, by omega, by go_num, fun j y hj hy => ?_, HB.out.trans (b1.mono hsz)⟩
          rcases Nat.lt_or_ge j k with h | h
          · exact HC.out j y h hy
          · obtain rfl : j = k := by omega
            rw [HX.out] at hy
            obtain rfl := Option.some.inj hy
            exact HH.out
        case measure => simp [intOf]; omega
      · rw [hh] at KH
        have HF : Hid ((xs.map RV.key).find? (fun y => hasB y at_) = some x.key) := find_at (map_get HX.out) hh fun j y hj hy => by
          obtain ⟨z, hz, rfl⟩ := get_key hy
          exact HC.out j z hj hz
        have HH : Hid (hasB x.key at_ = true) := hh
        clear hh
        go_wp2_with (go_at_call 74; with_reducible refine (KH.out _).mono ?_; rintro e w1 ⟨rfl, b1⟩)
        go_ret
        exact ⟨k, rfl, Or.inl ⟨k, x, rfl, HX.out, HF.out, HH.out⟩, HB.out.trans (b1.mono hsz)⟩
    · obtain rfl : k = xs.length := by omega
      go_wp2
      go_ret
      refine ⟨-1, rfl, Or.inr ⟨rfl, List.find?_eq_none.2 fun y hy => ?_⟩, HB.out⟩
      obtain ⟨x, hx, rfl⟩ := List.mem_map.1 hy
      obtain ⟨j, hj⟩ := List.getElem?_of_mem hx
      rw [HC.out j x (lt_of_get hj) hj]
      simp
end Go.Proofs.Ytjbkgmbakjnlhaa
