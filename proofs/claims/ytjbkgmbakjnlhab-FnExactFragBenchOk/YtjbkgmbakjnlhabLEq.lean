/- Lists of packets of the laws: compared, marked. -/
import Derived.Test.YtjbkgmbakjnlhabLMake
import Derived.Test.YtjbkgmbakjnlhabMark
import Derived.Deep.RegionHeld3
namespace Go.Proofs.Ytjbkgmbakjnlhab
open Go.RowKit

set_option maxRecDepth 100000 in
set_option maxHeartbeats 6400000 in
theorem eqFragPacketS_same (g g' cl cl' : Nat) (xs ys : List RV) (w : World) (hL : RL w g xs) (hL' : RL w g' ys) (hk : ys.map RV.key = xs.map RV.key) (hm : xs.length ≤ 1048576) :
    Calls Try.prog 15 #[.slice (some ⟨g, 0, none⟩) xs.length cl, .slice (some ⟨g', 0, none⟩) xs.length cl'] w fun e w' => e = .returned (.bool true) ∧ Below w.heap.size w w' := by
  have HL : Hid (RL w g xs) := hL
  have HL' : Hid (RL w g' ys) := hL'
  have HK : Hid (ys.map RV.key = xs.map RV.key) := hk
  have hne : ((xs.length : Int) != (xs.length : Int)) = false := by simp
  clear hL hL' hk
  go_enter Try.func15, Try.ntmps15
  go_wp2
  go_loopw [5] (fun i wr => ∃ k : Nat, k ≤ xs.length ∧ i = .int .i64 k ∧ Hid (Below w.heap.size w wr)) (fun i _ => xs.length - (intOf i).toNat)
  case atStart => exact ⟨0, by omega, rfl, Below.refl _ _⟩
  case round =>
    obtain ⟨k, hk, rfl, HB⟩ := hrel
    have hsz := HB.out.size
    by_cases hlt : k < xs.length
    · obtain ⟨x, hx⟩ := get_of_lt hlt
      have hyl : ys.length = xs.length := by have := congrArg List.length HK.out; simpa using this
      obtain ⟨y, hy⟩ := get_of_lt (show k < ys.length by omega)
      have hkey : y.key = x.key := by
        have h := congrArg (fun l => l[k]?) HK.out
        simp only [List.getElem?_map, hx, hy, Option.map_some] at h
        exact Option.some.inj h
      have hp : y.p = x.p := congrArg Prod.fst hkey
      have hz : y.zs = x.zs := congrArg Prod.snd hkey
      have Lr := HL.out.below HB.out
      have Lr' := HL'.out.below HB.out
      have hi : (k : Int) < (xs.length : Int) := by omega
      obtain ⟨c0, c1, c2, c3, c4, c5, c6, c7, c8⟩ := Lr.elem k x hx
      have Ey := Lr'.elem k y hy
      have RX : Hid (ROk wr x) := Lr.each x (List.mem_of_getElem? hx)
      have RY := (Lr'.each y (List.mem_of_getElem? hy)).rd
      rw [hz] at RY
      have RYH : Hid (RdB wr y.a x.zs.length x.zs) := RY
      obtain ⟨k0, k1, k2, k3, k4, k5, k6, k7, k8⟩ := Ey
      rw [hp] at k0 k1 k2 k3 k4 k5 k6 k7
      rw [hz] at k8
      have hgr := Lr.lt
      have hgr' := Lr'.lt
      have KE : Hid (∀ W : World, Below wr.heap.size wr W → Calls Try.prog 10 #[.agg #[.int .i64 x.p.src, .int .i64 x.p.dst, .int .i64 x.p.kind, .int .i64 x.p.id, .int .i64 x.p.hops, .bool x.p.whole, .int .i64 x.p.off, .bool x.p.more, .slice x.a x.zs.length x.c], .agg #[.int .i64 x.p.src, .int .i64 x.p.dst, .int .i64 x.p.kind, .int .i64 x.p.id, .int .i64 x.p.hops, .bool x.p.whole, .int .i64 x.p.off, .bool x.p.more, .slice y.a x.zs.length y.c]] W fun e w' => e = .returned (.bool true) ∧ Below W.heap.size W w') := fun W h => eqFragPacket_same x.p x.a y.a x.zs.length x.c y.c x.zs W (RX.out.rd.below h) (RYH.out.below h) RX.out.len
      clear hx hy Lr Lr' RY hkey hp hz
      go_wp2
      go_region_held3 (fun w' => w'.cell? ⟨g, k * 9, none⟩ = some (.int .i64 x.p.src) ∧ w'.cell? ⟨g, k * 9 + 1, none⟩ = some (.int .i64 x.p.dst) ∧ w'.cell? ⟨g, k * 9 + 2, none⟩ = some (.int .i64 x.p.kind) ∧ w'.cell? ⟨g, k * 9 + 3, none⟩ = some (.int .i64 x.p.id) ∧ w'.cell? ⟨g, k * 9 + 4, none⟩ = some (.int .i64 x.p.hops) ∧ w'.cell? ⟨g, k * 9 + 5, none⟩ = some (.bool x.p.whole) ∧ w'.cell? ⟨g, k * 9 + 6, none⟩ = some (.int .i64 x.p.off) ∧ w'.cell? ⟨g, k * 9 + 7, none⟩ = some (.bool x.p.more) ∧ w'.cell? ⟨g, k * 9 + 8, none⟩ = some (.slice x.a x.zs.length x.c) ∧ w'.cell? ⟨g', k * 9, none⟩ = some (.int .i64 x.p.src) ∧ w'.cell? ⟨g', k * 9 + 1, none⟩ = some (.int .i64 x.p.dst) ∧ w'.cell? ⟨g', k * 9 + 2, none⟩ = some (.int .i64 x.p.kind) ∧ w'.cell? ⟨g', k * 9 + 3, none⟩ = some (.int .i64 x.p.id) ∧ w'.cell? ⟨g', k * 9 + 4, none⟩ = some (.int .i64 x.p.hops) ∧ w'.cell? ⟨g', k * 9 + 5, none⟩ = some (.bool x.p.whole) ∧ w'.cell? ⟨g', k * 9 + 6, none⟩ = some (.int .i64 x.p.off) ∧ w'.cell? ⟨g', k * 9 + 7, none⟩ = some (.bool x.p.more) ∧ w'.cell? ⟨g', k * 9 + 8, none⟩ = some (.slice y.a x.zs.length y.c)) (go_keep)
        (first
          | (go_at_call 10; (with_reducible refine (KE.out _ (draw1 _)).mono ?_); rintro e w1 ⟨rfl, b1⟩; have hc1 : ∀ b o, b < wr.heap.size → w1.cell? ⟨b, o, none⟩ = wr.cell? ⟨b, o, none⟩ := fun b o h => b1.cell (p := ⟨b, o, none⟩) h))
      go_wp2
      go_roundw
      case rel => exact ⟨k + 1, by omega, by go_num, HB.out.drew.trans (b1.mono hsz)⟩
      case measure => simp [intOf]; omega
    · go_wp2
      go_ret
      exact ⟨rfl, HB.out⟩

/-- what a block of packets must be, to be marked: the places of the bytes alone are told -/
structure MB (w : World) (gL n : Nat) (ys : List RV) : Prop where
  blk : ∃ cur : Array Value, w.heap[gL]? = some (.cells cur 27 (0, 0)) ∧ cur.size = n * 9 ∧ ∀ (i : Nat) y, ys[i]? = some y → cur[i * 9 + 8]? = some (.slice y.a y.zs.length y.zs.length)
  each : ∀ y ∈ ys, ∃ gy zs, y.a = some ⟨gy, 0, none⟩ ∧ zs.length = y.zs.length ∧ w.heap[gy]? = some (.cells (cellsOf zs) 5 (0, 0))
theorem LB.mb {w : World} {lo gL n : Nat} {ys : List RV} (h : LB w lo gL n ys) : MB w gL n ys := by
  refine ⟨?_, fun y hy => ?_⟩
  · obtain ⟨cur, hc, hs, r⟩ := h.blk
    refine ⟨cur, hc, hs, fun i y hy => ?_⟩
    rw [r i y hy 8 (by omega)]
    obtain ⟨gy, _, h2, _⟩ := h.each y (List.mem_of_getElem? hy)
    rw [h2]
    rfl
  · obtain ⟨gy, h1, _, _, h4, _⟩ := h.each y hy
    exact ⟨gy, y.zs, h1, rfl, h4⟩
/-- what marking leaves alone: all blocks but the list's own and those of its bytes -/
def Away (gL : Nat) (ys : List RV) (b : Nat) : Prop := b ≠ gL ∧ ∀ y ∈ ys, ∀ gy, y.a = some ⟨gy, 0, none⟩ → b ≠ gy
structure Left (gL : Nat) (ys : List RV) (w wr : World) : Prop where
  os : wr.os = w.os
  tape : wr.tape = w.tape
  output : wr.output = w.output
  size : w.heap.size ≤ wr.heap.size
  block : ∀ b, b < w.heap.size → Away gL ys b → wr.heap[b]? = w.heap[b]?

theorem put8_far {cur : Array Value} {o q : Nat} (x0 x1 x2 x3 x4 x5 x6 x7 : Value) (h : q < o ∨ o + 8 ≤ q) : (((((((((cur.setIfInBounds o x0).setIfInBounds (o + 1) x1).setIfInBounds (o + 2) x2).setIfInBounds (o + 3) x3).setIfInBounds (o + 4) x4).setIfInBounds (o + 5) x5).setIfInBounds (o + 6) x6).setIfInBounds (o + 7) x7))[q]? = cur[q]? := by
  simp only [Array.getElem?_setIfInBounds]
  repeat rw [if_neg (by omega)]
theorem far8 (w : World) (g o k : Nat) (h : k ≠ g) (x0 x1 x2 x3 x4 x5 x6 x7 : Value) : ((((((((w.setCell ⟨g, o, none⟩ x0).setCell ⟨g, o + 1, none⟩ x1).setCell ⟨g, o + 2, none⟩ x2).setCell ⟨g, o + 3, none⟩ x3).setCell ⟨g, o + 4, none⟩ x4).setCell ⟨g, o + 5, none⟩ x5).setCell ⟨g, o + 6, none⟩ x6).setCell ⟨g, o + 7, none⟩ x7).heap[k]? = w.heap[k]? :=
  ((Below.heap_setCell _ _ _ _ h).trans ((Below.heap_setCell _ _ _ _ h).trans ((Below.heap_setCell _ _ _ _ h).trans ((Below.heap_setCell _ _ _ _ h).trans ((Below.heap_setCell _ _ _ _ h).trans ((Below.heap_setCell _ _ _ _ h).trans ((Below.heap_setCell _ _ _ _ h).trans (Below.heap_setCell _ _ _ _ h))))))))
/-- eight fields of a packet marked -/
theorem MB.put8 {w : World} {gL n k : Nat} {ys : List RV} (h : MB w gL n ys) (x0 x1 x2 x3 x4 x5 x6 x7 : Value) :
    MB ((((((((w.setCell ⟨gL, k * 9, none⟩ x0).setCell ⟨gL, k * 9 + 1, none⟩ x1).setCell ⟨gL, k * 9 + 2, none⟩ x2).setCell ⟨gL, k * 9 + 3, none⟩ x3).setCell ⟨gL, k * 9 + 4, none⟩ x4).setCell ⟨gL, k * 9 + 5, none⟩ x5).setCell ⟨gL, k * 9 + 6, none⟩ x6).setCell ⟨gL, k * 9 + 7, none⟩ x7) gL n ys := by
  obtain ⟨cur, hc, hs, r⟩ := h.blk
  refine ⟨⟨_, set_at (set_at (set_at (set_at (set_at (set_at (set_at (set_at hc))))))), by simp only [Array.size_setIfInBounds]; exact hs, fun i y hy => ?_⟩, fun y hy => ?_⟩
  · rw [put8_far _ _ _ _ _ _ _ _ (by omega)]
    exact r i y hy
  · obtain ⟨gy, zs, h1, h2, h3⟩ := h.each y hy
    have hne : gy ≠ gL := fun e => by
      rw [e, hc] at h3
      cases h3
    exact ⟨gy, zs, h1, h2, (far8 _ _ _ _ hne _ _ _ _ _ _ _ _).trans h3⟩
theorem Left.put8 {gL : Nat} {ys : List RV} {w wr : World} {k : Nat} (h : Left gL ys w wr) (x0 x1 x2 x3 x4 x5 x6 x7 : Value) :
    Left gL ys w ((((((((wr.setCell ⟨gL, k * 9, none⟩ x0).setCell ⟨gL, k * 9 + 1, none⟩ x1).setCell ⟨gL, k * 9 + 2, none⟩ x2).setCell ⟨gL, k * 9 + 3, none⟩ x3).setCell ⟨gL, k * 9 + 4, none⟩ x4).setCell ⟨gL, k * 9 + 5, none⟩ x5).setCell ⟨gL, k * 9 + 6, none⟩ x6).setCell ⟨gL, k * 9 + 7, none⟩ x7) :=
  ⟨by simpa [World.setCell] using h.os, by simpa [World.setCell] using h.tape, by simpa [World.setCell] using h.output, by simpa [World.setCell] using h.size, fun b hb ha => (far8 _ _ _ _ ha.1 _ _ _ _ _ _ _ _).trans (h.block b hb ha)⟩
/-- behind the marking of a packet's bytes -/
theorem MB.bytes {w w' : World} {gL n gy m : Nat} {k : Int} {ys : List RV} (h : MB w gL n ys) (hg : w.grownBy w' (some gy)) (ho : w'.ownsRow gy 5 1 (.slice (some ⟨gy, 0, none⟩) m m) m ((marks k m).map (.int .u8))) (hm : ∃ zs : List Int, zs.length = m ∧ w.heap[gy]? = some (.cells (cellsOf zs) 5 (0, 0))) : MB w' gL n ys := by
  obtain ⟨cur, hc, hs, r⟩ := h.blk
  obtain ⟨zs0, hz0, hd0⟩ := hm
  have hne : gy ≠ gL := fun e => by
    rw [e, hc] at hd0
    cases hd0
  refine ⟨⟨cur, (hg.block _ (lt_of_block hc) (fun e => hne (Option.some.inj e).symm)).trans hc, hs, r⟩, fun y hy => ?_⟩
  obtain ⟨gy', zs, h1, h2, h3⟩ := h.each y hy
  by_cases e : gy' = gy
  · subst e
    rw [hd0] at h3
    have hzz : zs.length = zs0.length := by
      have := congrArg (fun o => match o with | some (.cells c _ _) => c.size | _ => 0) h3
      simp [cellsOf] at this
      omega
    rcases ho.2 with ⟨hv, _⟩ | ⟨g2, cap, cu, hv, _, hh, hcap, _, hsz, htk⟩
    · cases hv
    · cases hv
      refine ⟨gy', marks k m, h1, by rw [marks_length]; omega, hh.trans ?_⟩
      have : cu = cellsOf (marks k m) := by
        apply Array.ext'
        simp only [cellsOf, Nat.mul_one] at htk hsz ⊢
        rw [← htk]
        exact (List.take_of_length_le (by simp; omega)).symm
      rw [this]
  · exact ⟨gy', zs, h1, h2, (hg.block _ (lt_of_block h3) (fun e' => e (Option.some.inj e'))).trans h3⟩
theorem Left.bytes {gL gy : Nat} {ys : List RV} {y : RV} {w wr w' : World} (h : Left gL ys w wr) (hg : wr.grownBy w' (some gy)) (hy : y ∈ ys) (ha : y.a = some ⟨gy, 0, none⟩) : Left gL ys w w' :=
  ⟨hg.os.trans h.os, hg.tape.trans h.tape, hg.output.trans h.output, Nat.le_trans h.size hg.size, fun b hb hA => (hg.block b (Nat.lt_of_lt_of_le hb h.size) (fun e => hA.2 y hy gy ha (Option.some.inj e))).trans (h.block b hb hA)⟩
end Go.Proofs.Ytjbkgmbakjnlhab
