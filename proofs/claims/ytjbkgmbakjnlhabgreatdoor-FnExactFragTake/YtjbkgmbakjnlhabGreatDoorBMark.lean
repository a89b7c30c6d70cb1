/- Marks of a bench: what is written, what is kept, what is found again. -/
import Derived.Test.YtjbkgmbakjnlhabGreatDoorPartAp
namespace Go.Proofs.YtjbkgmbakjnlhabGreatDoor
set_option maxRecDepth 100000
open Go.RowKit

/-- marking writes these blocks alone, keeps their shape, and no place of a slice -/
structure Mk (F : List Nat) (w w' : World) : Prop where
  os : w'.os = w.os
  tape : w'.tape = w.tape
  output : w'.output = w.output
  size : w.heap.size ≤ w'.heap.size
  block : ∀ b, b < w.heap.size → b ∉ F → w'.heap[b]? = w.heap[b]?
  shape : ∀ (b : Nat) (cur : Array Value) (t : TypeId), w.heap[b]? = some (.cells cur t (0, 0)) → ∃ cur' : Array Value, w'.heap[b]? = some (.cells cur' t (0, 0)) ∧ cur'.size = cur.size ∧ (t = 33 → ∀ o, o % 9 = 8 → cur'[o]? = cur[o]?) ∧ (t = 71 → ∀ o, o % 3 = 0 → cur'[o]? = cur[o]?)
theorem Mk.refl (F : List Nat) (w : World) : Mk F w w := ⟨rfl, rfl, rfl, Nat.le_refl _, fun _ _ _ => rfl, fun _ cur _ h => ⟨cur, h, rfl, fun _ _ _ => rfl, fun _ _ _ => rfl⟩⟩
theorem Mk.trans {F G H : List Nat} {a b c : World} (h : Mk F a b) (k : Mk G b c) (hF : ∀ x ∈ F, x ∈ H) (hG : ∀ x ∈ G, x ∈ H) : Mk H a c := by
  refine ⟨k.os.trans h.os, k.tape.trans h.tape, k.output.trans h.output, Nat.le_trans h.size k.size, fun x hx hn => ?_, fun x cur t hc => ?_⟩
  · exact (k.block x (Nat.lt_of_lt_of_le hx h.size) (fun h' => hn (hG x h'))).trans (h.block x hx (fun h' => hn (hF x h')))
  · obtain ⟨c1, h1, h2, h3, h4⟩ := h.shape x cur t hc
    obtain ⟨c2, k1, k2, k3, k4⟩ := k.shape x c1 t h1
    exact ⟨c2, k1, k2.trans h2, fun e o ho => (k3 e o ho).trans (h3 e o ho), fun e o ho => (k4 e o ho).trans (h4 e o ho)⟩
theorem Mk.below {F : List Nat} {w w' : World} (hb : Below w.heap.size w w') : Mk F w w' :=
  ⟨hb.os, hb.tape, hb.output, hb.size, fun b h _ => hb.block b h, fun b cur _ h => ⟨cur, (hb.block b (lt_of_block h)).trans h, rfl, fun _ _ _ => rfl, fun _ _ _ => rfl⟩⟩
theorem Mk.set {F : List Nat} {a w : World} {g o : Nat} {cur : Array Value} {t : TypeId} {v : Value} (h : Mk F a w) (hc : w.heap[g]? = some (.cells cur t (0, 0))) (hF : g ∈ F) (h9 : t = 33 → o % 9 ≠ 8) (h3 : t = 71 → o % 3 ≠ 0) : Mk F a (w.setCell ⟨g, o, none⟩ v) := by
  refine ⟨by simpa [World.setCell] using h.os, by simpa [World.setCell] using h.tape, by simpa [World.setCell] using h.output, by simpa [World.setCell] using h.size, fun b hb hn => ?_, fun b c0 t0 hb => ?_⟩
  · have hne : b ≠ g := fun e => hn (e ▸ hF)
    exact (Below.heap_setCell _ _ _ _ hne).trans (h.block b hb hn)
  · obtain ⟨c1, h1, h2, h5, h6⟩ := h.shape b c0 t0 hb
    by_cases e : b = g
    · subst e
      rw [hc] at h1
      cases h1
      refine ⟨_, set_at hc, by rw [Array.size_setIfInBounds]; exact h2, fun e1 q hq => ?_, fun e1 q hq => ?_⟩
      · rw [Array.getElem?_setIfInBounds_ne (by intro e2; subst e2; exact h9 e1 hq)]
        exact h5 e1 q hq
      · rw [Array.getElem?_setIfInBounds_ne (by intro e2; subst e2; exact h3 e1 hq)]
        exact h6 e1 q hq
    · exact ⟨c1, (Below.heap_setCell _ _ _ _ e).trans h1, h2, h5, h6⟩

/-- bytes that can be marked -/
def SkY (w : World) (ao : Option Addr) (n : Nat) : Prop := (ao = none ∧ n = 0) ∨ ∃ (g : Nat) (cur : Array Value), ao = some ⟨g, 0, none⟩ ∧ w.heap[g]? = some (.cells cur 5 (0, 0)) ∧ n ≤ cur.size
theorem SkY.mkd {F : List Nat} {w w' : World} {ao : Option Addr} {n : Nat} (h : SkY w ao n) (hm : Mk F w w') : SkY w' ao n := by
  refine h.imp id ?_
  rintro ⟨g, cur, h1, h2, h3⟩
  obtain ⟨c', k1, k2, _⟩ := hm.shape _ _ _ h2
  exact ⟨g, c', h1, k1, by omega⟩
def ablk (ao : Option Addr) : List Nat := (ao.map (·.block)).toList
/-- marked bytes -/
def MkY (w : World) (ao : Option Addr) (n : Nat) (k : Int) : Prop := ∀ g, ao = some ⟨g, 0, none⟩ → ∀ j : Nat, j < n → w.cell? ⟨g, j, none⟩ = some (.int .u8 ((k + (j : Int)) % 256))
theorem MkY.kept {w w' : World} {ao : Option Addr} {n : Nat} {k : Int} (h : MkY w ao n k) (hk : ∀ g, ao = some ⟨g, 0, none⟩ → w'.heap[g]? = w.heap[g]?) : MkY w' ao n k := by
  intro g hg j hj
  rw [show w'.cell? ⟨g, j, none⟩ = w.cell? ⟨g, j, none⟩ from by unfold World.cell?; rw [hk g hg]]
  exact h g hg j hj

set_option maxHeartbeats 800000 in
theorem markByteS_raw (ao : Option Addr) (len cap : Nat) (k : Int) (w : World) (h : SkY w ao len) (h0 : 0 ≤ k) (h1 : k + len ≤ 4611686018427387904) :
    Calls Tryz.prog 37 #[.slice ao len cap, .int .i64 k] w fun e w' => e = .returned (.int .i64 (k + len)) ∧ Mk (ablk ao) w w' ∧ MkY w' ao len k := by
  rcases h with ⟨rfl, rfl⟩ | ⟨g, cur, rfl, hc, hl⟩
  · go_enter Tryz.func37, Tryz.ntmps37
    go_wp2
    refine wp_loop_rounds 1 ?_
    rw [rounds_succ]
    go_wp2
    go_ret
    exact ⟨ret_int (by simp), Mk.refl _ _, fun g h => by cases h⟩
  · have HO : Hid (w.heap[g]? = some (.cells cur 5 (0, 0)) ∧ len ≤ cur.size) := ⟨hc, hl⟩
    clear hc hl
    go_enter Tryz.func37, Tryz.ntmps37
    go_wp2
    go_loopw [1, 5] (fun t i wr => ∃ j : Nat, j ≤ len ∧ i = .int .i64 j ∧ t = .int .i64 (k + j) ∧ Hid (∃ cu : Array Value, wr.heap[g]? = some (.cells cu 5 (0, 0)) ∧ len ≤ cu.size ∧ ∀ q : Nat, q < j → cu[q]? = some (.int .u8 ((k + (q : Int)) % 256))) ∧ Hid (Mk [g] w wr)) (fun _ i _ => len - (intOf i).toNat)
    case atStart => exact ⟨0, Nat.zero_le _, rfl, by simp, ⟨cur, HO.out.1, HO.out.2, fun q h => absurd h (Nat.not_lt_zero _)⟩, Mk.refl _ _⟩
    case round =>
      obtain ⟨j, hj, rfl, rfl, HJ, HG⟩ := hrel
      obtain ⟨cu, hcu, hcl, hq⟩ := HJ.out
      by_cases hlt : j < len
      · obtain ⟨u, hu⟩ := cells_there (cur := cu) (o := j) (by omega)
        have hcell : wr.cell? ⟨g, j, none⟩ = some u := (cell_of_row _ _ _ _ _ _ hcu).trans hu
        have hfr := Joins.unfrozen_of_block hcu j
        have HC : Hid (wr.heap[g]? = some (.cells cu 5 (0, 0)) ∧ len ≤ cu.size ∧ ∀ q : Nat, q < j → cu[q]? = some (.int .u8 ((k + (q : Int)) % 256))) := ⟨hcu, hcl, hq⟩
        clear hcu hcl hq hu
        go_wp2
        go_roundw
        case rel =>
          obtain ⟨e1, e2, e3⟩ := HC.out
          refine ⟨j + 1, by omega, by go_num, by go_num, ⟨_, set_at e1, by rw [Array.size_setIfInBounds]; exact e2, fun q hq => ?_⟩, HG.out.set e1 (List.mem_singleton.2 rfl) (by intro h; cases h) (by intro h; cases h)⟩
          by_cases e : q = j
          · subst e
            rw [Array.getElem?_setIfInBounds_self_of_lt (by omega)]
          · rw [Array.getElem?_setIfInBounds_ne (by omega)]
            exact e3 q (by omega)
        case measure => simp [intOf]; omega
      · obtain rfl : j = len := by omega
        have HC : Hid (wr.heap[g]? = some (.cells cu 5 (0, 0)) ∧ ∀ q : Nat, q < j → cu[q]? = some (.int .u8 ((k + (q : Int)) % 256))) := ⟨hcu, hq⟩
        clear hcu hcl hq
        go_wp2
        go_ret
        refine ⟨rfl, HG.out, fun g' e q hq => ?_⟩
        cases e
        exact (cell_of_row _ _ _ _ _ _ HC.out.1).trans (HC.out.2 q hq)

set_option maxHeartbeats 800000 in
theorem heldByteS_raw (ao : Option Addr) (len cap : Nat) (k : Int) (w : World) (h : SkY w ao len) (hm : MkY w ao len k) (h0 : 0 ≤ k) (h1 : k + len ≤ 4611686018427387904) :
    Calls Tryz.prog 39 #[.slice ao len cap, .int .i64 k] w fun e w' => e = .returned (.int .i64 (k + len)) ∧ w' = w := by
  rcases h with ⟨rfl, rfl⟩ | ⟨g, cur, rfl, hc, hl⟩
  · clear hm
    go_enter Tryz.func39, Tryz.ntmps39
    go_wp2
    refine wp_loop_rounds 1 ?_
    rw [rounds_succ]
    go_wp2
    go_ret
    exact ⟨ret_int (by simp), rfl⟩
  · have hc : ∀ j : Nat, j < len → w.cell? ⟨g, j, none⟩ = some (.int .u8 ((k + (j : Int)) % 256)) := hm g rfl
    have hne : ∀ x : Int, (x != x) = false := fun x => by simp
    clear hm
    go_enter Tryz.func39, Tryz.ntmps39
    go_wp2
    go_loop [1, 5] (fun t i => ∃ j : Nat, j ≤ len ∧ i = .int .i64 j ∧ t = .int .i64 (k + j)) (fun _ i => len - (intOf i).toNat)
    case atStart => exact ⟨0, Nat.zero_le _, rfl, by simp⟩
    case round =>
      obtain ⟨j, hj, rfl, rfl⟩ := hrel
      by_cases hlt : j < len
      · have hcell := hc j hlt
        clear hc
        go_wp2
        go_round
        case rel => exact ⟨j + 1, by omega, by go_num, by go_num⟩
        case measure => simp [intOf]; omega
      · go_wp2
        go_ret
        have e : j = len := by omega
        subst e
        exact ⟨rfl, rfl⟩

/-- packets that can be marked -/
structure SkL (w : World) (gL : Nat) (ys : List RV) : Prop where
  blk : ∃ cur : Array Value, w.heap[gL]? = some (.cells cur 33 (0, 0)) ∧ ys.length * 9 ≤ cur.size ∧ ∀ (i : Nat) y, ys[i]? = some y → cur[i * 9 + 8]? = some (.slice y.a y.zs.length y.c)
  each : ∀ y ∈ ys, SkY w y.a y.zs.length
theorem SkL.mkd {F : List Nat} {w w' : World} {gL : Nat} {ys : List RV} (h : SkL w gL ys) (hm : Mk F w w') : SkL w' gL ys := by
  refine ⟨?_, fun y hy => (h.each y hy).mkd hm⟩
  obtain ⟨cur, h1, h2, h3⟩ := h.blk
  obtain ⟨c', k1, k2, k3, _⟩ := hm.shape _ _ _ h1
  exact ⟨c', k1, by omega, fun i y hy => (k3 rfl _ (by omega)).trans (h3 i y hy)⟩
def lblk (gL : Nat) (ys : List RV) : List Nat := gL :: ys.flatMap (fun y => ablk y.a)
def koff (ys : List RV) (i : Nat) : Int := 8 * (i : Int) + (sumLen (ys.take i) : Int)
structure Mk8 (w : World) (gL i : Nat) (k : Int) : Prop where
  c0 : w.cell? ⟨gL, i * 9, none⟩ = some (.int .i64 k)
  c1 : w.cell? ⟨gL, i * 9 + 1, none⟩ = some (.int .i64 (k + 1))
  c2 : w.cell? ⟨gL, i * 9 + 2, none⟩ = some (.int .i64 (k + 1 + 1))
  c3 : w.cell? ⟨gL, i * 9 + 3, none⟩ = some (.int .i64 (k + 1 + 1 + 1))
  c4 : w.cell? ⟨gL, i * 9 + 4, none⟩ = some (.int .i64 (k + 1 + 1 + 1 + 1))
  c5 : w.cell? ⟨gL, i * 9 + 5, none⟩ = some (.bool ((k + 1 + 1 + 1 + 1 + 1) % 3 == 0))
  c6 : w.cell? ⟨gL, i * 9 + 6, none⟩ = some (.int .i64 (k + 1 + 1 + 1 + 1 + 1 + 1))
  c7 : w.cell? ⟨gL, i * 9 + 7, none⟩ = some (.bool ((k + 1 + 1 + 1 + 1 + 1 + 1 + 1) % 3 == 0))
theorem Mk8.kept {w w' : World} {gL i : Nat} {k : Int} (h : Mk8 w gL i k) (hk : ∀ j, j < 8 → w'.cell? ⟨gL, i * 9 + j, none⟩ = w.cell? ⟨gL, i * 9 + j, none⟩) : Mk8 w' gL i k :=
  ⟨(hk 0 (by omega)).trans h.c0, (hk 1 (by omega)).trans h.c1, (hk 2 (by omega)).trans h.c2, (hk 3 (by omega)).trans h.c3, (hk 4 (by omega)).trans h.c4, (hk 5 (by omega)).trans h.c5, (hk 6 (by omega)).trans h.c6, (hk 7 (by omega)).trans h.c7⟩
/-- the first packets marked -/
def MkU (w : World) (gL : Nat) (ys : List RV) (k : Int) (m : Nat) : Prop := ∀ (i : Nat) y, i < m → ys[i]? = some y → Mk8 w gL i (k + koff ys i) ∧ MkY w y.a y.zs.length (k + koff ys i + 8)
theorem cell_kept {w w' : World} {g o : Nat} (h : w'.heap[g]? = w.heap[g]?) : w'.cell? ⟨g, o, none⟩ = w.cell? ⟨g, o, none⟩ := by
  unfold World.cell?; rw [h]
theorem MkU.kept {w w' : World} {gL : Nat} {ys : List RV} {k : Int} {m : Nat} (h : MkU w gL ys k m) (hk : ∀ b ∈ lblk gL ys, w'.heap[b]? = w.heap[b]?) : MkU w' gL ys k m := by
  intro i y hi hy
  obtain ⟨h1, h2⟩ := h i y hi hy
  refine ⟨h1.kept fun j _ => cell_kept (hk gL (List.mem_cons_self ..)), h2.kept fun g hg => hk g ?_⟩
  exact List.mem_cons_of_mem _ (List.mem_flatMap.2 ⟨y, List.mem_of_getElem? hy, by simp [ablk, hg]⟩)
theorem mk8_put {w : World} {gL m : Nat} {cur : Array Value} (k : Int) (hc : w.heap[gL]? = some (.cells cur 33 (0, 0))) (hs : m * 9 + 8 ≤ cur.size) :
    Mk8 ((((((((w.setCell ⟨gL, m * 9, none⟩ (.int .i64 k)).setCell ⟨gL, m * 9 + 1, none⟩ (.int .i64 (k + 1))).setCell ⟨gL, m * 9 + 2, none⟩ (.int .i64 (k + 1 + 1))).setCell ⟨gL, m * 9 + 3, none⟩ (.int .i64 (k + 1 + 1 + 1))).setCell ⟨gL, m * 9 + 4, none⟩ (.int .i64 (k + 1 + 1 + 1 + 1))).setCell ⟨gL, m * 9 + 5, none⟩ (.bool ((k + 1 + 1 + 1 + 1 + 1) % 3 == 0))).setCell ⟨gL, m * 9 + 6, none⟩ (.int .i64 (k + 1 + 1 + 1 + 1 + 1 + 1))).setCell ⟨gL, m * 9 + 7, none⟩ (.bool ((k + 1 + 1 + 1 + 1 + 1 + 1 + 1) % 3 == 0))) gL m k := by
  have H := set_at (o := m * 9 + 7) (v := .bool ((k + 1 + 1 + 1 + 1 + 1 + 1 + 1) % 3 == 0)) (set_at (o := m * 9 + 6) (v := .int .i64 (k + 1 + 1 + 1 + 1 + 1 + 1)) (set_at (o := m * 9 + 5) (v := .bool ((k + 1 + 1 + 1 + 1 + 1) % 3 == 0)) (set_at (o := m * 9 + 4) (v := .int .i64 (k + 1 + 1 + 1 + 1)) (set_at (o := m * 9 + 3) (v := .int .i64 (k + 1 + 1 + 1)) (set_at (o := m * 9 + 2) (v := .int .i64 (k + 1 + 1)) (set_at (o := m * 9 + 1) (v := .int .i64 (k + 1)) (set_at (o := m * 9) (v := .int .i64 k) hc)))))))
  refine ⟨?_, ?_, ?_, ?_, ?_, ?_, ?_, ?_⟩
  all_goals
    rw [cell_of_row _ _ _ _ _ _ H]
    simp only [Array.getElem?_setIfInBounds, Array.size_setIfInBounds]
    repeat first | rw [if_pos trivial] | rw [if_pos (by omega)] | rw [if_neg (by omega)]
theorem mk8_far {w : World} {gL m i j : Nat} {cur : Array Value} (x0 x1 x2 x3 x4 x5 x6 x7 : Value) (hc : w.heap[gL]? = some (.cells cur 33 (0, 0))) (hi : i < m) (hj : j < 8) :
    ((((((((w.setCell ⟨gL, m * 9, none⟩ x0).setCell ⟨gL, m * 9 + 1, none⟩ x1).setCell ⟨gL, m * 9 + 2, none⟩ x2).setCell ⟨gL, m * 9 + 3, none⟩ x3).setCell ⟨gL, m * 9 + 4, none⟩ x4).setCell ⟨gL, m * 9 + 5, none⟩ x5).setCell ⟨gL, m * 9 + 6, none⟩ x6).setCell ⟨gL, m * 9 + 7, none⟩ x7).cell? ⟨gL, i * 9 + j, none⟩ = w.cell? ⟨gL, i * 9 + j, none⟩ := by
  have H := set_at (o := m * 9 + 7) (v := x7) (set_at (o := m * 9 + 6) (v := x6) (set_at (o := m * 9 + 5) (v := x5) (set_at (o := m * 9 + 4) (v := x4) (set_at (o := m * 9 + 3) (v := x3) (set_at (o := m * 9 + 2) (v := x2) (set_at (o := m * 9 + 1) (v := x1) (set_at (o := m * 9) (v := x0) hc)))))))
  rw [cell_of_row _ _ _ _ _ _ H, cell_of_row _ _ _ _ _ _ hc, put8_far _ _ _ _ _ _ _ _ (by omega)]
theorem Mk.put8 {F : List Nat} {a w : World} {gL m : Nat} {cur : Array Value} (x0 x1 x2 x3 x4 x5 x6 x7 : Value) (h : Mk F a w) (hc : w.heap[gL]? = some (.cells cur 33 (0, 0))) (hF : gL ∈ F) :
    Mk F a ((((((((w.setCell ⟨gL, m * 9, none⟩ x0).setCell ⟨gL, m * 9 + 1, none⟩ x1).setCell ⟨gL, m * 9 + 2, none⟩ x2).setCell ⟨gL, m * 9 + 3, none⟩ x3).setCell ⟨gL, m * 9 + 4, none⟩ x4).setCell ⟨gL, m * 9 + 5, none⟩ x5).setCell ⟨gL, m * 9 + 6, none⟩ x6).setCell ⟨gL, m * 9 + 7, none⟩ x7) := by
  have n3 : (33 : TypeId) = 71 → False := by intro h; cases h
  have H0 := set_at (o := m * 9) (v := x0) hc
  have H1 := set_at (o := m * 9 + 1) (v := x1) H0
  have H2 := set_at (o := m * 9 + 2) (v := x2) H1
  have H3 := set_at (o := m * 9 + 3) (v := x3) H2
  have H4 := set_at (o := m * 9 + 4) (v := x4) H3
  have H5 := set_at (o := m * 9 + 5) (v := x5) H4
  have H6 := set_at (o := m * 9 + 6) (v := x6) H5
  exact (((((((h.set hc hF (fun _ => by omega) (fun e => (n3 e).elim)).set H0 hF (fun _ => by omega) (fun e => (n3 e).elim)).set H1 hF (fun _ => by omega) (fun e => (n3 e).elim)).set H2 hF (fun _ => by omega) (fun e => (n3 e).elim)).set H3 hF (fun _ => by omega) (fun e => (n3 e).elim)).set H4 hF (fun _ => by omega) (fun e => (n3 e).elim)).set H5 hF (fun _ => by omega) (fun e => (n3 e).elim)).set H6 hF (fun _ => by omega) (fun e => (n3 e).elim)
theorem nd_apart {α : Type} {f : α → List Nat} {xs : List α} {i j : Nat} {x y : α} (h : (xs.flatMap f).Nodup) (hx : xs[i]? = some x) (hy : xs[j]? = some y) (hij : i < j) : ∀ b ∈ f x, b ∉ f y := by
  induction xs generalizing i j with
  | nil => simp at hx
  | cons z r ih =>
    rw [List.flatMap_cons, List.nodup_append] at h
    obtain ⟨_, h2, h3⟩ := h
    obtain ⟨j, rfl⟩ : ∃ j', j = j' + 1 := ⟨j - 1, by omega⟩
    have hy' : r[j]? = some y := by simpa using hy
    cases i with
    | zero =>
      have e : z = x := by simpa using hx
      subst e
      exact fun b hb hb' => h3 b hb b (List.mem_flatMap.2 ⟨y, List.mem_of_getElem? hy', hb'⟩) rfl
    | succ i => exact ih h2 (by simpa using hx) hy' (by omega)
theorem koff_succ {ys : List RV} {m : Nat} {y : RV} (hy : ys[m]? = some y) : koff ys (m + 1) = koff ys m + 8 + y.zs.length := by
  unfold koff
  rw [sumLen_take hy]
  omega
theorem koff_le (ys : List RV) {m : Nat} (h : m ≤ ys.length) : koff ys m ≤ 8 * (ys.length : Int) + (sumLen ys : Int) := by
  have := sumLen_le ys m
  unfold koff
  omega
theorem koff_nn (ys : List RV) (m : Nat) : 0 ≤ koff ys m := by unfold koff; omega

set_option maxRecDepth 100000 in
set_option maxHeartbeats 6400000 in
theorem markList_raw (gL cl : Nat) (ys : List RV) (k : Int) (w : World) (hS : SkL w gL ys) (h0 : 0 ≤ k) (h1 : k + 8 * (ys.length : Int) + (sumLen ys : Int) ≤ 4611686018427387904) :
    Calls Tryz.prog 60 #[.slice (some ⟨gL, 0, none⟩) ys.length cl, .int .i64 k] w fun e w' => e = .returned (.int .i64 (k + koff ys ys.length)) ∧ Mk (lblk gL ys) w w' ∧ ((ys.flatMap (fun y => ablk y.a)).Nodup → MkU w' gL ys k ys.length) := by
  have HS : Hid (SkL w gL ys) := hS
  clear hS
  have H1 : Hid (k + 8 * (ys.length : Int) + (sumLen ys : Int) ≤ 4611686018427387904) := h1
  have hlen : (ys.length : Int) ≤ 4611686018427387904 := by omega
  clear h1
  go_enter Tryz.func60, Tryz.ntmps60
  go_wp2
  go_loopw [1, 5] (fun l i wr => ∃ (m : Nat), m ≤ ys.length ∧ i = .int .i64 m ∧ l = .int .i64 (k + koff ys m) ∧ Hid (Mk (lblk gL ys) w wr) ∧ Hid ((ys.flatMap (fun y => ablk y.a)).Nodup → MkU wr gL ys k m)) (fun _ i _ => ys.length - (intOf i).toNat)
  case atStart => exact ⟨0, by omega, rfl, by simp [koff, sumLen], Mk.refl _ _, fun _ i y h => absurd h (Nat.not_lt_zero _)⟩
  case round =>
    obtain ⟨m, hmn, rfl, rfl, HF, HU⟩ := hrel
    by_cases hlt : m < ys.length
    · obtain ⟨y, hy⟩ := get_of_lt hlt
      have hi : (m : Int) < (ys.length : Int) := by omega
      have HB : Hid (SkL wr gL ys) := HS.out.mkd HF.out
      have HK : Hid (koff ys (m + 1) = koff ys m + 8 + y.zs.length) := koff_succ hy
      have hb1 : k + koff ys m + 8 + (y.zs.length : Int) ≤ 4611686018427387904 := by
        have := koff_le ys (show m + 1 ≤ ys.length by omega)
        rw [HK.out] at this
        have := H1.out
        omega
      have hb0 := koff_nn ys m
      obtain ⟨cur, hc, hcs, r⟩ := HB.out.blk
      have r8 := r m y hy
      have hgl := lt_of_block hc
      have HC : Hid (wr.heap[gL]? = some (.cells cur 33 (0, 0)) ∧ m * 9 + 8 ≤ cur.size) := ⟨hc, by omega⟩
      have HY : Hid (ys[m]? = some y) := hy
      have fz : ∀ o, wr.frozen? ⟨gL, o, none⟩ = false := fun o => Joins.unfrozen_of_block hc o
      have ce : ∀ o, wr.cell? ⟨gL, o, none⟩ = cur[o]? := fun o => cell_of_row _ _ _ _ _ _ hc
      obtain ⟨u0, h0⟩ := cells_there (cur := cur) (o := m * 9) (by omega)
      obtain ⟨u1, h1⟩ := cells_there (cur := cur) (o := m * 9 + 1) (by omega)
      obtain ⟨u2, h2⟩ := cells_there (cur := cur) (o := m * 9 + 2) (by omega)
      obtain ⟨u3, h3⟩ := cells_there (cur := cur) (o := m * 9 + 3) (by omega)
      obtain ⟨u4, h4⟩ := cells_there (cur := cur) (o := m * 9 + 4) (by omega)
      obtain ⟨u5, h5⟩ := cells_there (cur := cur) (o := m * 9 + 5) (by omega)
      obtain ⟨u6, h6⟩ := cells_there (cur := cur) (o := m * 9 + 6) (by omega)
      obtain ⟨u7, h7⟩ := cells_there (cur := cur) (o := m * 9 + 7) (by omega)
      have q0 := (ce _).trans h0
      have q1 := (ce _).trans h1
      have q2 := (ce _).trans h2
      have q3 := (ce _).trans h3
      have q4 := (ce _).trans h4
      have q5 := (ce _).trans h5
      have q6 := (ce _).trans h6
      have q7 := (ce _).trans h7
      have q8 := (ce _).trans r8
      obtain ⟨kk, hkk⟩ : ∃ kk, k + koff ys m = kk := ⟨_, rfl⟩
      have HKK : Hid (k + koff ys m = kk) := hkk
      rw [hkk] at hb1
      have hb2 : 0 ≤ kk := by omega
      rw [hkk]
      clear h0 h1 h2 h3 h4 h5 h6 h7 ce hc hcs r r8 hy hkk hb0
      go_wp2_with fail
      have M8 := mk8_put (m := m) kk HC.out.1 HC.out.2
      have F8 := HF.out.put8 (m := m) (.int .i64 kk) (.int .i64 (kk + 1)) (.int .i64 (kk + 1 + 1)) (.int .i64 (kk + 1 + 1 + 1)) (.int .i64 (kk + 1 + 1 + 1 + 1)) (.bool ((kk + 1 + 1 + 1 + 1 + 1) % 3 == 0)) (.int .i64 (kk + 1 + 1 + 1 + 1 + 1 + 1)) (.bool ((kk + 1 + 1 + 1 + 1 + 1 + 1 + 1) % 3 == 0)) HC.out.1 (List.mem_cons_self ..)
      have D8 := fun (b : Nat) (hne : b ≠ gL) => far8 wr gL (m * 9) b hne (.int .i64 kk) (.int .i64 (kk + 1)) (.int .i64 (kk + 1 + 1)) (.int .i64 (kk + 1 + 1 + 1)) (.int .i64 (kk + 1 + 1 + 1 + 1)) (.bool ((kk + 1 + 1 + 1 + 1 + 1) % 3 == 0)) (.int .i64 (kk + 1 + 1 + 1 + 1 + 1 + 1)) (.bool ((kk + 1 + 1 + 1 + 1 + 1 + 1 + 1) % 3 == 0))
      have E8 := fun (i j : Nat) (hi : i < m) (hj : j < 8) => mk8_far (.int .i64 kk) (.int .i64 (kk + 1)) (.int .i64 (kk + 1 + 1)) (.int .i64 (kk + 1 + 1 + 1)) (.int .i64 (kk + 1 + 1 + 1 + 1)) (.bool ((kk + 1 + 1 + 1 + 1 + 1) % 3 == 0)) (.int .i64 (kk + 1 + 1 + 1 + 1 + 1 + 1)) (.bool ((kk + 1 + 1 + 1 + 1 + 1 + 1 + 1) % 3 == 0)) HC.out.1 hi hj
      generalize ((((((((wr.setCell ⟨gL, m * 9, none⟩ (.int .i64 kk)).setCell ⟨gL, m * 9 + 1, none⟩ (.int .i64 (kk + 1))).setCell ⟨gL, m * 9 + 2, none⟩ (.int .i64 (kk + 1 + 1))).setCell ⟨gL, m * 9 + 3, none⟩ (.int .i64 (kk + 1 + 1 + 1))).setCell ⟨gL, m * 9 + 4, none⟩ (.int .i64 (kk + 1 + 1 + 1 + 1))).setCell ⟨gL, m * 9 + 5, none⟩ (.bool ((kk + 1 + 1 + 1 + 1 + 1) % 3 == 0))).setCell ⟨gL, m * 9 + 6, none⟩ (.int .i64 (kk + 1 + 1 + 1 + 1 + 1 + 1))).setCell ⟨gL, m * 9 + 7, none⟩ (.bool ((kk + 1 + 1 + 1 + 1 + 1 + 1 + 1) % 3 == 0))) = w8 at M8 F8 D8 E8 ⊢
      have S8 := HS.out.mkd F8
      have Y8 := S8.each y (List.mem_of_getElem? HY.out)
      refine (markByteS_raw y.a y.zs.length y.c (kk + 1 + 1 + 1 + 1 + 1 + 1 + 1 + 1) w8 Y8 (by omega) (by omega)).mono ?_
      rintro e w9 ⟨rfl, g9, o9⟩
      have hin : ∀ b ∈ ablk y.a, b ∈ lblk gL ys := fun b hb => List.mem_cons_of_mem _ (List.mem_flatMap.2 ⟨y, List.mem_of_getElem? HY.out, hb⟩)
      have F9 : Hid (Mk (lblk gL ys) w w9) := F8.trans g9 (fun _ h => h) hin
      obtain ⟨c8, hc8, _⟩ := S8.blk
      have hnL : ∀ x : RV, x ∈ ys → ∀ b ∈ ablk x.a, b ≠ gL := fun x hx b hb e => by
        rcases S8.each x hx with ⟨ha, _⟩ | ⟨g, cu, ha, hg, _⟩
        · simp [ablk, ha] at hb
        · simp [ablk, ha] at hb
          rw [← hb, e] at hg
          rw [hc8] at hg
          cases hg
      have U9 : Hid ((ys.flatMap (fun y => ablk y.a)).Nodup → MkU w9 gL ys k (m + 1)) := by
        intro nd i x hi hx
        have k9 : w9.heap[gL]? = w8.heap[gL]? := g9.block gL (lt_of_block hc8) (fun h => hnL y (List.mem_of_getElem? HY.out) gL h rfl)
        by_cases e : i = m
        · subst e
          have ex : y = x := Option.some.inj (HY.out.symm.trans hx)
          subst ex
          rw [HKK.out]
          refine ⟨M8.kept fun j _ => cell_kept k9, ?_⟩
          rw [show kk + 8 = kk + 1 + 1 + 1 + 1 + 1 + 1 + 1 + 1 by omega]
          exact o9
        · have him : i < m := by omega
          obtain ⟨a1, a2⟩ := HU.out nd i x him hx
          refine ⟨a1.kept fun j hj => (cell_kept k9).trans (E8 i j him hj), a2.kept fun g hg => ?_⟩
          have hgb : g ∈ ablk x.a := by simp [ablk, hg]
          have hgL := hnL x (List.mem_of_getElem? hx) g hgb
          have hl8 : g < w8.heap.size := by
            rcases S8.each x (List.mem_of_getElem? hx) with ⟨ha, _⟩ | ⟨g', cu, ha, hg', _⟩
            · rw [ha] at hg; cases hg
            · rw [ha] at hg; cases hg; exact lt_of_block hg'
          exact (g9.block g hl8 (nd_apart nd hx HY.out him g hgb)).trans (D8 g hgL)
      clear M8 F8 D8 E8 S8 Y8 o9 g9 q0 q1 q2 q3 q4 q5 q6 q7 q8 fz hc8 hnL hin
      go_wp2
      go_roundw
      case rel => exact ⟨m + 1, by omega, by go_num, by rw [HK.out]; have := HKK.out; congr 1; omega, F9.out, U9.out⟩
      case measure => simp [intOf]; omega
    · obtain rfl : m = ys.length := by omega
      go_wp2
      go_ret
      exact ⟨rfl, HF.out, HU.out⟩
end Go.Proofs.YtjbkgmbakjnlhabGreatDoor
