/- Stores of a bench and a packet into their boxes. -/
import Derived.Test.YtjbkgmbakjnlhabGreatDoorPartAa
import Derived.Test.YtjbkgmbakjnlhabGreatDoorPartAw
namespace Go.Proofs.YtjbkgmbakjnlhabGreatDoor
set_option maxRecDepth 100000
open Go.RowKit

/-- a bench and a packet are stored -/
def put29 (w : World) (r q : Nat) (u0 u1 x0 x1 x2 x3 x4 x5 x6 x7 x8 : Value) : World :=
  (((((((((((w.setCell ⟨r, 0, none⟩ u0).setCell ⟨r, 1, none⟩ u1).setCell ⟨q, 0, none⟩ x0).setCell ⟨q, 1, none⟩ x1).setCell ⟨q, 2, none⟩ x2).setCell ⟨q, 3, none⟩ x3).setCell ⟨q, 4, none⟩ x4).setCell ⟨q, 5, none⟩ x5).setCell ⟨q, 6, none⟩ x6).setCell ⟨q, 7, none⟩ x7).setCell ⟨q, 8, none⟩ x8)
theorem put29_far (w : World) (r q b : Nat) (hr : b ≠ r) (hq : b ≠ q) (u0 u1 x0 x1 x2 x3 x4 x5 x6 x7 x8 : Value) : (put29 w r q u0 u1 x0 x1 x2 x3 x4 x5 x6 x7 x8).heap[b]? = w.heap[b]? := by
  unfold put29
  exact (Below.heap_setCell _ _ _ _ hq).trans ((Below.heap_setCell _ _ _ _ hq).trans ((Below.heap_setCell _ _ _ _ hq).trans ((Below.heap_setCell _ _ _ _ hq).trans ((Below.heap_setCell _ _ _ _ hq).trans ((Below.heap_setCell _ _ _ _ hq).trans ((Below.heap_setCell _ _ _ _ hq).trans ((Below.heap_setCell _ _ _ _ hq).trans ((Below.heap_setCell _ _ _ _ hq).trans ((Below.heap_setCell _ _ _ _ hr).trans (Below.heap_setCell _ _ _ _ hr))))))))))
theorem put29_size (w : World) (r q : Nat) (u0 u1 x0 x1 x2 x3 x4 x5 x6 x7 x8 : Value) : (put29 w r q u0 u1 x0 x1 x2 x3 x4 x5 x6 x7 x8).heap.size = w.heap.size := by
  unfold put29
  simp [World.setCell]
theorem put29_frame (w : World) (r q : Nat) (u0 u1 x0 x1 x2 x3 x4 x5 x6 x7 x8 : Value) : (put29 w r q u0 u1 x0 x1 x2 x3 x4 x5 x6 x7 x8).os = w.os ∧ (put29 w r q u0 u1 x0 x1 x2 x3 x4 x5 x6 x7 x8).tape = w.tape ∧ (put29 w r q u0 u1 x0 x1 x2 x3 x4 x5 x6 x7 x8).output = w.output := by
  unfold put29
  exact ⟨by simp [World.setCell], by simp [World.setCell], by simp [World.setCell]⟩
theorem put29_below {B : Nat} {a w : World} (h : Below B a w) {r q : Nat} (hr : B ≤ r) (hq : B ≤ q) (u0 u1 x0 x1 x2 x3 x4 x5 x6 x7 x8 : Value) : Below B a (put29 w r q u0 u1 x0 x1 x2 x3 x4 x5 x6 x7 x8) := by
  obtain ⟨f1, f2, f3⟩ := put29_frame w r q u0 u1 x0 x1 x2 x3 x4 x5 x6 x7 x8
  exact ⟨f1.trans h.os, f2.trans h.tape, f3.trans h.output, by rw [put29_size]; exact h.size, fun b hb => (put29_far w r q b (by omega) (by omega) u0 u1 x0 x1 x2 x3 x4 x5 x6 x7 x8).trans (h.block b hb)⟩
end Go.Proofs.YtjbkgmbakjnlhabGreatDoor

/- The program's take: a packet comes. -/
namespace Go.Proofs.YtjbkgmbakjnlhabGreatDoor
set_option maxRecDepth 100000
open Go.RowKit

theorem box_put9 {w : World} {g : Nat} {t : TypeId} {y0 y1 y2 y3 y4 y5 y6 y7 y8 : Value} (x0 x1 x2 x3 x4 x5 x6 x7 x8 : Value) (h : w.heap[g]? = some (.cells #[y0, y1, y2, y3, y4, y5, y6, y7, y8] t (0, 0))) : ((((((((((w.setCell ⟨g, 0, none⟩ x0).setCell ⟨g, 1, none⟩ x1).setCell ⟨g, 2, none⟩ x2).setCell ⟨g, 3, none⟩ x3).setCell ⟨g, 4, none⟩ x4).setCell ⟨g, 5, none⟩ x5).setCell ⟨g, 6, none⟩ x6).setCell ⟨g, 7, none⟩ x7).setCell ⟨g, 8, none⟩ x8)).heap[g]? = some (.cells #[x0, x1, x2, x3, x4, x5, x6, x7, x8] t (0, 0)) := by
  have H := set_at (o := 8) (v := x8) (set_at (o := 7) (v := x7) (set_at (o := 6) (v := x6) (set_at (o := 5) (v := x5) (set_at (o := 4) (v := x4) (set_at (o := 3) (v := x3) (set_at (o := 2) (v := x2) (set_at (o := 1) (v := x1) (set_at (o := 0) (v := x0) h))))))))
  simp only [List.setIfInBounds_toArray, List.set_cons_zero, List.set_cons_succ] at H
  exact H
theorem box_far9 (w : World) (g b : Nat) (hb : b ≠ g) (x0 x1 x2 x3 x4 x5 x6 x7 x8 : Value) : ((((((((((w.setCell ⟨g, 0, none⟩ x0).setCell ⟨g, 1, none⟩ x1).setCell ⟨g, 2, none⟩ x2).setCell ⟨g, 3, none⟩ x3).setCell ⟨g, 4, none⟩ x4).setCell ⟨g, 5, none⟩ x5).setCell ⟨g, 6, none⟩ x6).setCell ⟨g, 7, none⟩ x7).setCell ⟨g, 8, none⟩ x8)).heap[b]? = w.heap[b]? := (Below.heap_setCell _ _ _ _ hb).trans ((Below.heap_setCell _ _ _ _ hb).trans ((Below.heap_setCell _ _ _ _ hb).trans ((Below.heap_setCell _ _ _ _ hb).trans ((Below.heap_setCell _ _ _ _ hb).trans ((Below.heap_setCell _ _ _ _ hb).trans ((Below.heap_setCell _ _ _ _ hb).trans ((Below.heap_setCell _ _ _ _ hb).trans (Below.heap_setCell _ _ _ _ hb))))))))
theorem box_below9 {B : Nat} {a w : World} {g : Nat} (h : Below B a w) (hg : B ≤ g) (x0 x1 x2 x3 x4 x5 x6 x7 x8 : Value) : Below B a ((((((((((w.setCell ⟨g, 0, none⟩ x0).setCell ⟨g, 1, none⟩ x1).setCell ⟨g, 2, none⟩ x2).setCell ⟨g, 3, none⟩ x3).setCell ⟨g, 4, none⟩ x4).setCell ⟨g, 5, none⟩ x5).setCell ⟨g, 6, none⟩ x6).setCell ⟨g, 7, none⟩ x7).setCell ⟨g, 8, none⟩ x8)) := (Below.setCell (Below.setCell (Below.setCell (Below.setCell (Below.setCell (Below.setCell (Below.setCell (Below.setCell (Below.setCell h (by simp only; omega) _) (by simp only; omega) _) (by simp only; omega) _) (by simp only; omega) _) (by simp only; omega) _) (by simp only; omega) _) (by simp only; omega) _) (by simp only; omega) _) (by simp only; omega) _)
theorem box_size9 (w : World) (g : Nat) (x0 x1 x2 x3 x4 x5 x6 x7 x8 : Value) : ((((((((((w.setCell ⟨g, 0, none⟩ x0).setCell ⟨g, 1, none⟩ x1).setCell ⟨g, 2, none⟩ x2).setCell ⟨g, 3, none⟩ x3).setCell ⟨g, 4, none⟩ x4).setCell ⟨g, 5, none⟩ x5).setCell ⟨g, 6, none⟩ x6).setCell ⟨g, 7, none⟩ x7).setCell ⟨g, 8, none⟩ x8)).heap.size = w.heap.size := by simp [World.setCell]
theorem kval_of (p : Pk) : kval (k4of p) = .agg #[.int .i64 p.src, .int .i64 p.dst, .int .i64 p.kind, .int .i64 p.id] := rfl
theorem OutAt.ret {now : Int} {es : List Ent} {k : K4} {x : RV} {w w' : World} {e : Ending} (h : OutAt now es k x w e w') : ∃ o, e = .returned o := by
  obtain ⟨_, h⟩ := h
  rcases h with ⟨_, sb, gP, h, _⟩ | ⟨e0, _, _, ⟨_, h⟩ | ⟨_, _, h⟩ | ⟨_, _, _, h⟩ | ⟨_, _, _, g, c, _, ⟨_, a, n, h, _⟩ | ⟨_, h⟩ | ⟨_, _, h⟩⟩⟩
  all_goals exact ⟨_, h⟩
/-- what take answers -/
def TakeQ (lo ob mb : Nat) (now : Int) (es : List Ent) (x : PB) (w : World) (e : Ending) (w' : World) : Prop :=
  ∃ (y : RV) (c : Int) (ov' : Value) (es' : List Ent), e = .returned (.tuple #[y.val0, errVal c]) ∧ takeK now (es.map fun e => e.s.key) x = (es'.map (fun e => e.s.key), y.key, c) ∧ OpenB w' lo ob mb ov' now es' ∧ DataB w' lo y ∧ (∀ b ∈ y.blk, b ∉ (es'.map Ent.s).flatMap SV.blks ∧ w.heap.size ≤ b) ∧ es'.length ≤ 4 ∧ Below lo w w'
end Go.Proofs.YtjbkgmbakjnlhabGreatDoor

/- The program's take: one of its ways. -/
namespace Go.Proofs.YtjbkgmbakjnlhabGreatDoor
set_option maxRecDepth 100000
open Go.RowKit

set_option maxRecDepth 100000 in
set_option maxHeartbeats 6400000 in
theorem take_bad (lo ob mb : Nat) (ov : Value) (now : Int) (es : List Ent) (x : RV) (w : World) (h : OpenB w lo ob mb ov now es) (hx : ROk w x) (_hl : ∀ e ∈ es, e.s.xs.length ≤ 1000) (_hgd : ∀ e ∈ es, e.good) (h4 : es.length ≤ 4) (hok : okB x.p x.zs.length = false) :
    Calls Tryz.prog 32 #[.pointer (some ⟨ob, 0, none⟩), x.p.val (.slice x.a x.zs.length x.c)] w (TakeQ lo ob mb now es x.key w) := by
  have H0 : Hid (OpenB w lo ob mb ov now es) := h
  have HXR : Hid (ROk w x) := hx
  have hlow := h.low
  have KO : Hid (∀ W : World, Calls Tryz.prog 55 #[.agg #[.int .i64 x.p.src, .int .i64 x.p.dst, .int .i64 x.p.kind, .int .i64 x.p.id, .int .i64 x.p.hops, .bool x.p.whole, .int .i64 x.p.off, .bool x.p.more, .slice x.a x.zs.length x.c]] W fun e w' => e = .returned (.bool false) ∧ Below W.heap.size W w') := fun W => by
    have h := implOk_any x.p x.a x.zs.length x.c W hx.len
    unfold Pk.val at h
    rw [hok] at h
    exact h
  have KC : Hid (∀ W : World, Below w.heap.size w W → Calls Tryz.prog 56 #[.agg #[.int .i64 x.p.src, .int .i64 x.p.dst, .int .i64 x.p.kind, .int .i64 x.p.id, .int .i64 x.p.hops, .bool x.p.whole, .int .i64 x.p.off, .bool x.p.more, .slice x.a x.zs.length x.c]] W fun e w' => ∃ z : RV, e = .returned (.agg #[.int .i64 z.p.src, .int .i64 z.p.dst, .int .i64 z.p.kind, .int .i64 z.p.id, .int .i64 z.p.hops, .bool z.p.whole, .int .i64 z.p.off, .bool z.p.more, .slice z.a z.zs.length z.c]) ∧ z.key = x.key ∧ DataB w' W.heap.size z ∧ Below W.heap.size W w') := fun W hW => by
    have h := copyPacket_rv x W (hx.below hW)
    unfold RV.val Pk.val at h
    exact h
  have fld := fld46
  unfold Pk.val
  clear h hx
  go_enter Tryz.func32, Tryz.ntmps32
  go_wp2_with fail
  have bW := Joins.below_alloc2 w (.cells #[.int .i64 x.p.src, .int .i64 x.p.dst, .int .i64 x.p.kind, .int .i64 x.p.id, .int .i64 x.p.hops, .bool x.p.whole, .int .i64 x.p.off, .bool x.p.more, .slice x.a x.zs.length x.c] 33) (.cells #[.int .i64 0, .int .i64 0, .int .i64 0, .int .i64 0, .int .i64 0, .bool false, .int .i64 0, .bool false, .slice none 0 0] 33)
  refine (KO.out _).mono ?_
  rintro e w1 ⟨rfl, b1⟩
  have B1 : Below w.heap.size w w1 := bW.trans (b1.mono (by simp; omega))
  have xb : w1.heap[w.heap.size]? = some (.cells #[.int .i64 x.p.src, .int .i64 x.p.dst, .int .i64 x.p.kind, .int .i64 x.p.id, .int .i64 x.p.hops, .bool x.p.whole, .int .i64 x.p.off, .bool x.p.more, .slice x.a x.zs.length x.c] 33 (0, 0)) := (b1.block _ (by simp; omega)).trans ((Below.heap_alloc _ _ _ (by simp)).trans (heap_new _ _ _ rfl))
  have zb : w1.heap[w.heap.size + 1]? = some (.cells #[.int .i64 0, .int .i64 0, .int .i64 0, .int .i64 0, .int .i64 0, .bool false, .int .i64 0, .bool false, .slice none 0 0] 33 (0, 0)) := (b1.block _ (by simp)).trans (heap_new _ _ _ (by simp))
  have q0 : w1.cell? ⟨w.heap.size + 1, 0, none⟩ = some (.int .i64 0) := cell_of_row _ _ _ _ _ _ zb
  have q1 : w1.cell? ⟨w.heap.size + 1, 1, none⟩ = some (.int .i64 0) := cell_of_row _ _ _ _ _ _ zb
  have q2 : w1.cell? ⟨w.heap.size + 1, 2, none⟩ = some (.int .i64 0) := cell_of_row _ _ _ _ _ _ zb
  have q3 : w1.cell? ⟨w.heap.size + 1, 3, none⟩ = some (.int .i64 0) := cell_of_row _ _ _ _ _ _ zb
  have q4 : w1.cell? ⟨w.heap.size + 1, 4, none⟩ = some (.int .i64 0) := cell_of_row _ _ _ _ _ _ zb
  have q5 : w1.cell? ⟨w.heap.size + 1, 5, none⟩ = some (.bool false) := cell_of_row _ _ _ _ _ _ zb
  have q6 : w1.cell? ⟨w.heap.size + 1, 6, none⟩ = some (.int .i64 0) := cell_of_row _ _ _ _ _ _ zb
  have q7 : w1.cell? ⟨w.heap.size + 1, 7, none⟩ = some (.bool false) := cell_of_row _ _ _ _ _ _ zb
  have q8 : w1.cell? ⟨w.heap.size + 1, 8, none⟩ = some (.slice none 0 0) := cell_of_row _ _ _ _ _ _ zb
  have fz : ∀ o, w1.frozen? ⟨w.heap.size + 1, o, none⟩ = false := fun o => Joins.unfrozen_of_block zb o
  have lzb := lt_of_block zb
  have O1 : Hid (OpenB w1 lo ob mb ov now es) := H0.out.below B1
  have FIN : Hid (∀ W', Below w1.heap.size w1 W' → TakeQ lo ob mb now es x.key w (.returned (.tuple #[zeroV, errVal 2])) W') := fun W' hb => ⟨zeroRV, 2, ov, es, rfl, (by unfold takeK; rw [if_neg (by simp only [RV.key]; rw [hok]; decide)]; rfl), O1.out.below hb, zeroRV_data _ _, (fun b h => by cases h), h4, (B1.mono hlow).trans (hb.mono (Nat.le_trans hlow B1.size))⟩
  have FIN2 : Hid (∀ W', (∀ b, b < w1.heap.size → b ≠ w.heap.size + 1 → W'.heap[b]? = w1.heap[b]?) → W'.os = w1.os → W'.tape = w1.tape → W'.output = w1.output → W'.heap.size = w1.heap.size → TakeQ lo ob mb now es x.key w (.returned (.tuple #[zeroV, errVal 2])) W') := fun W' hk h1 h2 h3 h5 => by
    have lt : ∀ b, b < w.heap.size → W'.heap[b]? = w.heap[b]? := fun b hb => (hk b (by omega) (by omega)).trans (B1.block b hb)
    have BW : Below w.heap.size w W' := ⟨h1.trans B1.os, h2.trans B1.tape, h3.trans B1.output, by rw [h5]; exact B1.size, lt⟩
    exact ⟨zeroRV, 2, ov, es, rfl, (by unfold takeK; rw [if_neg (by simp only [RV.key]; rw [hok]; decide)]; rfl), H0.out.below BW, zeroRV_data _ _, (fun b h => by cases h), h4, BW.mono hlow⟩
  clear FIN B1 b1 bW xb zb KC KO hok O1
  go_wp2
  refine bodyPost_ret (v := .tuple #[zeroV, errVal 2]) (by simp [results, Tryz.results32, go_sem, zeroV, errVal, q0, q1, q2, q3, q4, q5, q6, q7, q8]) rfl (FIN2.out _ (fun b _ hb => box_far9 w1 (w.heap.size + 1) b hb _ _ _ _ _ _ _ _ _) ?_ ?_ ?_ (box_size9 w1 _ _ _ _ _ _ _ _ _ _))
  all_goals simp [World.setCell]
end Go.Proofs.YtjbkgmbakjnlhabGreatDoor

/- The program's take: one of its ways. -/
namespace Go.Proofs.YtjbkgmbakjnlhabGreatDoor
set_option maxRecDepth 100000
open Go.RowKit

set_option maxRecDepth 100000 in
set_option maxHeartbeats 6400000 in
theorem take_whole (lo ob mb : Nat) (ov : Value) (now : Int) (es : List Ent) (x : RV) (w : World) (h : OpenB w lo ob mb ov now es) (hx : ROk w x) (_hl : ∀ e ∈ es, e.s.xs.length ≤ 1000) (_hgd : ∀ e ∈ es, e.good) (h4 : es.length ≤ 4) (hok : okB x.p x.zs.length = true) (hcut : x.p.off = 0 ∧ x.p.more = false) :
    Calls Tryz.prog 32 #[.pointer (some ⟨ob, 0, none⟩), x.p.val (.slice x.a x.zs.length x.c)] w (TakeQ lo ob mb now es x.key w) := by
  have H0 : Hid (OpenB w lo ob mb ov now es) := h
  have HXR : Hid (ROk w x) := hx
  have hlow := h.low
  have KO : Hid (∀ W : World, Calls Tryz.prog 55 #[.agg #[.int .i64 x.p.src, .int .i64 x.p.dst, .int .i64 x.p.kind, .int .i64 x.p.id, .int .i64 x.p.hops, .bool x.p.whole, .int .i64 x.p.off, .bool x.p.more, .slice x.a x.zs.length x.c]] W fun e w' => e = .returned (.bool true) ∧ Below W.heap.size W w') := fun W => by
    have h := implOk_any x.p x.a x.zs.length x.c W hx.len
    unfold Pk.val at h
    rw [hok] at h
    exact h
  have KC : Hid (∀ W : World, Below w.heap.size w W → Calls Tryz.prog 56 #[.agg #[.int .i64 x.p.src, .int .i64 x.p.dst, .int .i64 x.p.kind, .int .i64 x.p.id, .int .i64 x.p.hops, .bool x.p.whole, .int .i64 x.p.off, .bool x.p.more, .slice x.a x.zs.length x.c]] W fun e w' => ∃ z : RV, e = .returned (.agg #[.int .i64 z.p.src, .int .i64 z.p.dst, .int .i64 z.p.kind, .int .i64 z.p.id, .int .i64 z.p.hops, .bool z.p.whole, .int .i64 z.p.off, .bool z.p.more, .slice z.a z.zs.length z.c]) ∧ z.key = x.key ∧ DataB w' W.heap.size z ∧ Below W.heap.size W w') := fun W hW => by
    have h := copyPacket_rv x W (hx.below hW)
    unfold RV.val Pk.val at h
    exact h
  have fld := fld46
  unfold Pk.val
  clear h hx
  have HCUT : Hid (x.p.off = 0 ∧ x.p.more = false) := hcut
  clear hcut
  go_enter Tryz.func32, Tryz.ntmps32
  go_wp2_with fail
  have bW := Joins.below_alloc2 w (.cells #[.int .i64 x.p.src, .int .i64 x.p.dst, .int .i64 x.p.kind, .int .i64 x.p.id, .int .i64 x.p.hops, .bool x.p.whole, .int .i64 x.p.off, .bool x.p.more, .slice x.a x.zs.length x.c] 33) (.cells #[.int .i64 0, .int .i64 0, .int .i64 0, .int .i64 0, .int .i64 0, .bool false, .int .i64 0, .bool false, .slice none 0 0] 33)
  refine (KO.out _).mono ?_
  rintro e w1 ⟨rfl, b1⟩
  have B1 : Below w.heap.size w w1 := bW.trans (b1.mono (by simp; omega))
  have xb : w1.heap[w.heap.size]? = some (.cells #[.int .i64 x.p.src, .int .i64 x.p.dst, .int .i64 x.p.kind, .int .i64 x.p.id, .int .i64 x.p.hops, .bool x.p.whole, .int .i64 x.p.off, .bool x.p.more, .slice x.a x.zs.length x.c] 33 (0, 0)) := (b1.block _ (by simp; omega)).trans ((Below.heap_alloc _ _ _ (by simp)).trans (heap_new _ _ _ rfl))
  have zb : w1.heap[w.heap.size + 1]? = some (.cells #[.int .i64 0, .int .i64 0, .int .i64 0, .int .i64 0, .int .i64 0, .bool false, .int .i64 0, .bool false, .slice none 0 0] 33 (0, 0)) := (b1.block _ (by simp)).trans (heap_new _ _ _ (by simp))
  have p0 : w1.cell? ⟨w.heap.size, 0, none⟩ = some (.int .i64 x.p.src) := cell_of_row _ _ _ _ _ _ xb
  have p1 : w1.cell? ⟨w.heap.size, 1, none⟩ = some (.int .i64 x.p.dst) := cell_of_row _ _ _ _ _ _ xb
  have p2 : w1.cell? ⟨w.heap.size, 2, none⟩ = some (.int .i64 x.p.kind) := cell_of_row _ _ _ _ _ _ xb
  have p3 : w1.cell? ⟨w.heap.size, 3, none⟩ = some (.int .i64 x.p.id) := cell_of_row _ _ _ _ _ _ xb
  have p4 : w1.cell? ⟨w.heap.size, 4, none⟩ = some (.int .i64 x.p.hops) := cell_of_row _ _ _ _ _ _ xb
  have p5 : w1.cell? ⟨w.heap.size, 5, none⟩ = some (.bool x.p.whole) := cell_of_row _ _ _ _ _ _ xb
  have p6 : w1.cell? ⟨w.heap.size, 6, none⟩ = some (.int .i64 x.p.off) := cell_of_row _ _ _ _ _ _ xb
  have p7 : w1.cell? ⟨w.heap.size, 7, none⟩ = some (.bool x.p.more) := cell_of_row _ _ _ _ _ _ xb
  have p8 : w1.cell? ⟨w.heap.size, 8, none⟩ = some (.slice x.a x.zs.length x.c) := cell_of_row _ _ _ _ _ _ xb
  have lzb := lt_of_block zb
  clear b1 bW
  go_wp2_with fail
  refine (KC.out _ B1).mono ?_
  rintro e w2 ⟨z, rfl, hz, dz, b2⟩
  have HZK : Hid (z.key = x.key) := hz
  have hcut := HCUT.out
  have HCZ : Hid (z.p.off = 0 ∧ z.p.more = false) := (by
    have hzp : z.p = x.p := congrArg Prod.fst hz
    rw [hzp]; exact hcut)
  have HTK : Hid (takeK now (es.map fun e => e.s.key) x.key = (es.map (fun e => e.s.key), x.key, 0)) := (by
    unfold takeK
    rw [if_pos (show okB x.key.1 x.key.2.length = true from hok)]
    exact if_pos hcut)
  clear hz hcut hok HCUT
  have B2 : Below w.heap.size w w2 := B1.trans (b2.mono B1.size)
  have xb2 : w2.heap[w.heap.size]? = some (.cells #[.int .i64 x.p.src, .int .i64 x.p.dst, .int .i64 x.p.kind, .int .i64 x.p.id, .int .i64 x.p.hops, .bool x.p.whole, .int .i64 x.p.off, .bool x.p.more, .slice x.a x.zs.length x.c] 33 (0, 0)) := (b2.block _ (by omega)).trans xb
  have zb2 : w2.heap[w.heap.size + 1]? = some (.cells #[.int .i64 0, .int .i64 0, .int .i64 0, .int .i64 0, .int .i64 0, .bool false, .int .i64 0, .bool false, .slice none 0 0] 33 (0, 0)) := (b2.block _ (by omega)).trans zb
  have s12 := b2.size
  clear p0 p1 p2 p3 p4 p5 p6 p7 p8 xb zb b2
  have p0 : w2.cell? ⟨w.heap.size, 0, none⟩ = some (.int .i64 x.p.src) := cell_of_row _ _ _ _ _ _ xb2
  have p1 : w2.cell? ⟨w.heap.size, 1, none⟩ = some (.int .i64 x.p.dst) := cell_of_row _ _ _ _ _ _ xb2
  have p2 : w2.cell? ⟨w.heap.size, 2, none⟩ = some (.int .i64 x.p.kind) := cell_of_row _ _ _ _ _ _ xb2
  have p3 : w2.cell? ⟨w.heap.size, 3, none⟩ = some (.int .i64 x.p.id) := cell_of_row _ _ _ _ _ _ xb2
  have p4 : w2.cell? ⟨w.heap.size, 4, none⟩ = some (.int .i64 x.p.hops) := cell_of_row _ _ _ _ _ _ xb2
  have p5 : w2.cell? ⟨w.heap.size, 5, none⟩ = some (.bool x.p.whole) := cell_of_row _ _ _ _ _ _ xb2
  have p6 : w2.cell? ⟨w.heap.size, 6, none⟩ = some (.int .i64 x.p.off) := cell_of_row _ _ _ _ _ _ xb2
  have p7 : w2.cell? ⟨w.heap.size, 7, none⟩ = some (.bool x.p.more) := cell_of_row _ _ _ _ _ _ xb2
  have p8 : w2.cell? ⟨w.heap.size, 8, none⟩ = some (.slice x.a x.zs.length x.c) := cell_of_row _ _ _ _ _ _ xb2
  have fzx : ∀ o, w2.frozen? ⟨w.heap.size, o, none⟩ = false := fun o => Joins.unfrozen_of_block xb2 o
  obtain ⟨w3, hw3⟩ : ∃ w3, (((((((((w2.setCell ⟨w.heap.size, 0, none⟩ (.int .i64 z.p.src)).setCell ⟨w.heap.size, 1, none⟩ (.int .i64 z.p.dst)).setCell ⟨w.heap.size, 2, none⟩ (.int .i64 z.p.kind)).setCell ⟨w.heap.size, 3, none⟩ (.int .i64 z.p.id)).setCell ⟨w.heap.size, 4, none⟩ (.int .i64 z.p.hops)).setCell ⟨w.heap.size, 5, none⟩ (.bool z.p.whole)).setCell ⟨w.heap.size, 6, none⟩ (.int .i64 z.p.off)).setCell ⟨w.heap.size, 7, none⟩ (.bool z.p.more)).setCell ⟨w.heap.size, 8, none⟩ (.slice z.a z.zs.length z.c)) = w3 := ⟨_, rfl⟩
  have xb3 : w3.heap[w.heap.size]? = some (.cells #[.int .i64 z.p.src, .int .i64 z.p.dst, .int .i64 z.p.kind, .int .i64 z.p.id, .int .i64 z.p.hops, .bool z.p.whole, .int .i64 z.p.off, .bool z.p.more, .slice z.a z.zs.length z.c] 33 (0, 0)) := by
    rw [← hw3]
    exact box_put9 _ _ _ _ _ _ _ _ _ xb2
  have far3 : ∀ b, b ≠ w.heap.size → w3.heap[b]? = w2.heap[b]? := fun b hb => by
    rw [← hw3]
    exact box_far9 w2 w.heap.size b hb _ _ _ _ _ _ _ _ _
  have B3 : Below w.heap.size w w3 := by
    rw [← hw3]
    exact box_below9 B2 (Nat.le_refl _) _ _ _ _ _ _ _ _ _
  have dz3 : DataB w3 w1.heap.size z := dz.kept fun b hb => far3 b (by have := (dz.blk b hb).1; omega)
  have zb3 : w3.heap[w.heap.size + 1]? = some (.cells #[.int .i64 0, .int .i64 0, .int .i64 0, .int .i64 0, .int .i64 0, .bool false, .int .i64 0, .bool false, .slice none 0 0] 33 (0, 0)) := (far3 _ (by omega)).trans zb2
  have s23 : w3.heap.size = w2.heap.size := by rw [← hw3]; exact box_size9 w2 w.heap.size _ _ _ _ _ _ _ _ _
  have r0 : w3.cell? ⟨w.heap.size, 0, none⟩ = some (.int .i64 z.p.src) := cell_of_row _ _ _ _ _ _ xb3
  have r1 : w3.cell? ⟨w.heap.size, 1, none⟩ = some (.int .i64 z.p.dst) := cell_of_row _ _ _ _ _ _ xb3
  have r2 : w3.cell? ⟨w.heap.size, 2, none⟩ = some (.int .i64 z.p.kind) := cell_of_row _ _ _ _ _ _ xb3
  have r3 : w3.cell? ⟨w.heap.size, 3, none⟩ = some (.int .i64 z.p.id) := cell_of_row _ _ _ _ _ _ xb3
  have r4 : w3.cell? ⟨w.heap.size, 4, none⟩ = some (.int .i64 z.p.hops) := cell_of_row _ _ _ _ _ _ xb3
  have r5 : w3.cell? ⟨w.heap.size, 5, none⟩ = some (.bool z.p.whole) := cell_of_row _ _ _ _ _ _ xb3
  have r6 : w3.cell? ⟨w.heap.size, 6, none⟩ = some (.int .i64 z.p.off) := cell_of_row _ _ _ _ _ _ xb3
  have r7 : w3.cell? ⟨w.heap.size, 7, none⟩ = some (.bool z.p.more) := cell_of_row _ _ _ _ _ _ xb3
  have r8 : w3.cell? ⟨w.heap.size, 8, none⟩ = some (.slice z.a z.zs.length z.c) := cell_of_row _ _ _ _ _ _ xb3
  have KK : Hid (∀ W : World, Calls Tryz.prog 52 #[.agg #[.int .i64 z.p.src, .int .i64 z.p.dst, .int .i64 z.p.kind, .int .i64 z.p.id, .int .i64 z.p.hops, .bool z.p.whole, .int .i64 z.p.off, .bool z.p.more, .slice z.a z.zs.length z.c]] W fun e w' => e = .returned (.agg #[.int .i64 z.p.src, .int .i64 z.p.dst, .int .i64 z.p.kind, .int .i64 z.p.id, .int .i64 z.p.hops, .bool z.p.whole, .int .i64 z.p.off, .bool z.p.more, .int .i64 z.zs.length]) ∧ Below W.heap.size W w') := fun W => by
    have h := keyed_any z.p z.a z.zs.length z.c W
    unfold Pk.val Pk.kval at h
    exact h
  clear dz B1 B2 xb2 zb2 far3 KO KC
  go_upto_region 4 with fail
  (first | rw [hw3] | skip)
  clear hw3 p0 p1 p2 p3 p4 p5 p6 p7 p8 fzx
  have lx3 := lt_of_block xb3
  have lz3 := lt_of_block zb3
  have lh3 := B3.size
  have q0 : w3.cell? ⟨w.heap.size + 1, 0, none⟩ = some (.int .i64 0) := cell_of_row _ _ _ _ _ _ zb3
  have q1 : w3.cell? ⟨w.heap.size + 1, 1, none⟩ = some (.int .i64 0) := cell_of_row _ _ _ _ _ _ zb3
  have q2 : w3.cell? ⟨w.heap.size + 1, 2, none⟩ = some (.int .i64 0) := cell_of_row _ _ _ _ _ _ zb3
  have q3 : w3.cell? ⟨w.heap.size + 1, 3, none⟩ = some (.int .i64 0) := cell_of_row _ _ _ _ _ _ zb3
  have q4 : w3.cell? ⟨w.heap.size + 1, 4, none⟩ = some (.int .i64 0) := cell_of_row _ _ _ _ _ _ zb3
  have q5 : w3.cell? ⟨w.heap.size + 1, 5, none⟩ = some (.bool false) := cell_of_row _ _ _ _ _ _ zb3
  have q6 : w3.cell? ⟨w.heap.size + 1, 6, none⟩ = some (.int .i64 0) := cell_of_row _ _ _ _ _ _ zb3
  have q7 : w3.cell? ⟨w.heap.size + 1, 7, none⟩ = some (.bool false) := cell_of_row _ _ _ _ _ _ zb3
  have q8 : w3.cell? ⟨w.heap.size + 1, 8, none⟩ = some (.slice none 0 0) := cell_of_row _ _ _ _ _ _ zb3
  have fz : ∀ o, w3.frozen? ⟨w.heap.size + 1, o, none⟩ = false := fun o => Joins.unfrozen_of_block zb3 o
  have FIN2 : Hid (∀ W', (∀ b, b < w3.heap.size → b ≠ w.heap.size + 1 → W'.heap[b]? = w3.heap[b]?) → W'.os = w3.os → W'.tape = w3.tape → W'.output = w3.output → W'.heap.size = w3.heap.size → TakeQ lo ob mb now es x.key w (.returned (.tuple #[z.val0, errVal 0])) W') := fun W' hk h1 h2 h3 h5 => by
    have lt : ∀ b, b < w.heap.size → W'.heap[b]? = w.heap[b]? := fun b hb => (hk b (by omega) (by omega)).trans (B3.block b hb)
    have BW : Below w.heap.size w W' := ⟨h1.trans B3.os, h2.trans B3.tape, h3.trans B3.output, by rw [h5]; exact B3.size, lt⟩
    refine ⟨z, 0, ov, es, rfl, HTK.out.trans (by rw [HZK.out]), H0.out.below BW, (dz3.kept fun b hb => hk b (dz3.blk b hb).2.1 (by have := (dz3.blk b hb).1; omega)).le (by omega), (fun b hb => ⟨fun hm => ?_, ?_⟩), h4, BW.mono hlow⟩
    · have h1 := (dz3.blk b hb).1
      have h2 := (H0.out.forest.blk b hm).2.1
      omega
    · have h1 := (dz3.blk b hb).1
      omega
  clear KK HTK HZK B3 dz3 xb3 zb3
  obtain ⟨hz0, hz1⟩ := HCZ.out
  go_upto_region 5 with fail
  clear hz0 hz1
  go_wp2
  refine bodyPost_ret (v := .tuple #[z.val0, errVal 0]) (by simp [results, Tryz.results32, go_sem, RV.val0, Pk.val, errVal, q0, q1, q2, q3, q4, q5, q6, q7, q8]) rfl (FIN2.out _ (fun b _ hb => box_far9 w3 (w.heap.size + 1) b hb _ _ _ _ _ _ _ _ _) ?_ ?_ ?_ (box_size9 w3 _ _ _ _ _ _ _ _ _ _))
  all_goals simp [World.setCell]
end Go.Proofs.YtjbkgmbakjnlhabGreatDoor
