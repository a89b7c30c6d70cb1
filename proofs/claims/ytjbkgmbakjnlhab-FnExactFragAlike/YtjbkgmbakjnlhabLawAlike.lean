/- The walk of the law FnExactFragAlike. -/
import Derived.Test.YtjbkgmbakjnlhabAlikeI
import Derived.Test.YtjbkgmbakjnlhabKept
namespace Go.Proofs.Ytjbkgmbakjnlhab
open Go.RowKit

set_option maxRecDepth 100000 in
set_option maxHeartbeats 6400000 in
theorem alikeLaw_any (p q : Pk) (a b : Option Addr) (zs ys : List Int) (c d : Nat) (w : World) (hr : RdB w a zs.length zs) (hs : RdB w b ys.length ys) (hm : (zs.length : Int) ≤ 9223372036854775807) (hn : (ys.length : Int) ≤ 9223372036854775807) :
    Calls Try.prog 3 #[p.val (.slice a zs.length c), q.val (.slice b ys.length d)] w fun e w' => e = .returned (.bool true) ∧ Below w.heap.size w w' := by
  unfold Pk.val
  by_cases hl : 1048576 < (zs.length : Int)
  · have hi : (if (1048576 : Int) < (zs.length : Int) then (-1 : Int) else 1048576 - zs.length) = -1 := if_pos hl
    have HI : Hid ((if (1048576 : Int) < (zs.length : Int) then (-1 : Int) else 1048576 - zs.length) = -1) := hi
    clear hi
    go_enter Try.func3, Try.ntmps3
    go_wp2_with (go_at_call 6; refine (szFragPacket_any p a zs.length c 1048576 _ (by omega) (by omega) hm).mono ?_; rw [HI.out]; rintro e w1 ⟨rfl, hb1⟩)
    go_ret
    exact ⟨rfl, (Joins.below_alloc2 _ _ _).trans (hb1.mono (by simp; omega))⟩
  have hi : (if (1048576 : Int) < (zs.length : Int) then (-1 : Int) else 1048576 - zs.length) = 1048576 - zs.length := if_neg hl
  have HI : Hid ((if (1048576 : Int) < (zs.length : Int) then (-1 : Int) else 1048576 - zs.length) = 1048576 - zs.length) := hi
  clear hi
  by_cases hl2 : 1048576 - (zs.length : Int) < (ys.length : Int)
  · have hj : (if (1048576 : Int) - (zs.length : Int) < (ys.length : Int) then (-1 : Int) else 1048576 - zs.length - ys.length) = -1 := if_pos hl2
    have HJ : Hid ((if (1048576 : Int) - (zs.length : Int) < (ys.length : Int) then (-1 : Int) else 1048576 - zs.length - ys.length) = -1) := hj
    clear hj
    go_enter Try.func3, Try.ntmps3
    go_wp2_with fail
    refine (szFragPacket_any p a zs.length c 1048576 _ (by omega) (by omega) hm).mono ?_
    rw [HI.out]
    rintro e w1 ⟨rfl, hb1⟩
    have B1 : Below w.heap.size w w1 := (Joins.below_alloc2 _ _ _).trans (hb1.mono (by simp; omega))
    have Y1 : Boxed w1 (w.heap.size + 1) q (.slice b ys.length d) := (Boxed.newAt (w.alloc _) (w.heap.size + 1) q (.slice b ys.length d) 24 (by simp)).below hb1
    clear hb1
    obtain ⟨l1, k0, k1, k2, k3, k4, k5, k6, k7, k8⟩ := id Y1
    go_wp2_with fail
    refine (szFragPacket_any q b ys.length d (1048576 - zs.length) _ (by omega) (by omega) hn).mono ?_
    rw [HJ.out]
    rintro e w2 ⟨rfl, hb2⟩
    have B2 : Hid (Below w.heap.size w w2) := B1.trans (hb2.mono (by omega))
    clear hb2 B1
    go_wp2
    go_ret
    exact ⟨rfl, B2.out⟩
  have hj : (if (1048576 : Int) - (zs.length : Int) < (ys.length : Int) then (-1 : Int) else 1048576 - zs.length - ys.length) = 1048576 - zs.length - ys.length := if_neg hl2
  have HJ : Hid ((if (1048576 : Int) - (zs.length : Int) < (ys.length : Int) then (-1 : Int) else 1048576 - zs.length - ys.length) = 1048576 - zs.length - ys.length) := hj
  clear hj
  have hb : ∀ x : Bool, (x != x) = false := fun x => by simp
  have KP : Hid (∀ W : World, RdB W a zs.length zs → Calls Try.prog 8 #[.agg #[.int .i64 p.src, .int .i64 p.dst, .int .i64 p.kind, .int .i64 p.id, .int .i64 p.hops, .bool p.whole, .int .i64 p.off, .bool p.more, .slice a zs.length c]] W fun e w' => ∃ g, e = .returned (.agg #[.int .i64 p.src, .int .i64 p.dst, .int .i64 p.kind, .int .i64 p.id, .int .i64 p.hops, .bool p.whole, .int .i64 p.off, .bool p.more, .slice (some ⟨g, 0, none⟩) zs.length zs.length]) ∧ W.heap.size ≤ g ∧ w'.heap[g]? = some (.cells (cellsOf zs) 5 (0, 0)) ∧ Below W.heap.size W w') := fun W hW => toFragPacket_any p a zs.length c zs W hW (by omega)
  have KQ : Hid (∀ W : World, RdB W b ys.length ys → Calls Try.prog 8 #[.agg #[.int .i64 q.src, .int .i64 q.dst, .int .i64 q.kind, .int .i64 q.id, .int .i64 q.hops, .bool q.whole, .int .i64 q.off, .bool q.more, .slice b ys.length d]] W fun e w' => ∃ g, e = .returned (.agg #[.int .i64 q.src, .int .i64 q.dst, .int .i64 q.kind, .int .i64 q.id, .int .i64 q.hops, .bool q.whole, .int .i64 q.off, .bool q.more, .slice (some ⟨g, 0, none⟩) ys.length ys.length]) ∧ W.heap.size ≤ g ∧ w'.heap[g]? = some (.cells (cellsOf ys) 5 (0, 0)) ∧ Below W.heap.size W w') := fun W hW => toFragPacket_any q b ys.length d ys W hW (by omega)
  have KEP : Hid (∀ (W : World) (g g' : Nat), RdB W (some ⟨g, 0, none⟩) zs.length zs → RdB W (some ⟨g', 0, none⟩) zs.length zs → Calls Try.prog 10 #[.agg #[.int .i64 p.src, .int .i64 p.dst, .int .i64 p.kind, .int .i64 p.id, .int .i64 p.hops, .bool p.whole, .int .i64 p.off, .bool p.more, .slice (some ⟨g, 0, none⟩) zs.length zs.length], .agg #[.int .i64 p.src, .int .i64 p.dst, .int .i64 p.kind, .int .i64 p.id, .int .i64 p.hops, .bool p.whole, .int .i64 p.off, .bool p.more, .slice (some ⟨g', 0, none⟩) zs.length zs.length]] W fun e w' => e = .returned (.bool true) ∧ Below W.heap.size W w') := fun W g g' h1 h2 => eqFragPacket_same p (some ⟨g, 0, none⟩) (some ⟨g', 0, none⟩) zs.length zs.length zs.length zs W h1 h2 (by omega)
  have KEQ : Hid (∀ (W : World) (g g' : Nat), RdB W (some ⟨g, 0, none⟩) ys.length ys → RdB W (some ⟨g', 0, none⟩) ys.length ys → Calls Try.prog 10 #[.agg #[.int .i64 q.src, .int .i64 q.dst, .int .i64 q.kind, .int .i64 q.id, .int .i64 q.hops, .bool q.whole, .int .i64 q.off, .bool q.more, .slice (some ⟨g, 0, none⟩) ys.length ys.length], .agg #[.int .i64 q.src, .int .i64 q.dst, .int .i64 q.kind, .int .i64 q.id, .int .i64 q.hops, .bool q.whole, .int .i64 q.off, .bool q.more, .slice (some ⟨g', 0, none⟩) ys.length ys.length]] W fun e w' => e = .returned (.bool true) ∧ Below W.heap.size W w') := fun W g g' h1 h2 => eqFragPacket_same q (some ⟨g, 0, none⟩) (some ⟨g', 0, none⟩) ys.length ys.length ys.length ys W h1 h2 (by omega)
  have KS : Hid (∀ (W : World) (g g' : Nat), Calls Try.prog 7 #[.agg #[.int .i64 p.src, .int .i64 p.dst, .int .i64 p.kind, .int .i64 p.id, .int .i64 p.hops, .bool p.whole, .int .i64 p.off, .bool p.more, .slice (some ⟨g, 0, none⟩) zs.length zs.length], .agg #[.int .i64 q.src, .int .i64 q.dst, .int .i64 q.kind, .int .i64 q.id, .int .i64 q.hops, .bool q.whole, .int .i64 q.off, .bool q.more, .slice (some ⟨g', 0, none⟩) ys.length ys.length]] W fun e w' => e = .returned (.bool (alikeB (p, zs) (q, ys))) ∧ Below W.heap.size W w') := fun W g g' => specAlike_any p q (some ⟨g, 0, none⟩) (some ⟨g', 0, none⟩) zs ys zs.length ys.length W (by omega) (by omega)
  go_enter Try.func3, Try.ntmps3
  go_wp2_with fail
  refine (szFragPacket_any p a zs.length c 1048576 _ (by omega) (by omega) hm).mono ?_
  rw [HI.out]
  rintro e w1 ⟨rfl, hb1⟩
  have B1 : Below w.heap.size w w1 := (Joins.below_alloc2 _ _ _).trans (hb1.mono (by simp; omega))
  have X1 : Boxed w1 w.heap.size p (.slice a zs.length c) := ((Boxed.new w p (.slice a zs.length c) 24).below (Joins.below_alloc1 _ _)).below hb1
  have Y1 : Boxed w1 (w.heap.size + 1) q (.slice b ys.length d) := (Boxed.newAt (w.alloc _) (w.heap.size + 1) q (.slice b ys.length d) 24 (by simp)).below hb1
  clear hb1 HI
  obtain ⟨l1, k0, k1, k2, k3, k4, k5, k6, k7, k8⟩ := id Y1
  go_wp2_with fail
  refine (szFragPacket_any q b ys.length d (1048576 - zs.length) _ (by omega) (by omega) hn).mono ?_
  rw [HJ.out]
  rintro e w2 ⟨rfl, hb2⟩
  have B2 : Below w.heap.size w w2 := B1.trans (hb2.mono (by omega))
  have X2 := X1.below hb2
  have Y2 := Y1.below hb2
  clear hb2 B1 HJ X1 Y1 k0 k1 k2 k3 k4 k5 k6 k7 k8 l1
  obtain ⟨l0, c0, c1, c2, c3, c4, c5, c6, c7, c8⟩ := id X2
  obtain ⟨l1, k0, k1, k2, k3, k4, k5, k6, k7, k8⟩ := id Y2
  have HR : Hid (RdB w a zs.length zs ∧ RdB w b ys.length ys) := ⟨hr, hs⟩
  clear hr hs
  have B2d : Hid (Below w.heap.size w w2.drew) := B2.drew
  have hld : w.heap.size ≤ w2.drew.heap.size := (show w.heap.size ≤ w2.heap.size by omega)
  go_wp2
  go_region_held3 (fun w' => w'.cell? ⟨w.heap.size, 0, none⟩ = some (.int .i64 p.src) ∧ w'.cell? ⟨w.heap.size, 1, none⟩ = some (.int .i64 p.dst) ∧ w'.cell? ⟨w.heap.size, 2, none⟩ = some (.int .i64 p.kind) ∧ w'.cell? ⟨w.heap.size, 3, none⟩ = some (.int .i64 p.id) ∧ w'.cell? ⟨w.heap.size, 4, none⟩ = some (.int .i64 p.hops) ∧ w'.cell? ⟨w.heap.size, 5, none⟩ = some (.bool p.whole) ∧ w'.cell? ⟨w.heap.size, 6, none⟩ = some (.int .i64 p.off) ∧ w'.cell? ⟨w.heap.size, 7, none⟩ = some (.bool p.more) ∧ w'.cell? ⟨w.heap.size, 8, none⟩ = some (.slice a zs.length c) ∧ w'.cell? ⟨w.heap.size + 1, 0, none⟩ = some (.int .i64 q.src) ∧ w'.cell? ⟨w.heap.size + 1, 1, none⟩ = some (.int .i64 q.dst) ∧ w'.cell? ⟨w.heap.size + 1, 2, none⟩ = some (.int .i64 q.kind) ∧ w'.cell? ⟨w.heap.size + 1, 3, none⟩ = some (.int .i64 q.id) ∧ w'.cell? ⟨w.heap.size + 1, 4, none⟩ = some (.int .i64 q.hops) ∧ w'.cell? ⟨w.heap.size + 1, 5, none⟩ = some (.bool q.whole) ∧ w'.cell? ⟨w.heap.size + 1, 6, none⟩ = some (.int .i64 q.off) ∧ w'.cell? ⟨w.heap.size + 1, 7, none⟩ = some (.bool q.more) ∧ w'.cell? ⟨w.heap.size + 1, 8, none⟩ = some (.slice b ys.length d)) (go_keep)
    (first
      | (go_at_call 8; (with_reducible refine (KP.out _ (HR.out.1.below B2d.out)).mono ?_); rintro e w3 ⟨g1, rfl, hg1, hh1, b3⟩; have hs3 : w2.heap.size ≤ w3.heap.size := b3.size; have hc3 : ∀ b o, b < w2.heap.size → w3.cell? ⟨b, o, none⟩ = w2.cell? ⟨b, o, none⟩ := fun b o h => b3.cell (p := ⟨b, o, none⟩) h; have B3 : Hid (Below w.heap.size w w3) := B2d.out.trans (b3.mono hld))
      | (go_at_call 8; (with_reducible refine (KQ.out _ (HR.out.2.below B3.out)).mono ?_); rintro e w4 ⟨g2, rfl, hg2, hh2, b4⟩; have hs4 : w2.heap.size ≤ w4.heap.size := Nat.le_trans hs3 b4.size; have hc4 : ∀ b o, b < w2.heap.size → w4.cell? ⟨b, o, none⟩ = _ := fun b o h => b4.cell (p := ⟨b, o, none⟩) (Nat.lt_of_lt_of_le h hs3))
      | (go_at_call 7; (with_reducible refine (KS.out _ _ _).mono ?_); rintro e w5 ⟨rfl, b5⟩; have hs5 : w2.heap.size ≤ w5.heap.size := Nat.le_trans hs4 b5.size; have hc5 : ∀ b o, b < w2.heap.size → w5.cell? ⟨b, o, none⟩ = _ := fun b o h => b5.cell (p := ⟨b, o, none⟩) (Nat.lt_of_lt_of_le h hs4)))
  have b25 : Below w2.heap.size w2 w5 := ((draw1 _).trans b3).trans ((b4.mono hs3).trans (b5.mono hs4))
  have B5 : Below w.heap.size w w5 := B2.trans (b25.mono (by omega))
  have X5 := X2.below b25
  have Y5 := Y2.below b25
  clear c0 c1 c2 c3 c4 c5 c6 c7 c8 k0 k1 k2 k3 k4 k5 k6 k7 k8
  clear b3 b4 b5 hc3 hc4 hc5 hs3 hs4 hs5 hh1 hh2 hg1 hg2 b25 B2 B2d B3 X2 Y2 l0 l1
  obtain ⟨l0, c0, c1, c2, c3, c4, c5, c6, c7, c8⟩ := id X5
  go_wp2_with fail
  refine (KP.out _ (HR.out.1.below B5)).mono ?_
  rintro e w6 ⟨g3, rfl, hg3, hh3, b6⟩
  have B6 : Below w.heap.size w w6 := B5.trans (b6.mono (by omega))
  have X6 := X5.below b6
  have Y6 := Y5.below b6
  have D6 : RdB w6 (some ⟨g3, 0, none⟩) zs.length zs := RdB.of_block hh3
  clear c0 c1 c2 c3 c4 c5 c6 c7 c8 b6 B5 X5 Y5 l0 hh3 hg3
  obtain ⟨l1, k0, k1, k2, k3, k4, k5, k6, k7, k8⟩ := id Y6
  have hA6 := X6.lt
  have P7 : Boxed (w6.alloc (.cells (pcells p (.slice (some ⟨g3, 0, none⟩) zs.length zs.length)) 27)) w6.heap.size p (.slice (some ⟨g3, 0, none⟩) zs.length zs.length) := Boxed.new w6 p _ _
  go_wp2_with fail
  refine (KQ.out _ (HR.out.2.below (B6.alloc (by omega) _))).mono ?_
  rintro e w8 ⟨g4, rfl, hg4, hh4, b8'⟩
  have B8 : Below w.heap.size w w8 := (B6.alloc (by omega) _).trans (b8'.mono (by simp; omega))
  have X8 := (X6.below (Joins.below_alloc1 _ _)).below b8'
  have Y8 := (Y6.below (Joins.below_alloc1 _ _)).below b8'
  have P8 := P7.below b8'
  have D8 := (D6.below (Joins.below_alloc1 _ _)).below b8'
  have F8 : RdB w8 (some ⟨g4, 0, none⟩) ys.length ys := RdB.of_block hh4
  have hlt7 : w6.heap.size < w8.heap.size := P8.lt
  clear k0 k1 k2 k3 k4 k5 k6 k7 k8 b8' B6 X6 Y6 P7 D6 l1 hh4 hg4 hA6
  obtain ⟨_, k0, k1, k2, k3, k4, k5, k6, k7, k8⟩ := id P8
  have KI : Hid (∀ W : World, Calls Try.prog 9 #[.agg #[.int .i64 p.src, .int .i64 p.dst, .int .i64 p.kind, .int .i64 p.id, .int .i64 p.hops, .bool p.whole, .int .i64 p.off, .bool p.more, .slice (some ⟨g3, 0, none⟩) zs.length zs.length], .agg #[.int .i64 q.src, .int .i64 q.dst, .int .i64 q.kind, .int .i64 q.id, .int .i64 q.hops, .bool q.whole, .int .i64 q.off, .bool q.more, .slice (some ⟨g4, 0, none⟩) ys.length ys.length]] W fun e w' => e = .returned (.bool (alikeB (p, zs) (q, ys))) ∧ Below W.heap.size W w') := fun W => implAlike_any p q (some ⟨g3, 0, none⟩) (some ⟨g4, 0, none⟩) zs ys zs.length ys.length W (by omega) (by omega)
  go_wp2_with fail
  refine (KI.out _).mono ?_
  rintro e w9 ⟨rfl, b9⟩
  have b9' : Below w8.heap.size w8 w9 := (Joins.below_alloc1 _ _).trans (b9.mono (by simp))
  have B9 : Below w.heap.size w w9 := B8.trans (b9'.mono (by have := X8.lt; omega))
  have X9 := X8.below b9'
  have Y9 := Y8.below b9'
  have P9 := P8.below b9'
  have Q9 : Boxed w9 w8.heap.size q (.slice (some ⟨g4, 0, none⟩) ys.length ys.length) := (Boxed.new w8 q (.slice (some ⟨g4, 0, none⟩) ys.length ys.length) 27).below b9
  have D9 := D8.below b9'
  have F9 := F8.below b9'
  clear k0 k1 k2 k3 k4 k5 k6 k7 k8 b9 b9' B8 X8 Y8 P8 D8 F8 KI
  obtain ⟨l0, c0, c1, c2, c3, c4, c5, c6, c7, c8⟩ := id X9
  obtain ⟨l7, k0, k1, k2, k3, k4, k5, k6, k7, k8⟩ := id P9
  have B9d : Hid (Below w.heap.size w w9.drew) := B9.drew
  have D9d : Hid (RdB w9.drew (some ⟨g3, 0, none⟩) zs.length zs) := D9.below (draw1 _)
  go_wp2
  go_region_held3 (fun w' => w'.cell? ⟨w.heap.size, 0, none⟩ = some (.int .i64 p.src) ∧ w'.cell? ⟨w.heap.size, 1, none⟩ = some (.int .i64 p.dst) ∧ w'.cell? ⟨w.heap.size, 2, none⟩ = some (.int .i64 p.kind) ∧ w'.cell? ⟨w.heap.size, 3, none⟩ = some (.int .i64 p.id) ∧ w'.cell? ⟨w.heap.size, 4, none⟩ = some (.int .i64 p.hops) ∧ w'.cell? ⟨w.heap.size, 5, none⟩ = some (.bool p.whole) ∧ w'.cell? ⟨w.heap.size, 6, none⟩ = some (.int .i64 p.off) ∧ w'.cell? ⟨w.heap.size, 7, none⟩ = some (.bool p.more) ∧ w'.cell? ⟨w.heap.size, 8, none⟩ = some (.slice a zs.length c) ∧ w'.cell? ⟨w6.heap.size, 0, none⟩ = some (.int .i64 p.src) ∧ w'.cell? ⟨w6.heap.size, 1, none⟩ = some (.int .i64 p.dst) ∧ w'.cell? ⟨w6.heap.size, 2, none⟩ = some (.int .i64 p.kind) ∧ w'.cell? ⟨w6.heap.size, 3, none⟩ = some (.int .i64 p.id) ∧ w'.cell? ⟨w6.heap.size, 4, none⟩ = some (.int .i64 p.hops) ∧ w'.cell? ⟨w6.heap.size, 5, none⟩ = some (.bool p.whole) ∧ w'.cell? ⟨w6.heap.size, 6, none⟩ = some (.int .i64 p.off) ∧ w'.cell? ⟨w6.heap.size, 7, none⟩ = some (.bool p.more) ∧ w'.cell? ⟨w6.heap.size, 8, none⟩ = some (.slice (some ⟨g3, 0, none⟩) zs.length zs.length)) (go_keep)
    (first
      | (go_at_call 8; (with_reducible refine (KP.out _ (HR.out.1.below B9d.out)).mono ?_); rintro e w10 ⟨g5, rfl, hg5, hh5, b10⟩; have hs10 : w9.heap.size ≤ w10.heap.size := b10.size; have hc10 : ∀ b o, b < w9.heap.size → w10.cell? ⟨b, o, none⟩ = w9.cell? ⟨b, o, none⟩ := fun b o h => b10.cell (p := ⟨b, o, none⟩) h; have D10 : Hid (RdB w10 (some ⟨g3, 0, none⟩) zs.length zs ∧ RdB w10 (some ⟨g5, 0, none⟩) zs.length zs) := ⟨D9d.out.below b10, RdB.of_block hh5⟩)
      | (go_at_call 10; (with_reducible refine (KEP.out _ _ _ D10.out.1 D10.out.2).mono ?_); rintro e w11 ⟨rfl, b11⟩; have hc11 : ∀ b o, b < w9.heap.size → w11.cell? ⟨b, o, none⟩ = w10.cell? ⟨b, o, none⟩ := fun b o h => b11.cell (p := ⟨b, o, none⟩) (Nat.lt_of_lt_of_le h hs10)))
  have b911 : Below w9.heap.size w9 w11 := ((draw1 _).trans b10).trans (b11.mono hs10)
  have B11 : Below w.heap.size w w11 := B9.trans (b911.mono (by omega))
  have Y11 := Y9.below b911
  have Q11 := Q9.below b911
  have F11 := F9.below b911
  clear c0 c1 c2 c3 c4 c5 c6 c7 c8 k0 k1 k2 k3 k4 k5 k6 k7 k8
  clear b10 b11 hc10 hc11 hs10 hh5 hg5 b911 B9 B9d D9d D10 X9 Y9 P9 Q9 D9 F9 l0 l7
  obtain ⟨l0, c0, c1, c2, c3, c4, c5, c6, c7, c8⟩ := id Y11
  obtain ⟨l7, k0, k1, k2, k3, k4, k5, k6, k7, k8⟩ := id Q11
  have B11d : Hid (Below w.heap.size w w11.drew) := B11.drew
  have F11d : Hid (RdB w11.drew (some ⟨g4, 0, none⟩) ys.length ys) := F11.below (draw1 _)
  go_wp2
  go_region_held3 (fun w' => w'.cell? ⟨w.heap.size + 1, 0, none⟩ = some (.int .i64 q.src) ∧ w'.cell? ⟨w.heap.size + 1, 1, none⟩ = some (.int .i64 q.dst) ∧ w'.cell? ⟨w.heap.size + 1, 2, none⟩ = some (.int .i64 q.kind) ∧ w'.cell? ⟨w.heap.size + 1, 3, none⟩ = some (.int .i64 q.id) ∧ w'.cell? ⟨w.heap.size + 1, 4, none⟩ = some (.int .i64 q.hops) ∧ w'.cell? ⟨w.heap.size + 1, 5, none⟩ = some (.bool q.whole) ∧ w'.cell? ⟨w.heap.size + 1, 6, none⟩ = some (.int .i64 q.off) ∧ w'.cell? ⟨w.heap.size + 1, 7, none⟩ = some (.bool q.more) ∧ w'.cell? ⟨w.heap.size + 1, 8, none⟩ = some (.slice b ys.length d) ∧ w'.cell? ⟨w8.heap.size, 0, none⟩ = some (.int .i64 q.src) ∧ w'.cell? ⟨w8.heap.size, 1, none⟩ = some (.int .i64 q.dst) ∧ w'.cell? ⟨w8.heap.size, 2, none⟩ = some (.int .i64 q.kind) ∧ w'.cell? ⟨w8.heap.size, 3, none⟩ = some (.int .i64 q.id) ∧ w'.cell? ⟨w8.heap.size, 4, none⟩ = some (.int .i64 q.hops) ∧ w'.cell? ⟨w8.heap.size, 5, none⟩ = some (.bool q.whole) ∧ w'.cell? ⟨w8.heap.size, 6, none⟩ = some (.int .i64 q.off) ∧ w'.cell? ⟨w8.heap.size, 7, none⟩ = some (.bool q.more) ∧ w'.cell? ⟨w8.heap.size, 8, none⟩ = some (.slice (some ⟨g4, 0, none⟩) ys.length ys.length)) (go_keep)
    (first
      | (go_at_call 8; (with_reducible refine (KQ.out _ (HR.out.2.below B11d.out)).mono ?_); rintro e w12 ⟨g6, rfl, hg6, hh6, b12⟩; have hs12 : w11.heap.size ≤ w12.heap.size := b12.size; have hc12 : ∀ b o, b < w11.heap.size → w12.cell? ⟨b, o, none⟩ = w11.cell? ⟨b, o, none⟩ := fun b o h => b12.cell (p := ⟨b, o, none⟩) h; have D12 : Hid (RdB w12 (some ⟨g4, 0, none⟩) ys.length ys ∧ RdB w12 (some ⟨g6, 0, none⟩) ys.length ys) := ⟨F11d.out.below b12, RdB.of_block hh6⟩)
      | (go_at_call 10; (with_reducible refine (KEQ.out _ _ _ D12.out.1 D12.out.2).mono ?_); rintro e w13 ⟨rfl, b13⟩; have hc13 : ∀ b o, b < w11.heap.size → w13.cell? ⟨b, o, none⟩ = w12.cell? ⟨b, o, none⟩ := fun b o h => b13.cell (p := ⟨b, o, none⟩) (Nat.lt_of_lt_of_le h hs12)))
  have b1113 : Below w11.heap.size w11 w13 := ((draw1 _).trans b12).trans (b13.mono hs12)
  have B13 : Hid (Below w.heap.size w w13) := B11.trans (b1113.mono (by omega))
  clear c0 c1 c2 c3 c4 c5 c6 c7 c8 k0 k1 k2 k3 k4 k5 k6 k7 k8
  go_wp2
  go_ret
  exact ⟨rfl, B13.out⟩
end Go.Proofs.Ytjbkgmbakjnlhab
