/- The program's joined: the head of what is joined. -/
import Derived.Test.YtjbkgmbakjnlhaaJoinS
import Derived.Test.YtjbkgmbakjnlhaaRList
import Derived.Test.YtjbkgmbakjnlhaaKept
import Derived.Deep.WholeRow
namespace Go.Proofs.Ytjbkgmbakjnlhaa
open Go.RowKit

def leastH (h : Int) (y : PB) : Int := if y.1.hops < h then y.1.hops else h
/-- the head of the first so many -/
def headTo (x0 : RV) (L : List PB) (k : Nat) : Pk := ⟨x0.p.src, x0.p.dst, x0.p.kind, x0.p.id, (L.take k).foldl leastH x0.p.hops, x0.p.whole || (L.take k).any (fun y => y.1.whole), 0, false⟩
theorem headTo_succ {x0 : RV} {L : List PB} {k : Nat} {x : PB} (hx : L[k]? = some x) : headTo x0 L (k + 1) = { headTo x0 L k with hops := leastH (headTo x0 L k).hops x, whole := (headTo x0 L k).whole || x.1.whole } := by
  unfold headTo
  rw [List.take_add_one, hx]
  simp [List.foldl_append, List.any_append, Bool.or_assoc]
theorem headTo_all {x0 : RV} {L : List PB} (h0 : L[0]? = some x0.key) : headTo x0 L L.length = headL L := by
  match L, h0 with
  | x :: r, h0 =>
    simp at h0
    subst h0
    unfold headTo headL
    have hw : (x0.p.whole || (x0.key :: r).any (fun y => y.1.whole)) = (x0.key :: r).any (fun y => y.1.whole) := by simp [RV.key]
    rw [List.take_length, hw]
    rfl

/-- the two packets in memory: the answer's and the one that is written -/
structure HW (w wr : World) (rb bb : Nat) (p : Pk) (v : Value) : Prop where
  res : wr.heap[rb]? = some (.cells (pcells zeroPk (.slice none 0 0)) 24 (0, 0))
  box : wr.heap[bb]? = some (.cells (pcells p v) 24 (0, 0))
  bel : Below w.heap.size w wr
theorem HW.alloc {w wr : World} {rb bb : Nat} {p : Pk} {v : Value} (h : HW w wr rb bb p v) (o : Obj) : HW w (wr.alloc o) rb bb p v :=
  ⟨(Below.heap_alloc _ _ _ (lt_of_block h.res)).trans h.res, (Below.heap_alloc _ _ _ (lt_of_block h.box)).trans h.box, h.bel.alloc h.bel.size _⟩
theorem HW.set5 {w wr : World} {rb bb : Nat} {p : Pk} {v : Value} (h : HW w wr rb bb p v) (hb : w.heap.size ≤ bb) (hne : rb ≠ bb) (y : Bool) : HW w (wr.setCell ⟨bb, 5, none⟩ (.bool y)) rb bb ⟨p.src, p.dst, p.kind, p.id, p.hops, y, p.off, p.more⟩ v := by
  refine ⟨(Below.heap_setCell _ _ _ _ hne).trans h.res, ?_, h.bel.setCell hb _⟩
  rw [setCell_eq_setRow wr bb 5 _ _ _ _ h.box, setRow_heap _ _ _ _ _ _ h.box]
  rfl
theorem HW.set4 {w wr : World} {rb bb : Nat} {p : Pk} {v : Value} (h : HW w wr rb bb p v) (hb : w.heap.size ≤ bb) (hne : rb ≠ bb) (y : Int) : HW w (wr.setCell ⟨bb, 4, none⟩ (.int .i64 y)) rb bb ⟨p.src, p.dst, p.kind, p.id, y, p.whole, p.off, p.more⟩ v := by
  refine ⟨(Below.heap_setCell _ _ _ _ hne).trans h.res, ?_, h.bel.setCell hb _⟩
  rw [setCell_eq_setRow wr bb 4 _ _ _ _ h.box, setRow_heap _ _ _ _ _ _ h.box]
  rfl
theorem HW.start (w : World) (p : Pk) (v : Value) : HW w ((w.alloc (.cells (pcells zeroPk (.slice none 0 0)) 24)).alloc (.cells (pcells p v) 24)) w.heap.size (w.heap.size + 1) p v :=
  ⟨(Below.heap_alloc _ _ _ (by simp)).trans (heap_new _ _ _ rfl), heap_new _ _ _ (by simp), Joins.below_alloc2 _ _ _⟩

set_option maxRecDepth 100000 in
set_option maxHeartbeats 3200000 in
theorem joined_any (g cl : Nat) (xs : List RV) (x0 : RV) (ad : Option Addr) (m c : Nat) (w : World) (hL : RL w g xs) (hm : xs.length ≤ 40) (h0 : xs[0]? = some x0) :
    Calls Try.prog 43 #[.slice (some ⟨g, 0, none⟩) xs.length cl, .slice ad m c] w fun e w' => e = .returned ((headL (xs.map RV.key)).val (.slice ad m c)) ∧ Below w.heap.size w w' := by
  have hpos : (0 : Int) < (xs.length : Int) := by
    rcases Nat.lt_or_ge 0 xs.length with h | h
    · omega
    · rw [List.getElem?_eq_none h] at h0; cases h0
  have HL : Hid (RL w g xs) := hL
  have H0 : Hid (xs[0]? = some x0) := h0
  have hg := hL.lt
  obtain ⟨c0, c1, c2, c3, c4, c5, c6, c7, c8⟩ := (hL.elem 0 x0 h0).head
  clear hL h0
  go_enter Try.func43, Try.ntmps43
  go_wp2
  go_loopw [17] (fun i wr => ∃ (k : Nat) (p : Pk), k ≤ xs.length ∧ i = .int .i64 k ∧ Hid (p = headTo x0 (xs.map RV.key) k) ∧ Hid (HW w wr w.heap.size (w.heap.size + 1) p (.slice ad m c))) (fun i _ => xs.length - (intOf i).toNat)
  case atStart => exact ⟨0, headTo x0 (xs.map RV.key) 0, by omega, rfl, rfl, by
      have h := HW.start w ⟨x0.p.src, x0.p.dst, x0.p.kind, x0.p.id, x0.p.hops, x0.p.whole, 0, false⟩ (.slice ad m c)
      have e : headTo x0 (xs.map RV.key) 0 = ⟨x0.p.src, x0.p.dst, x0.p.kind, x0.p.id, x0.p.hops, x0.p.whole, 0, false⟩ := by simp [headTo]
      rw [e]
      exact h⟩
  case round =>
    obtain ⟨k, p, hk, rfl, HP, HW0⟩ := hrel
    have B0 := HW0.out.bel
    have hs0 := B0.size
    have hrl := lt_of_block HW0.out.res
    have hbl := lt_of_block HW0.out.box
    have fx : ∀ o, wr.frozen? ⟨w.heap.size + 1, o, none⟩ = false := fun o => Joins.unfrozen_of_block HW0.out.box o
    have fz : ∀ o, wr.frozen? ⟨w.heap.size, o, none⟩ = false := fun o => Joins.unfrozen_of_block HW0.out.res o
    clear c0 c1 c2 c3 c4 c5 c6 c7 c8
    obtain ⟨_, k0, k1, k2, k3, k4, k5, k6, k7, k8⟩ := Boxed.of_block HW0.out.box
    by_cases hlt : k < xs.length
    · obtain ⟨x, hx⟩ := get_of_lt hlt
      have Lr := HL.out.below B0
      have hgr := Lr.lt
      obtain ⟨c0, c1, c2, c3, c4, c5, c6, c7, c8⟩ := Lr.elem k x hx
      have HN : Hid (headTo x0 (xs.map RV.key) (k + 1) = ⟨p.src, p.dst, p.kind, p.id, leastH p.hops x.key, p.whole || x.p.whole, p.off, p.more⟩) := by
        show headTo x0 (xs.map RV.key) (k + 1) = _
        rw [headTo_succ (map_get hx), ← HP.out]
        rfl
      have hi : (k : Int) < (xs.length : Int) := by omega
      have hnb : wr.heap.size ≠ w.heap.size + 1 := by omega
      clear hx Lr
      have e4 : (if x.p.hops < p.hops then x.p.hops else p.hops) = leastH p.hops x.key := rfl
      obtain ⟨s2, d2, n2, i2, h2, w2, o2, m2⟩ := p
      obtain ⟨lh, hlh⟩ : ∃ lh, leastH h2 x.key = lh := ⟨_, rfl⟩
      simp only [hlh] at e4 HN
      cases w2
      all_goals
        go_wp2
        go_roundw
        case rel =>
          refine ⟨k + 1, _, by omega, by go_num, HN.out.symm, ?_⟩
          exact ((HW0.out.set4 (by omega) (by omega) lh).set5 (by omega) (by omega) _).alloc _
        case measure => simp [intOf]; omega
    · obtain rfl : k = xs.length := by omega
      have HE : Hid (p = headL (xs.map RV.key)) := by
        have h := headTo_all (x0 := x0) (L := xs.map RV.key) (map_get H0.out)
        rw [List.length_map] at h
        show p = _
        rw [HP.out, h]
      obtain ⟨_, z0, z1, z2, z3, z4, z5, z6, z7, z8⟩ := Boxed.of_block HW0.out.res
      have BH : Hid (Below w.heap.size w wr) := B0
      clear B0
      go_wp2
      refine bodyPost_ret (v := .agg #[.int .i64 p.src, .int .i64 p.dst, .int .i64 p.kind, .int .i64 p.id, .int .i64 p.hops, .bool p.whole, .int .i64 p.off, .bool p.more, .slice ad m c]) (by simp [results, Try.results43, go_sem, z0, z1, z2, z3, z4, z5, z6, z7, z8]) rfl ⟨?_, ?_⟩
      · rw [← HE.out]
        rfl
      · exact below9 BH.out (Nat.le_refl _) _ _ _ _ _ _ _ _ _
end Go.Proofs.Ytjbkgmbakjnlhaa
