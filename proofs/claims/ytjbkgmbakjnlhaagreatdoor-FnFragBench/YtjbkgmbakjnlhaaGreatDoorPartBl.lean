import Derived.Test.YtjbkgmbakjnlhaaGreatDoorPartBd
import Derived.Test.YtjbkgmbakjnlhaaGreatDoorPartBb
import Derived.Test.YtjbkgmbakjnlhaaGreatDoorPartAe
import Derived.Test.YtjbkgmbakjnlhaaGreatDoorPartBa
import Derived.Test.YtjbkgmbakjnlhaaGreatDoorPartBe
import Derived.Test.YtjbkgmbakjnlhaaGreatDoorPartBg
import Derived.Test.YtjbkgmbakjnlhaaGreatDoorPartAw
import Derived.Test.YtjbkgmbakjnlhaaGreatDoorPartAx
namespace Go.Proofs.YtjbkgmbakjnlhaaGreatDoor
set_option maxRecDepth 100000
open Go.RowKit
structure LC (w : World) (lo g n c : Nat) (xs : List RV) : Prop where
 own : w.ownsRow lo 29 9 (.slice (some ⟨g, 0, none⟩) n c) n (xs.flatMap RV.cells)
 each : ∀ y ∈ xs, DataB w lo y
 len : xs.length = n
theorem LC.kept {w w' : World} {lo g n c : Nat} {xs : List RV} (h : LC w lo g n c xs) (hk : ∀ b, lo ≤ b → b < w.heap.size → w'.heap[b]? = w.heap[b]?) : LC w' lo g n c xs :=
 ⟨own_kept h.own fun b hb => hk b (own_lt h.own b hb).1 (own_lt h.own b hb).2, fun y hy => (h.each y hy).kept fun b hb => hk b ((h.each y hy).blk b hb).1 ((h.each y hy).blk b hb).2.1, h.len⟩
theorem LC.below {w w' : World} {lo g n c : Nat} {xs : List RV} (h : LC w lo g n c xs) (hb : Below w.heap.size w w') : LC w' lo g n c xs := h.kept fun b _ hl => hb.block b hl
theorem LC.grown {w w' : World} {lo rb g n c : Nat} {xs : List RV} (h : LC w lo g n c xs) (hg : w.grownBy w' (some rb)) (hr : rb < lo) : LC w' lo g n c xs := h.kept fun b h1 h2 => hg.block b h2 (fun e => by have := Option.some.inj e; omega)
theorem LC.app {w w' : World} {lo g n c g' m c' : Nat} {xs ys : List RV} (h : LC w lo g n c xs) (hy : ∀ y ∈ ys, DataB w lo y) (hm : ys.length = m) (ho : w'.ownsRow lo 29 9 (.slice (some ⟨g', 0, none⟩) (n + m) c') (n + m) (xs.flatMap RV.cells ++ ys.flatMap RV.cells)) (hg : w.grownBy w' (some g)) : LC w' lo g' (n + m) c' (xs ++ ys) := by
 refine ⟨by rw [List.flatMap_append]; exact ho, fun y hy' => ?_, by rw [List.length_append, h.len, hm]⟩
 have hd : DataB w lo y := by
  rcases List.mem_append.1 hy' with h1 | h1
  ·exact h.each y h1
  ·exact hy y h1
 refine hd.kept fun b hb => hg.block b (hd.blk b hb).2.1 (fun e => ?_)
 obtain ⟨_, _, cu, hcu⟩ := hd.blk b hb
 obtain ⟨cu', hcu'⟩ := own_at h.own g rfl
 rw [Option.some.inj e, hcu'] at hcu
 cases hcu
theorem LC.rl {w : World} {lo g n c : Nat} {xs : List RV} (h : LC w lo g n c xs) : RL w g xs := by
 have h3 := RowB.of_own h.own
 refine ⟨h3.lt, fun k x hx => ?_, fun x hx => (h.each x hx).rok⟩
 have e : ∀ j v, j < 9 → x.cells[j]? = some v → w.cell? ⟨g, k * 9 + j, none⟩ = some v := fun j v hj hv => h3.cell (by rw [flatR_at xs k j x hx hj]; exact hv)
 exact ⟨e 0 _ (by omega) rfl, e 1 _ (by omega) rfl, e 2 _ (by omega) rfl, e 3 _ (by omega) rfl, e 4 _ (by omega) rfl, e 5 _ (by omega) rfl, e 6 _ (by omega) rfl, e 7 _ (by omega) rfl, e 8 _ (by omega) rfl⟩
def ComeDrawn (w : World) (e : Ending) (w' : World) : Prop := ∃ (g n c lo : Nat) (xs : List RV), e = .returned (.slice (some ⟨g, 0, none⟩) n c) ∧ LC w' lo g n c xs ∧ n ≤ 112 ∧ Below w.heap.size w w'
set_option maxHeartbeats 12800000 in
theorem drawCome_any (a : Option Addr) (len cap : Nat) (zs : List Int) (w : World) (hr : RdB w a len zs) (hz : ∀ z ∈ zs, 0 ≤ z ∧ z ≤ 255) (hc : len ≤ cap) (hl : len ≤ 1048576) :
  Calls Tryz.prog 6 #[.slice a len cap] w (ComeDrawn w) := by
 obtain ⟨ti, hti, hy0, hy1, hy2⟩ := info_parts Tryz.info9
 have KO : Hid (Calls Tryz.prog 22 #[.slice a len cap] w fun e w1 => ∃ rb, e = .returned (.pointer (some ⟨rb, 0, none⟩)) ∧ w.heap.size ≤ rb ∧ Rdr w1 rb 0 ∧ Below w.heap.size w w1) := l1Open_any a len cap zs _ hr hz hc hl
 clear hr hz
 go_enter Tryz.func6, Tryz.ntmps6
 go_wp2_with fail
 (with_reducible refine KO.out.mono ?_)
 rintro e w1 ⟨rb, rfl, hrb, R1, b1⟩
 have hrl := R1.lt
 have KP : Hid (∀ (n : Int) (M : Nat) (u : World), Rdr u rb M → M ≤ 1000000 → 0 ≤ n → n ≤ 1000000 → Calls Tryz.prog 23 #[.pointer (some ⟨rb, 0, none⟩), .int .i64 n] u (PickPost rb M n u)) := fun n M u h1 h2 h3 h4 => pick_any rb M n u h1 h2 h3 h4
 have KA : Hid (∀ (M : Nat) (u : World), Rdr u rb M → M ≤ 870000 → w1.heap.size ≤ u.heap.size → Calls Tryz.prog 24 #[.pointer (some ⟨rb, 0, none⟩)] u fun e u2 => ∃ x : RV, e = .returned (.agg #[.int .i64 x.p.src, .int .i64 x.p.dst, .int .i64 x.p.kind, .int .i64 x.p.id, .int .i64 x.p.hops, .bool x.p.whole, .int .i64 x.p.off, .bool x.p.more, .slice x.a x.zs.length x.c]) ∧ DataB u2 w1.heap.size x ∧ Rdr u2 rb (M + 2000) ∧ u.grownBy u2 (some rb)) := fun M u h1 h2 h3 => (l5Any_any rb M u h1 h2).mono (by
  rintro e u2 ⟨q, g, c, len, zs, rfl, o4, hz4, hl4, -, R4, G4, hby⟩
  subst hz4
  exact ⟨⟨q, some ⟨g, 0, none⟩, c, zs⟩, rfl, ⟨Or.inr ⟨g, rfl, Nat.le_trans h3 (own_lt o4 g rfl).1, RowB.of_own o4, (own_caps o4).1, (own_caps o4).2⟩, (show zs.length ≤ 1048576 by omega), hby⟩, R4, G4⟩)
 have KL : Hid (∀ (M : Nat) (u : World), Rdr u rb M → M ≤ 500000 → Calls Tryz.prog 25 #[.pointer (some ⟨rb, 0, none⟩)] u fun e w' => ∃ g n c qs, e = .returned (.slice (some ⟨g, 0, none⟩) n c) ∧ LS u w' rb (M + 40000) u.heap.size g n c qs) := fun M u h1 h2 => (l5List_any rb u M h2 h1).mono (by
  rintro e w4 ⟨g, n, c, qs, rfl, L4, hn3⟩
  exact ⟨g, n, c, qs, rfl, L4⟩)
 have A1 : Hid (LC (w1.alloc (.cells #[] 29)) w1.heap.size w1.heap.size 0 0 []) := (show LC _ _ _ _ _ _ from ⟨(POut.nil w1 w1.heap.size w1.heap.size rfl (Nat.le_refl _)).own, (fun y h => by cases h), rfl⟩)
 have R2 : Hid (Rdr (w1.alloc (.cells #[] 29)) rb 0) := R1.below (zBa _ _)
 have B1 : Hid (Below w.heap.size w w1) := b1
 clear KO R1 b1
 go_wp2_with fail
 (with_reducible refine (KP.out 8 0 _ R2.out (by omega) (by omega) (by omega)).mono ?_)
 rintro e w2 ⟨j0', rfl, j0, j1, -, R3, G3⟩
 have j2 := j1 (by omega)
 obtain ⟨j, rfl⟩ := Int.eq_ofNat_of_zero_le j0
 have A2 : Hid (LC w2 w1.heap.size w1.heap.size 0 0 []) := A1.out.grown G3 hrl
 have R2' : Hid (Rdr w2 rb 1) := R3
 have G2 : Hid (w1.grownBy w2 (some rb)) := grown_trans (grown_below (zBa _ _)) G3
 clear A1 R2 R3 G3 j0 j1
 go_wp2_with fail
 go_loopw [4, 5] (fun v i wr => ∃ (t g n c M : Nat) (xs : List RV), t ≤ 8 ∧ i = .int .i64 t ∧ v = .slice (some ⟨g, 0, none⟩) n c ∧ n + 14 * t ≤ 112 ∧ M + 41000 * t ≤ 400000 ∧ Hid (LC wr w1.heap.size g n c xs) ∧ Hid (Rdr wr rb M) ∧ Hid (w1.grownBy wr (some rb))) (fun _ i _ => (intOf i).toNat)
 case atStart => exact ⟨1 + j, w1.heap.size, 0, 0, 1, [], by omega, by go_num, rfl, by omega, by omega, A2.out, R2'.out, G2.out⟩
 case round =>
  obtain ⟨t, g, n, c, M, xs, ht, rfl, rfl, hn, hM, HC, HR, HG⟩ := hrel
  clear A2 R2' G2
  have sg := HG.out.size
  by_cases ht0 : 0 < t
  ·have ht1 : (0 : Int) < (t : Int) := by omega
   go_wp2_with fail
   (with_reducible refine (KP.out 5 M _ HR.out (by omega) (by omega) (by omega)).mono ?_)
   rintro e w3 ⟨z, rfl, -, -, -, R3, G3⟩
   have HC3 : Hid (LC w3 w1.heap.size g n c xs) := HC.out.grown G3 hrl
   have HR3 : Hid (Rdr w3 rb (M + 1)) := R3
   have HG3 : Hid (w1.grownBy w3 (some rb)) := grown_trans HG.out G3
   have s3 := HG3.out.size
   clear HC HR HG R3 G3
   by_cases hz0 : z = 0
   ·subst hz0
    have RO : Hid ((w3.alloc (.cells #[.int .i64 0, .int .i64 0, .int .i64 0, .int .i64 0, .int .i64 0, .bool false, .int .i64 0, .bool false, .slice none 0 0] 29)).ownsRow w1.heap.size 29 9 (.slice (some ⟨g, 0, none⟩) n c) n (xs.flatMap RV.cells)) := own_below HC3.out.own (zBa _ _)
    go_wp2_with (at_builtin; refine wpList_append_own _ rfl _ _ 23 rfl w1.heap.size 29 ti _ 9 88 Tryz.underlying23 hti hy0 hy1 hy2 rfl (by decide) (.slice (some ⟨g, 0, none⟩) n c) n (xs.flatMap RV.cells) rfl RO.out ⟨w3.heap.size, 0, none⟩ 1 1 (RV.cells ⟨zeroPk, none, 0, []⟩) rfl rfl ?h1 ?h2 ?h3 ?h4 ?h5 ?_)
    case h1 => exact rcells_new w3 ⟨zeroPk, none, 0, []⟩
    case h2 => exact rcells_one ⟨zeroPk, none, 0, []⟩
    case h3 => unfold maxLen; omega
    case h4 => omega
    case h5 => simp; omega
    intro v1 w4 hown hgrow hnil
    obtain ⟨g', c', rfl⟩ : ∃ g' c', v1 = .slice (some ⟨g', 0, none⟩) (n + 1) c' := form_of hown hnil
    have HC4 : Hid (LC w4 w1.heap.size g' (n + 1) c' (xs ++ [⟨zeroPk, none, 0, []⟩])) := (HC3.out.below (zBa _ _)).app (m := 1) (fun y hy => by rw [List.mem_singleton.1 hy]; exact ⟨Or.inl ⟨rfl, rfl, rfl⟩, by simp, by simp⟩) rfl (by simpa using hown) hgrow
    have hgl := (own_lt HC3.out.own g rfl).1
    have hgrow' : (w3.alloc (.cells #[.int .i64 0, .int .i64 0, .int .i64 0, .int .i64 0, .int .i64 0, .bool false, .int .i64 0, .bool false, .slice none 0 0] 29)).grownBy w4 (some g) := hgrow
    have HR4 : Hid (Rdr w4 rb (M + 1)) := (HR3.out.below (zBa _ _)).keep hgrow'.size fun k hk => hgrow'.block k (Nat.lt_of_lt_of_le (show k < w3.heap.size by omega) (zBa _ _).size) (fun e => by have := Option.some.inj e; omega)
    have HG4 : Hid (w1.grownBy w4 (some rb)) := (show w1.grownBy _ _ from ⟨hgrow'.os.trans (grown_trans HG3.out (grown_below (zBa _ _))).os, hgrow'.tape.trans (grown_trans HG3.out (grown_below (zBa _ _))).tape, hgrow'.output.trans (grown_trans HG3.out (grown_below (zBa _ _))).output, Nat.le_trans (grown_trans HG3.out (grown_below (zBa _ _))).size hgrow'.size, fun b hb hne => (hgrow'.block b (Nat.lt_of_lt_of_le hb (grown_trans HG3.out (grown_below (zBa _ _))).size) (fun e => by have := Option.some.inj e; omega)).trans ((grown_trans HG3.out (grown_below (zBa _ _))).block b hb hne)⟩)
    clear hown hgrow hgrow' hnil
    go_wp2
    go_roundw
    case rel => exact ⟨t - 1, g', n + 1, c', M + 1, _, by omega, by go_num, rfl, by omega, by omega, HC4.out, HR4.out, HG4.out⟩
    case measure => simp [intOf]; omega
   ·have hzb0 : (z == 0) = false := beq_eq_false_iff_ne.2 hz0
    by_cases hz1 : z = 1
    ·subst hz1
     go_wp2_with fail
     (with_reducible refine (KA.out (M + 1) _ HR3.out (by omega) s3).mono ?_)
     rintro e w5 ⟨x, rfl, D5, R5, G5⟩
     have HC5 : Hid (LC w5 w1.heap.size g n c xs) := HC3.out.grown G5 hrl
     have HR5 : Hid (Rdr w5 rb (M + 1 + 2000)) := R5
     have HG5 : Hid (w1.grownBy w5 (some rb)) := grown_trans HG3.out G5
     have HD5 : Hid (DataB w5 w1.heap.size x) := D5
     have s5 := HG5.out.size
     clear HC3 HR3 HG3 D5 R5 G5
     have RO : Hid ((w5.alloc (.cells #[.int .i64 x.p.src, .int .i64 x.p.dst, .int .i64 x.p.kind, .int .i64 x.p.id, .int .i64 x.p.hops, .bool x.p.whole, .int .i64 x.p.off, .bool x.p.more, .slice x.a x.zs.length x.c] 29)).ownsRow w1.heap.size 29 9 (.slice (some ⟨g, 0, none⟩) n c) n (xs.flatMap RV.cells)) := own_below HC5.out.own (zBa _ _)
     go_wp2_with (at_builtin; refine wpList_append_own _ rfl _ _ 23 rfl w1.heap.size 29 ti _ 9 88 Tryz.underlying23 hti hy0 hy1 hy2 rfl (by decide) (.slice (some ⟨g, 0, none⟩) n c) n (xs.flatMap RV.cells) rfl RO.out ⟨w5.heap.size, 0, none⟩ 1 1 (RV.cells x) rfl rfl ?h1 ?h2 ?h3 ?h4 ?h5 ?_)
     case h1 => exact rcells_new w5 x
     case h2 => exact rcells_one x
     case h3 => unfold maxLen; omega
     case h4 => omega
     case h5 => simp; omega
     intro v1 w4 hown hgrow hnil
     obtain ⟨g', c', rfl⟩ : ∃ g' c', v1 = .slice (some ⟨g', 0, none⟩) (n + 1) c' := form_of hown hnil
     have HC4 : Hid (LC w4 w1.heap.size g' (n + 1) c' (xs ++ [x])) := (HC5.out.below (zBa _ _)).app (m := 1) (fun y hy => by rw [List.mem_singleton.1 hy]; exact HD5.out.below (zBa _ _)) rfl (by simpa using hown) hgrow
     have hgl := (own_lt HC5.out.own g rfl).1
     have hgrow' : (w5.alloc (.cells #[.int .i64 x.p.src, .int .i64 x.p.dst, .int .i64 x.p.kind, .int .i64 x.p.id, .int .i64 x.p.hops, .bool x.p.whole, .int .i64 x.p.off, .bool x.p.more, .slice x.a x.zs.length x.c] 29)).grownBy w4 (some g) := hgrow
     have HR4 : Hid (Rdr w4 rb (M + 1 + 2000)) := (HR5.out.below (zBa _ _)).keep hgrow'.size fun k hk => hgrow'.block k (Nat.lt_of_lt_of_le (show k < w5.heap.size by omega) (zBa _ _).size) (fun e => by have := Option.some.inj e; omega)
     have HG4 : Hid (w1.grownBy w4 (some rb)) := (show w1.grownBy _ _ from ⟨hgrow'.os.trans (grown_trans HG5.out (grown_below (zBa _ _))).os, hgrow'.tape.trans (grown_trans HG5.out (grown_below (zBa _ _))).tape, hgrow'.output.trans (grown_trans HG5.out (grown_below (zBa _ _))).output, Nat.le_trans (grown_trans HG5.out (grown_below (zBa _ _))).size hgrow'.size, fun b hb hne => (hgrow'.block b (Nat.lt_of_lt_of_le hb (grown_trans HG5.out (grown_below (zBa _ _))).size) (fun e => by have := Option.some.inj e; omega)).trans ((grown_trans HG5.out (grown_below (zBa _ _))).block b hb hne)⟩)
     clear hown hgrow hgrow' hnil
     go_wp2
     go_roundw
     case rel => exact ⟨t - 1, g', n + 1, c', M + 1 + 2000, _, by omega, by go_num, rfl, by omega, by omega, HC4.out, HR4.out, HG4.out⟩
     case measure => simp [intOf]; omega
    ·have hzb1 : (z == 1) = false := beq_eq_false_iff_ne.2 hz1
     go_wp2_with fail
     (with_reducible refine (KL.out (M + 1) _ HR3.out (by omega)).mono ?_)
     rintro e w5 ⟨g2, n2, c2, qs, rfl, L5⟩
     have HC5 : Hid (LC w5 w1.heap.size g n c xs) := HC3.out.grown L5.gr hrl
     have HR5 : Hid (Rdr w5 rb (M + 1 + 40000)) := L5.rd
     have HG5 : Hid (w1.grownBy w5 (some rb)) := grown_trans HG3.out L5.gr
     have s5 := HG5.out.size
     have KM : Hid (∀ m, m ≤ n2 → ((qs.map PV.rv).take m).length = m ∧ (∀ y ∈ (qs.map PV.rv).take m, DataB w5 w1.heap.size y) ∧ (∀ (j : Nat) (u : Value), (((qs.map PV.rv).take m).flatMap RV.cells)[j]? = some u → w5.cell? ((Addr.mk g2 0 none).add j) = some u) ∧ (∀ u ∈ ((qs.map PV.rv).take m).flatMap RV.cells, u.oneCell' = true)) := fun m hm => by
      have hq : ((qs.map PV.rv).take m).length = m := by rw [List.length_take, List.length_map, L5.len]; omega
      refine ⟨hq, fun y hy => ?_, fun j u hu => ?_, fun u hu => ?_⟩
      ·obtain ⟨v, hv', rfl⟩ := List.mem_map.1 (List.mem_of_mem_take hy)
       have o := L5.pl.each v hv'
       exact ⟨Or.inr ⟨v.g, rfl, Nat.le_trans s3 (own_lt o v.g rfl).1, RowB.of_own o, (own_caps o).1, (own_caps o).2⟩, Nat.le_trans (L5.small v hv') (by omega), L5.byte v hv'⟩
      ·rw [add_none, Nat.zero_add]
       have hrow := RowB.of_own (show w5.ownsRow _ _ _ (.slice (some ⟨g2, 0, none⟩) n2 c2) n2 (qs.flatMap PV.cells) from by have h := L5.pl.row; rw [L5.len] at h; exact h)
       refine hrow.cell ?_
       have e : (qs.map PV.rv).flatMap RV.cells = qs.flatMap PV.cells := by rw [List.flatMap_map]; rfl
       rw [← e, ← List.take_append_drop m (qs.map PV.rv), List.flatMap_append, List.getElem?_append_left (List.getElem?_eq_some_iff.1 hu).1]
       exact hu
      ·obtain ⟨y, _, hy⟩ := List.mem_flatMap.1 hu
       exact rcells_one y u hy
     have hcap := (own_caps (show w5.ownsRow _ _ _ (.slice (some ⟨g2, 0, none⟩) n2 c2) n2 (qs.flatMap PV.cells) from by have h := L5.pl.row; rw [L5.len] at h; exact h)).1
     clear HC3 HR3 HG3 L5
     have KE : Hid (∀ m, m ≤ n2 → m ≤ 14 → w5.ownsRow w1.heap.size 29 9 (.slice (some ⟨g, 0, none⟩) n c) n (xs.flatMap RV.cells)) := fun m _ _ => HC5.out.own
     by_cases h14 : 14 < n2
     ·have h14' : (14 : Int) < (n2 : Int) := by omega
      have hc14 : 14 ≤ c2 := by omega
      obtain ⟨q1, q2, q3, q4⟩ := KM.out 14 (by omega)
      go_wp2_with (at_builtin; refine wpList_append_own _ rfl _ _ 23 rfl w1.heap.size 29 ti _ 9 88 Tryz.underlying23 hti hy0 hy1 hy2 rfl (by decide) (.slice (some ⟨g, 0, none⟩) n c) n (xs.flatMap RV.cells) rfl HC5.out.own ⟨g2, 0, none⟩ 14 c2 (((qs.map PV.rv).take 14).flatMap RV.cells) rfl (by rw [flatR_len, q1]) ?h1 ?h2 ?h3 ?h4 ?h5 ?_)
      case h1 => exact q3
      case h2 => exact q4
      case h3 => unfold maxLen; omega
      case h4 => omega
      case h5 => omega
      intro v1 w4 hown hgrow hnil
      obtain ⟨g', c', rfl⟩ : ∃ g' c', v1 = .slice (some ⟨g', 0, none⟩) (n + 14) c' := form_of hown hnil
      have HC4 : Hid (LC w4 w1.heap.size g' (n + 14) c' (xs ++ (qs.map PV.rv).take 14)) := HC5.out.app q2 q1 hown hgrow
      have hgl := (own_lt HC5.out.own g rfl).1
      have hgrow' : w5.grownBy w4 (some g) := hgrow
      have HR4 : Hid (Rdr w4 rb (M + 1 + 40000)) := HR5.out.keep hgrow'.size fun k hk => hgrow'.block k (by omega) (fun e => by have := Option.some.inj e; omega)
      have HG4 : Hid (w1.grownBy w4 (some rb)) := (show w1.grownBy _ _ from ⟨hgrow'.os.trans HG5.out.os, hgrow'.tape.trans HG5.out.tape, hgrow'.output.trans HG5.out.output, Nat.le_trans HG5.out.size hgrow'.size, fun b hb hne => (hgrow'.block b (Nat.lt_of_lt_of_le hb HG5.out.size) (fun e => by have := Option.some.inj e; omega)).trans (HG5.out.block b hb hne)⟩)
      clear hown hgrow hgrow' hnil
      go_wp2
      go_roundw
      case rel => exact ⟨t - 1, g', n + 14, c', M + 1 + 40000, _, by omega, by go_num, rfl, by omega, by omega, HC4.out, HR4.out, HG4.out⟩
      case measure => simp [intOf]; omega
     ·have h14' : ¬ ((14 : Int) < (n2 : Int)) := by omega
      obtain ⟨q1, q2, q3, q4⟩ := KM.out n2 (by omega)
      go_wp2_with (at_builtin; refine wpList_append_own _ rfl _ _ 23 rfl w1.heap.size 29 ti _ 9 88 Tryz.underlying23 hti hy0 hy1 hy2 rfl (by decide) (.slice (some ⟨g, 0, none⟩) n c) n (xs.flatMap RV.cells) rfl HC5.out.own ⟨g2, 0, none⟩ n2 c2 (((qs.map PV.rv).take n2).flatMap RV.cells) rfl (by rw [flatR_len, q1]) ?h1 ?h2 ?h3 ?h4 ?h5 ?_)
      case h1 => exact q3
      case h2 => exact q4
      case h3 => unfold maxLen; omega
      case h4 => omega
      case h5 => omega
      intro v1 w4 hown hgrow hnil
      obtain ⟨g', c', rfl⟩ : ∃ g' c', v1 = .slice (some ⟨g', 0, none⟩) (n + n2) c' := form_of hown hnil
      have HC4 : Hid (LC w4 w1.heap.size g' (n + n2) c' (xs ++ (qs.map PV.rv).take n2)) := HC5.out.app q2 q1 hown hgrow
      have hgl := (own_lt HC5.out.own g rfl).1
      have hgrow' : w5.grownBy w4 (some g) := hgrow
      have HR4 : Hid (Rdr w4 rb (M + 1 + 40000)) := HR5.out.keep hgrow'.size fun k hk => hgrow'.block k (by omega) (fun e => by have := Option.some.inj e; omega)
      have HG4 : Hid (w1.grownBy w4 (some rb)) := (show w1.grownBy _ _ from ⟨hgrow'.os.trans HG5.out.os, hgrow'.tape.trans HG5.out.tape, hgrow'.output.trans HG5.out.output, Nat.le_trans HG5.out.size hgrow'.size, fun b hb hne => (hgrow'.block b (Nat.lt_of_lt_of_le hb HG5.out.size) (fun e => by have := Option.some.inj e; omega)).trans (HG5.out.block b hb hne)⟩)
      clear hown hgrow hgrow' hnil
      go_wp2
      go_roundw
      case rel => exact ⟨t - 1, g', n + n2, c', M + 1 + 40000, _, by omega, by go_num, rfl, by omega, by omega, HC4.out, HR4.out, HG4.out⟩
      case measure => simp [intOf]; omega
  ·have ht1 : ¬ ((0 : Int) < (t : Int)) := by omega
   have FIN : Hid (ComeDrawn w (.returned (.slice (some ⟨g, 0, none⟩) n c)) wr) := (show ComeDrawn _ _ _ from ⟨g, n, c, w1.heap.size, xs, rfl, HC.out, by omega, below_of_grown B1.out HG.out hrb⟩)
   go_wp2
   go_ret
   exact FIN.out
set_option maxHeartbeats 25600000 in
theorem bn8_tick {Q : Exit → Act → World → Prop} {w1 : World} {gl n cl : Nat} {xs : List RV} (C : LCx w1 gl n xs) {wr : World} {k l : Nat} {nw : Int} {ob : Option Addr} {cb : Nat} {ts : List SV} (S : BSt w1 wr k l nw ob cb ts) {x : RV} (hkn : k < n) (hx : xs[k]? = some x) {v0 v1 v2 v6 v7 v8 v9 v10 v11 v12 v13 v14 v15 v16 v17 v18 v19 v20 : Value} {f : Nat → Value} (hkx : n ≤ 112) (htick : x.p.kind = 0 ∧ x.p.hops = 0) (hQ : Hid (∀ f u6 u7 u8 u9 wx l' nw' ob' cb' ts', BSt w1 wx (k + 1) l' nw' ob' cb' ts' → Q (.exit 1) (fr v0 v1 v2 (.slice (some ⟨gl, 0, none⟩) n cl) (.pointer (some ⟨w1.heap.size, 0, none⟩)) (.int .i64 k) (u6) (u7) (u8) (u9) v10 v11 v12 v13 v14 v15 v16 v17 v18 v19 v20 f) wx)) : (Cd.fst (Cd.inn (Cd.fst (Cd.snd (Cd.inn (Cd.inn (Cd.snd (Cd.fst (Cd.snd (Cd.snd (Cd.snd (Cd.snd (Option.getD Tryz.f3.body .skip))))))))))))).wp Tryz.prog Q (fr v0 v1 v2 (.slice (some ⟨gl, 0, none⟩) n cl) (.pointer (some ⟨w1.heap.size, 0, none⟩)) (.int .i64 k) v6 v7 v8 v9 v10 v11 v12 v13 v14 v15 v16 v17 v18 v19 v20 f) wr := by
 obtain ⟨HXL, hgl, HX, HG⟩ := C
 obtain ⟨hl, hlb, hlx, hnk, HTL, HOK, HQT, HBX, HBE⟩ := S
 have hn0 := HOK.out.1.1
 have j0 : wr.cell? ⟨w1.heap.size, 0, none⟩ = some (.int .i64 nw) := zCr HBX.out
 have j1 : wr.cell? ⟨w1.heap.size, 1, none⟩ = some (.slice ob l cb) := zCr HBX.out
 have lj := lt_of_block HBX.out
 have HSL : Hid (SLq wr ob ts) := HQT.out wr fun b _ _ => rfl
 have hki : (k : Int) < (n : Int) := by omega
 have HXK : Hid (xs[k]? = some x) := hx
 obtain ⟨hxr, c0, c1, c2, c3, c4, c5, c6, c7, c8⟩ := HX.out wr k x HBE.out hx
 have HXR : Hid (ROk wr x) := hxr
 clear hx hxr
 have hglr : gl < wr.heap.size := by have := HBE.out.size; omega
 have hkz : (x.p.kind == 0) = true := beq_iff_eq.2 htick.1
 have hhz : (x.p.hops == 0) = true := beq_iff_eq.2 htick.2
 clear htick
 have KT : Hid (∀ (u : World) (nw : Int) (ob : Option Addr) (cb : Nat) (ts : List SV), Below w1.heap.size w1 u → SLq u ob ts → ts.length ≤ 8 → ts.length ≤ cb → cb ≤ 9223372036854775807 → Calls Tryz.prog 7 #[.agg #[.int .i64 nw, .slice ob ts.length cb]] u (fun e u' => ∃ (now' : Int) (oa' : Option Addr) (cl' : Nat) (us : List SV) (c : Int), e = .returned (.tuple #[.agg #[.int .i64 now', .slice oa' us.length cl'], .int .i64 c]) ∧ TickP nw ts now' (us.map SV.key) c ∧ us.length ≤ 4 ∧ us.length ≤ cl' ∧ cl' ≤ 9223372036854775807 ∧ BT u' u.heap.size oa' us ∧ Below u.heap.size u u')) := fun u nw ob cb ts h h1 h2 h3 h4 => (implTick_any nw ob cb ts u h1 (by omega) h3 h4 (HG.out u h)).mono (by
  rintro e u' ⟨v, now', ks, c, rfl, hP, ⟨oa', cl', us, rfl, hk, hl, hc, hm, hA⟩, hb⟩
  subst hk
  exact ⟨now', oa', cl', us, c, rfl, hP, hl, hc, hm, hA.bt, hb⟩)
 have KU : Hid (∀ (u : World) (nw : Int) (ob : Option Addr) (cb : Nat) (ts : List SV), SLq u ob ts → ts.length ≤ 8 → ts.length ≤ cb → cb ≤ 9223372036854775807 → Calls Tryz.prog 8 #[.agg #[.int .i64 nw, .slice ob ts.length cb]] u (fun e u' => ∃ (now' : Int) (oa' : Option Addr) (cl' : Nat) (us : List SV) (c : Int), e = .returned (.tuple #[.agg #[.int .i64 now', .slice oa' us.length cl'], .int .i64 c]) ∧ TickP nw ts now' (us.map SV.key) c ∧ us.length ≤ 4 ∧ us.length ≤ cl' ∧ cl' ≤ 9223372036854775807 ∧ BT u' u.heap.size oa' us ∧ Below u.heap.size u u')) := fun u nw ob cb ts h1 h2 h3 h4 => (specTick_any nw ob cb ts u h1 (by omega) h3 h4).mono (by
  rintro e u' ⟨v, now', ks, c, rfl, hP, ⟨oa', cl', us, rfl, hk, hl, hc, hm, hA⟩, hb⟩
  subst hk
  exact ⟨now', oa', cl', us, c, rfl, hP, hl, hc, hm, hA.bt, hb⟩)
 refine wp_is (c' := .seq _ _) rfl ?_
 unfold fr
 have KTr : Hid (Calls Tryz.prog 7 #[.agg #[.int .i64 nw, .slice ob l cb]] wr (fun e u' => ∃ (now' : Int) (oa' : Option Addr) (cl' : Nat) (us : List SV) (c : Int), e = .returned (.tuple #[.agg #[.int .i64 now', .slice oa' us.length cl'], .int .i64 c]) ∧ TickP nw ts now' (us.map SV.key) c ∧ us.length ≤ 4 ∧ us.length ≤ cl' ∧ cl' ≤ 9223372036854775807 ∧ BT u' wr.heap.size oa' us ∧ Below wr.heap.size wr u')) := by
  have h := KT.out wr nw ob cb ts HBE.out HSL.out (by rw [HTL.out]; omega) (by rw [HTL.out]; omega) hlx
  rw [HTL.out] at h
  exact h
 go_wp2_with fail
 (with_reducible refine KTr.out.mono ?_)
 rintro e v1 ⟨now1, oa1, cl1, us1, c1', rfl, P1, hu1, hv1', hx1, T1, d1⟩
 obtain ⟨n1, hn1'⟩ : ∃ n1, us1.length = n1 := ⟨_, rfl⟩
 have HN1 : Hid (us1.length = n1) := hn1'
 rw [hn1'] at hu1 hv1'
 obtain ⟨rfl, hc1, hP1⟩ : now1 = nw + 1 ∧ c1' = 0 ∧ us1.map SV.key = (ts.map SV.key).filter (fun k => decide (nw + 1 - 6 < k.2.1)) := by
  rcases P1 with ⟨h1, _⟩ | ⟨_, h1, _⟩ | ⟨_, _, h1, h2, h3⟩
  ·exact absurd HOK.out h1
  ·omega
  ·exact ⟨h1, h3, h2⟩
 subst hc1
 have HP1 : Hid (TickP nw ts (nw + 1) (us1.map SV.key) 0) := P1
 have HT1 : Hid (BT v1 wr.heap.size oa1 us1) := T1
 have HK1 : Hid (benchOk (nw + 1) us1) := (tick_ok HOK.out (by omega) hP1).1
 have HD1 : Hid (Below wr.heap.size wr v1) := d1
 have sd1 := d1.size
 have r0 : v1.cell? ⟨w1.heap.size, 0, none⟩ = some (.int .i64 nw) := zCr ((d1.block _ lj).trans HBX.out)
 have r1 : v1.cell? ⟨w1.heap.size, 1, none⟩ = some (.slice ob l cb) := zCr ((d1.block _ lj).trans HBX.out)
 have KUr : Hid (Calls Tryz.prog 8 #[.agg #[.int .i64 nw, .slice ob l cb]] (v1.alloc (.cells #[.int .i64 (nw + 1), .slice oa1 n1 cl1] 27)) (fun e u' => ∃ (now' : Int) (oa' : Option Addr) (cl' : Nat) (us : List SV) (c : Int), e = .returned (.tuple #[.agg #[.int .i64 now', .slice oa' us.length cl'], .int .i64 c]) ∧ TickP nw ts now' (us.map SV.key) c ∧ us.length ≤ 4 ∧ us.length ≤ cl' ∧ cl' ≤ 9223372036854775807 ∧ BT u' (v1.alloc (.cells #[.int .i64 (nw + 1), .slice oa1 n1 cl1] 27)).heap.size oa' us ∧ Below (v1.alloc (.cells #[.int .i64 (nw + 1), .slice oa1 n1 cl1] 27)).heap.size (v1.alloc (.cells #[.int .i64 (nw + 1), .slice oa1 n1 cl1] 27)) u')) := by
  have h := KU.out (v1.alloc (.cells #[.int .i64 (nw + 1), .slice oa1 n1 cl1] 27)) nw ob cb ts (HSL.out.below (d1.alloc sd1 _)) (by rw [HTL.out]; omega) (by rw [HTL.out]; omega) hlx
  rw [HTL.out] at h
  exact h
 clear P1 T1 d1 KTr j0 j1 hP1
 rw [hn1']
 clear hn1'
 have lj1 : w1.heap.size < v1.heap.size := by omega
 go_wp2_with fail
 (with_reducible refine KUr.out.mono ?_)
 rintro e v2 ⟨now2, oa2, cl2, us2, c2', rfl, P2, hu2, hv2', hx2, T2, d2⟩
 obtain ⟨rfl, hkk, rfl⟩ := HP1.out.same P2 rfl
 obtain ⟨n2, hn2'⟩ : ∃ n2, us2.length = n2 := ⟨_, rfl⟩
 have HN2 : Hid (us2.length = n2) := hn2'
 have sd2 : v1.heap.size + 1 ≤ v2.heap.size := by have := d2.size; simpa using this
 have Y2 : v2.heap[v1.heap.size]? = some (.cells #[.int .i64 (nw + 1), .slice oa1 n1 cl1] 27 (0, 0)) := (d2.block _ (by simp)).trans (heap_new _ _ _ rfl)
 have D12 : Hid (Below v1.heap.size v1 v2) := (zBa _ _).trans (d2.mono (by simp))
 have Z2 : v2.heap[w1.heap.size]? = some (.cells #[.int .i64 nw, .slice ob l cb] 27 (0, 0)) := (D12.out.block _ (by omega)).trans ((HD1.out.block _ lj).trans HBX.out)
 have KWr : Hid (Calls Tryz.prog 9 #[.agg #[.int .i64 (nw + 1), .slice oa1 n1 cl1], .agg #[.int .i64 (nw + 1), .slice oa2 n2 cl2]] (v2.alloc (.cells #[.int .i64 (nw + 1), .slice oa2 n2 cl2] 27)) fun e w' => e = .returned (.bool true) ∧ Below (v2.alloc (.cells #[.int .i64 (nw + 1), .slice oa2 n2 cl2] 27)).heap.size (v2.alloc (.cells #[.int .i64 (nw + 1), .slice oa2 n2 cl2] 27)) w') := by
  have h := wfBench_q (nw + 1) oa1 oa2 cl1 cl2 us1 us2 (v2.alloc (.cells #[.int .i64 (nw + 1), .slice oa2 n2 cl2] 27)) ((HT1.out.below D12.out).below (zBa _ _)).slq (T2.below (zBa _ _)).slq hkk.symm (by rw [HN1.out]; omega)
  rw [HN1.out, HN2.out] at h
  exact h
 have m0 : v2.cell? ⟨v1.heap.size, 0, none⟩ = some (.int .i64 (nw + 1)) := zCr Y2
 have m1 : v2.cell? ⟨v1.heap.size, 1, none⟩ = some (.slice oa1 n1 cl1) := zCr Y2
 have HY2 : Hid (v2.heap[v1.heap.size]? = some (.cells #[.int .i64 (nw + 1), .slice oa1 n1 cl1] 27 (0, 0))) := Y2
 rw [hn2']
 clear P2 T2 d2 KUr Y2 Z2 hn2' hkk r0 r1
 have lj2 : v1.heap.size < v2.heap.size := by omega
 go_wp2_with fail
 (with_reducible refine KWr.out.mono ?_)
 rintro e v3 ⟨rfl, d3⟩
 have sd3 : v2.heap.size + 1 ≤ v3.heap.size := by have := d3.size; simpa using this
 have D13 : Hid (Below v1.heap.size v1 v3) := (D12.out.alloc (by omega) _).trans (d3.mono (by simp; omega))
 have Y3 : v3.heap[v1.heap.size]? = some (.cells #[.int .i64 (nw + 1), .slice oa1 n1 cl1] 27 (0, 0)) := (d3.block _ (by simp; omega)).trans ((zHa lj2).trans HY2.out)
 have Z3 : v3.heap[w1.heap.size]? = some (.cells #[.int .i64 nw, .slice ob l cb] 27 (0, 0)) := (D13.out.block _ (by omega)).trans ((HD1.out.block _ lj).trans HBX.out)
 have t0 : v3.cell? ⟨v1.heap.size, 0, none⟩ = some (.int .i64 (nw + 1)) := zCr Y3
 have t1 : v3.cell? ⟨v1.heap.size, 1, none⟩ = some (.slice oa1 n1 cl1) := zCr Y3
 have z0 : v3.cell? ⟨w1.heap.size, 0, none⟩ = some (.int .i64 nw) := zCr Z3
 have z1 : v3.cell? ⟨w1.heap.size, 1, none⟩ = some (.slice ob l cb) := zCr Z3
 have fz3 : ∀ o, v3.frozen? ⟨w1.heap.size, o, none⟩ = false := fun o => zUf Z3 o
 have lz3 := lt_of_block Z3
 have HQ3 : Hid (∀ u : World, (∀ b, b ≠ w1.heap.size → b < ((v3.setCell ⟨w1.heap.size, 0, none⟩ (.int .i64 (nw + 1))).setCell ⟨w1.heap.size, 1, none⟩ (.slice oa1 n1 cl1)).heap.size → u.heap[b]? = ((v3.setCell ⟨w1.heap.size, 0, none⟩ (.int .i64 (nw + 1))).setCell ⟨w1.heap.size, 1, none⟩ (.slice oa1 n1 cl1)).heap[b]?) → SLq u oa1 us1) := fun u h => (HT1.out.kept fun b hb1 hb2 => (h b (by omega) (by simp [World.setCell]; omega)).trans ((zHs (by simp only; omega)).trans ((zHs (by simp only; omega)).trans (D13.out.block b hb2)))).slq
 have HX3 : Hid (((v3.setCell ⟨w1.heap.size, 0, none⟩ (.int .i64 (nw + 1))).setCell ⟨w1.heap.size, 1, none⟩ (.slice oa1 n1 cl1)).heap[w1.heap.size]? = some (.cells #[.int .i64 (nw + 1), .slice oa1 n1 cl1] 27 (0, 0))) := (show _ = _ by rw [set_at (set_at Z3)]; rfl)
 have HE3 : Hid (Below w1.heap.size w1 ((v3.setCell ⟨w1.heap.size, 0, none⟩ (.int .i64 (nw + 1))).setCell ⟨w1.heap.size, 1, none⟩ (.slice oa1 n1 cl1))) := Below.setCell (Below.setCell ((HBE.out.trans (HD1.out.mono (by omega))).trans (D13.out.mono (by omega))) (by simp only; omega) _) (by simp only; omega) _
 have hw1 : IntKind.i64.wrap (nw + 1) = nw + 1 := by rw [IntKind.wrap_i64]; omega
 clear d3 Y3 Z3 m0 m1 KWr
 go_wp2
 refine fr_end (C := fun a => Q (.exit 1) a _) rfl rfl rfl (fun f => ?_)
 exact hQ.out f _ _ _ _ _ n1 (nw + 1) oa1 cl1 us1 ⟨by omega, by omega, hx1, by omega, HN1.out, HK1.out, HQ3.out, HX3.out, HE3.out⟩
end Go.Proofs.YtjbkgmbakjnlhaaGreatDoor
