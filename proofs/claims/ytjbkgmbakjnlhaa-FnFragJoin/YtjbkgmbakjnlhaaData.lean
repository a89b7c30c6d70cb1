/- Contracts of l1Open and l5Data. -/
import Derived.Test.YtjbkgmbakjnlhaaPick
import Derived.Test.YtjbkgmbakjnlhaaCopy
namespace Go.Proofs.Ytjbkgmbakjnlhaa
open Go.RowKit

theorem RdrAt.lt {w : World} {rb N bl bc : Nat} {ba : Option Addr} {zs : List Int} {p : Int} (h : RdrAt w rb N ba bl bc zs p) : rb < w.heap.size := h.cells.2.2.2
theorem Rdr.lt {w : World} {rb N : Nat} (h : Rdr w rb N) : rb < w.heap.size := by obtain ⟨_, _, _, _, _, h⟩ := h; exact h.lt
theorem grown_below {w w' : World} {r : Option Nat} (h : Below w.heap.size w w') : w.grownBy w' r := ⟨h.os, h.tape, h.output, h.size, fun k hk _ => h.block k hk⟩
theorem Rdr.below {w w' : World} {rb N : Nat} (h : Rdr w rb N) (hb : Below w.heap.size w w') : Rdr w' rb N := by
  obtain ⟨ba, bl, bc, zs, p, h⟩ := h
  exact ⟨ba, bl, bc, zs, p, (hb.block rb h.lt).trans h.blk, h.p0, h.p1, h.hbl, h.bytes.grown (grown_below hb), h.small, h.lo⟩
theorem Rdr.mono {w : World} {rb N M : Nat} (h : Rdr w rb N) (hM : N ≤ M) : Rdr w rb M := by
  obtain ⟨ba, bl, bc, zs, p, h⟩ := h
  exact ⟨ba, bl, bc, zs, p, h.blk, h.p0, by have := h.p1; omega, h.hbl, h.bytes, h.small, h.lo⟩
/-- the reader is kept where nothing up to its block is written -/
theorem Rdr.keep {w w' : World} {rb N : Nat} (h : Rdr w rb N) (hs : w.heap.size ≤ w'.heap.size) (hk : ∀ j, j ≤ rb → w'.heap[j]? = w.heap[j]?) : Rdr w' rb N := by
  obtain ⟨ba, bl, bc, zs, p, h⟩ := h
  refine ⟨ba, bl, bc, zs, p, (hk rb (Nat.le_refl _)).trans h.blk, h.p0, h.p1, h.hbl, ⟨h.bytes.1, ?_⟩, h.small, h.lo⟩
  rcases h.bytes.2 with h0 | ⟨b, off, ha, hb, hne, hc⟩
  · exact Or.inl h0
  · by_cases h0 : bl = 0
    · exact Or.inl h0
    · have hlo := h.lo _ ha (by omega)
      exact Or.inr ⟨b, off, ha, Nat.lt_of_lt_of_le hb hs, hne, fun k hk' => (World.cell?_of_block (w := w) (a := ⟨b, off + k, none⟩) (hk b (Nat.le_of_lt hlo))).trans (hc k hk')⟩
theorem grown_over {a b c : World} {r : Option Nat} {rb : Nat} (h : a.grownBy b (some rb)) (k : b.grownBy c r) (hr : ∀ j, r = some j → a.heap.size ≤ j) : a.grownBy c (some rb) :=
  ⟨k.os.trans h.os, k.tape.trans h.tape, k.output.trans h.output, Nat.le_trans h.size k.size, fun i hi hne => (k.block i (Nat.lt_of_lt_of_le hi h.size) (fun e => by have := hr i e.symm; omega)).trans (h.block i hi hne)⟩
theorem own_grown {w w' : World} {base : Nat} {e : TypeId} {size n : Nat} {v : Value} {xs : List Value} {rb : Nat} (h : w.ownsRow base e size v n xs) (hg : w.grownBy w' (some rb)) (hr : rb < base) : w'.ownsRow base e size v n xs :=
  own_kept h fun k hk => hg.block k (own_lt h k hk).2 (fun e => by have := (own_lt h k hk).1; have := Option.some.inj e; omega)

theorem getD_small {ys : List Int} (hy : ∀ z ∈ ys, 0 ≤ z ∧ z ≤ 255) {k : Nat} (hk : k < ys.length) : 0 ≤ ys.getD k 0 ∧ ys.getD k 0 ≤ 255 := by
  have e : ys.getD k 0 = ys[k] := by simp [List.getD, List.getElem?_eq_getElem hk]
  rw [e]; exact hy _ (List.getElem_mem _)
theorem rdr_new (w : World) (a : Option Addr) (len cap : Nat) (zs : List Int) (hr : RdB w a len zs) (hz : ∀ z ∈ zs, 0 ≤ z ∧ z ≤ 255) (hl : len ≤ 2000) : Rdr (w.alloc (.cells #[.slice a len cap, .int .i64 0] 89)) w.heap.size 0 := by
  refine ⟨a, len, cap, zs, 0, heap_new _ _ _ rfl, by omega, by omega, hl, ⟨hr.1, hr.2.imp id ?_⟩, fun k hk => getD_small hz (by rw [hr.1]; exact hk), fun x hx h0 => ?_⟩
  · rintro ⟨b, off, ha, hlt, hcell⟩
    exact ⟨b, off, ha, by simp; omega, by omega, fun k hk => by rw [World.cell?_alloc_past _ _ _ hlt]; exact hcell k hk⟩
  · obtain ⟨b, off, ha, hlt, _⟩ := hr.2.resolve_left (by omega)
    rw [hx] at ha
    cases ha
    exact hlt
theorem RdB.take {w : World} {a : Option Addr} {len : Nat} {zs : List Int} (h : RdB w a len zs) (n : Nat) (hn : n ≤ len) : RdB w a n (zs.take n) := by
  refine ⟨by have := h.1; simp; omega, ?_⟩
  rcases h.2 with h0 | ⟨b, off, ha, hb, hc⟩
  · exact Or.inl (by omega)
  · exact Or.inr ⟨b, off, ha, hb, fun k hk => by rw [Joins.getD_take_lt _ _ _ _ hk]; exact hc k (by omega)⟩

set_option maxHeartbeats 800000 in
theorem l1Open_any (a : Option Addr) (len cap : Nat) (zs : List Int) (w : World) (hr : RdB w a len zs) (hz : ∀ z ∈ zs, 0 ≤ z ∧ z ≤ 255) (hc : len ≤ cap) (hl : len ≤ 1048576) :
    Calls Try.prog 33 #[.slice a len cap] w fun e w' => ∃ rb, e = .returned (.pointer (some ⟨rb, 0, none⟩)) ∧ w.heap.size ≤ rb ∧ Rdr w' rb 0 ∧ Below w.heap.size w w' := by
  by_cases hb : 2000 < (len : Int)
  · have hH : Hid (Rdr (w.alloc (.cells #[.slice a 2000 cap, .int .i64 0] 89)) w.heap.size 0) :=
      rdr_new w a 2000 cap (zs.take 2000) (hr.take 2000 (by omega)) (fun z h => hz z (List.mem_of_mem_take h)) (by omega)
    obtain ⟨b, off, rfl, _, _⟩ := hr.2.resolve_left (by omega)
    clear hz hr
    have hcap : (2000 : Int) ≤ (cap : Int) := by omega
    go_enter Try.func33, Try.ntmps33
    go_wp2
    go_ret
    exact ⟨w.heap.size, rfl, Nat.le_refl _, hH.out, Joins.below_alloc1 _ _⟩
  · have hH : Hid (Rdr (w.alloc (.cells #[.slice a len cap, .int .i64 0] 89)) w.heap.size 0) := rdr_new w a len cap zs hr hz (by omega)
    clear hz hr
    go_enter Try.func33, Try.ntmps33
    go_wp2
    go_ret
    exact ⟨w.heap.size, rfl, Nat.le_refl _, hH.out, Joins.below_alloc1 _ _⟩

theorem range_snoc {zs : List Int} {x : Int} (h : ∀ z ∈ zs, 0 ≤ z ∧ z ≤ 255) (hx : 0 ≤ x ∧ x ≤ 255) : ∀ z ∈ zs ++ [x], 0 ≤ z ∧ z ≤ 255 := by
  intro z hz
  rcases List.mem_append.1 hz with h1 | h1
  · exact h z h1
  · rw [List.mem_singleton.1 h1]; exact hx
/-- a slice's length -/
def sliceN : Value → Nat | .slice _ n _ => n | _ => 0

set_option maxHeartbeats 1600000 in
theorem l5Data_any (rb N n : Nat) (w : World) (hR : Rdr w rb N) (hN : N ≤ 100000) (hn : n ≤ 200) :
    Calls Try.prog 66 #[.pointer (some ⟨rb, 0, none⟩), .int .i64 n] w fun e w' => ∃ (g c : Nat) (zs : List Int), e = .returned (.slice (some ⟨g, 0, none⟩) n c) ∧ w'.ownsRow w.heap.size 5 1 (.slice (some ⟨g, 0, none⟩) n c) n (zs.map (.int .u8)) ∧ Rdr w' rb (N + 3 * n) ∧ w.grownBy w' (some rb) ∧ ∀ z ∈ zs, 0 ≤ z ∧ z ≤ 255 := by
  have hlt := hR.lt
  obtain ⟨i0, hi, hz0, hz1, hz2⟩ := info_parts Try.info5
  go_enter Try.func66, Try.ntmps66
  go_wp2
  go_loopw [5] (fun v wr => ∃ (k g c : Nat) (zs : List Int), k ≤ n ∧ v = .slice (some ⟨g, 0, none⟩) k c ∧ Hid (wr.ownsRow w.heap.size 5 1 (.slice (some ⟨g, 0, none⟩) k c) k (zs.map (.int .u8))) ∧ Hid (Rdr wr rb (N + 3 * k)) ∧ Hid (w.grownBy wr (some rb)) ∧ Hid (∀ z ∈ zs, 0 ≤ z ∧ z ≤ 255)) (fun v _ => n - sliceN v)
  case atStart => exact ⟨0, w.heap.size, 0, [], Nat.zero_le _, rfl, own_empty _ _ _ rfl (Nat.le_refl _), hR.below (Joins.below_alloc1 _ _), grown_below (Joins.below_alloc1 _ _), fun z hz => by cases hz⟩
  case round =>
    obtain ⟨k, g, c, zs, hk, rfl, HO, HR, HG, HZ⟩ := hrel
    by_cases hkn : k < n
    · go_wp2_with fail
      refine (pick_any rb (N + 3 * k) 3 _ HR.out (by omega) (by omega) (by omega)).mono ?_
      rintro e w1 ⟨x1, rfl, hx10, hx11, -, R1, G1⟩
      go_wp2_with fail
      refine (pick_any rb (N + 3 * k + 1) 2 _ R1 (by omega) (by omega) (by omega)).mono ?_
      rintro e w2 ⟨x2, rfl, hx20, hx21, -, R2, G2⟩
      go_wp2_with fail
      refine (pick_any rb (N + 3 * k + 1 + 1) 200 _ R2 (by omega) (by omega) (by omega)).mono ?_
      rintro e w3 ⟨x3, rfl, hx30, hx31, -, R3, G3⟩
      have G03 : wr.grownBy w3 (some rb) := grown_trans (grown_trans G1 G2) G3
      have O3 := own_grown HO.out G03 hlt
      have s3 : w.heap.size ≤ w3.heap.size := Nat.le_trans HG.out.size G03.size
      have GH : Hid (w.grownBy w3 (some rb)) := grown_trans HG.out G03
      have RH : Hid (Rdr w3 rb (N + 3 * k + 1 + 1 + 1)) := R3
      clear G1 G2 G3 R1 R2 R3 G03 HO HR HG hR
      go_wp2_with (at_builtin; refine wpList_append_own _ rfl _ _ 22 rfl w.heap.size 5 i0 (.int .u8 0) 1 1 Try.underlying22 hi hz0 hz1 hz2 rfl (by decide) _ k (zs.map (.int .u8)) rfl (O3.alloc _) ⟨w3.heap.size, 0, none⟩ 1 1 [.int .u8 _] rfl rfl (cell_one_new _ _ _) ?h1 ?h2 ?h3 ?h4 ?_)
      case h1 => intro u hu; simp at hu; subst hu; rfl
      case h2 => unfold maxLen; omega
      case h3 => omega
      case h4 => simp; omega
      intro v1 w4 hown hgrow hnil
      obtain ⟨g', c', rfl⟩ : ∃ g' c', v1 = .slice (some ⟨g', 0, none⟩) (k + 1) c' := by
        rcases Joins.ownsRow_forms hown with h | h
        · exact absurd h.1 hnil
        · exact h
      have hgr : ∀ j, (Value.slice (some ⟨g, 0, none⟩) k c).ownBlock = some j → w.heap.size ≤ j := fun j hj => (own_lt O3 j hj).1
      have G4 : Hid (w.grownBy w4 (some rb)) := grown_over (grown_trans GH.out (grown_alloc _ _ _)) hgrow hgr
      have R4 : Hid (Rdr w4 rb (N + 3 * (k + 1))) := (Rdr.keep (RH.out.below (Joins.below_alloc1 _ _)) hgrow.size (fun j hj => hgrow.block j (by have := RH.out.lt; simp; omega) (fun e => by have := hgr j e.symm; omega))).mono (by omega)
      have HO : Hid (w4.ownsRow w.heap.size 5 1 (.slice (some ⟨g', 0, none⟩) (k + 1) c') (k + 1) ((zs ++ [wrap64 (x1 + wrap64 (x2 * x3)) % 256]).map (.int .u8))) := by
        rw [List.map_append]; exact hown
      clear hown hgrow hnil hgr GH RH O3
      go_wp2
      go_roundw
      case rel => exact ⟨k + 1, g', c', _, by omega, rfl, HO, R4, G4, range_snoc HZ.out (by omega)⟩
      case measure => simp [sliceN]; omega
    · go_wp2
      go_ret
      have e : k = n := by omega
      subst e
      exact ⟨g, c, zs, rfl, HO.out, HR.out, HG.out, HZ.out⟩
end Go.Proofs.Ytjbkgmbakjnlhaa
