import Derived.Test.YtjbkgmbakjnlhaaGreatDoorPartAe
import Derived.Test.YtjbkgmbakjnlhaaGreatDoorPartAf
import Derived.Test.YtjbkgmbakjnlhaaGreatDoorPartAg
namespace Go.Proofs.YtjbkgmbakjnlhaaGreatDoor
set_option maxRecDepth 100000
open Go.RowKit
def JoinPost (L : List PB) (w : World) (e : Ending) (w' : World) : Prop :=
 ∃ (a : Option Addr) (c : Nat), e = .returned (.tuple #[(joinL L).2.1.val (.slice a (joinL L).2.2.length c), .int .i64 (joinL L).1]) ∧ w'.ownsRow w.heap.size 5 1 (.slice a (joinL L).2.2.length c) (joinL L).2.2.length ((joinL L).2.2.map (.int .u8)) ∧ Below w.heap.size w w'
theorem own_nil (w : World) (base : Nat) : w.ownsRow base 5 1 (.slice none 0 0) 0 [] := ⟨rfl, Or.inl ⟨rfl, rfl⟩⟩
theorem post_code {L : List PB} {n : Int} {w w' : World} (h : joinL L = (n, (zeroPk, []))) (hb : Below w.heap.size w w') : JoinPost L w (.returned (.tuple #[zeroPk.val (.slice none 0 0), .int .i64 n])) w' := by
 refine ⟨none, 0, ?_, ?_, hb⟩
 ·rw [h]; rfl
 ·rw [h]; exact own_nil _ _
theorem joinL_one {L : List PB} (h : alikeL L = false) : joinL L = (1, (zeroPk, [])) := by unfold joinL; rw [h]; rfl
theorem joinL_two {L : List PB} (h : alikeL L = true) (hd : disagreeL L = true) : joinL L = (2, (zeroPk, [])) := by unfold joinL; rw [h, hd]; rfl
theorem joinL_three {L : List PB} (h : alikeL L = true) (hd : disagreeL L = false) (he : endL L = none) : joinL L = (3, (zeroPk, [])) := by unfold joinL; rw [h, hd, he]; rfl
theorem joinL_lack {L : List PB} {e : Int} (h : alikeL L = true) (hd : disagreeL L = false) (he : endL L = some e) (hb : bytesL L e.toNat = none) : joinL L = (3, (zeroPk, [])) := by
 unfold joinL
 rw [h, hd, he]
 simp only [hb]
 rfl
theorem joinL_zero {L : List PB} {e : Int} {bs : List Int} (h : alikeL L = true) (hd : disagreeL L = false) (he : endL L = some e) (hb : bytesL L e.toNat = some bs) : joinL L = (0, (headL L, bs)) := by
 unfold joinL
 rw [h, hd, he]
 simp only [hb]
 rfl
theorem alike_ok {xs : List RV} (h : alikeL (xs.map RV.key) = true) : xs.length ≤ 40 ∧ (∀ x ∈ xs, okB x.p x.zs.length = true) ∧ ∃ x0, xs[0]? = some x0 := by
 obtain ⟨hne, hl, hal⟩ := (alikeL_iff _).1 h
 refine ⟨by simpa using hl, fun x hx => ?_, ?_⟩
 ·exact ((alikeB_iff _ _).1 (hal x.key (List.mem_map_of_mem hx) x.key (List.mem_map_of_mem hx))).1
 ·match xs, hne with
  | x :: r, _ => exact ⟨x, rfl⟩
theorem end_bound {xs : List RV} {e : Int} (ho : ∀ x ∈ xs, okB x.p x.zs.length = true) (he : endL (xs.map RV.key) = some e) : 0 ≤ e ∧ e ≤ 128 := by
 unfold endL at he
 cases hf : (xs.map RV.key).find? (fun x => !x.1.more) with
 | none => rw [hf] at he; cases he
 | some y =>
  rw [hf] at he
  have e1 := Option.some.inj he
  obtain ⟨x, hx, rfl⟩ := List.mem_map.1 (List.mem_of_find?_eq_some hf)
  have b := ok_bounds (ho x hx)
  unfold endOf at e1
  simp only [RV.key] at e1
  omega
theorem setRow_low (w : World) (g k : Nat) (cs : Array Value) (h : k < g) : (w.setRow g cs).heap[k]? = w.heap[k]? :=
 (below_setRow (B := g) (Below.refl _ w) (Nat.le_refl _) cs).block k h
theorem after_store {w w4 : World} {v : Value} (T : Tab) (hR : w4.heap[w.heap.size]? = some (.cells (pcells zeroPk v) 29 (0, 0))) (hB : Below w.heap.size w w4) (hl : w.heap.size < w4.heap.size) :
  ∃ w5, (w4.alloc (.cells (tcells noTab) 78)).setRow w4.heap.size (tcells T) = w5 ∧ w5.heap[w.heap.size]? = some (.cells (pcells zeroPk v) 29 (0, 0)) ∧ w5.heap[w4.heap.size]? = some (.cells (tcells T) 78 (0, 0)) ∧ Below w.heap.size w w5 :=
 ⟨_, rfl, (setRow_low _ _ _ _ hl).trans ((zHa hl).trans hR), setRow_heap _ _ _ _ _ _ (heap_new _ _ _ rfl), below_setRow (hB.alloc (by omega) _) (by omega) _⟩
set_option maxHeartbeats 6400000 in
theorem implJoin_any (g cl : Nat) (xs : List RV) (w : World) (hL : RL w g xs) (hm : xs.length ≤ 9223372036854775807) :
  Calls Tryz.prog 15 #[.slice (some ⟨g, 0, none⟩) xs.length cl] w (JoinPost (xs.map RV.key) w) := by
 have hsz1 : (Tryz.prog.info? 78).map (·.size) = some 256 := (zero_of_info Tryz.info78).2
 have hz := (zero_of_info Tryz.info78).1
 have HS : Hid ((Tryz.prog.info? 78).map (·.size) = some 256) := hsz1
 have HL : Hid (RL w g xs) := hL
 clear hsz1 hL
 cases hal : alikeL (xs.map RV.key)
 ·have HJ : Hid (joinL (xs.map RV.key) = (1, (zeroPk, []))) := joinL_one hal
  go_enter Tryz.func15, Tryz.ntmps15
  go_wp2_with fail
  refine (mayJoin_any g cl xs _ (HL.out.below (zBa _ _)) hm).mono ?_
  rw [hal]
  rintro e w1 ⟨rfl, b1⟩
  have R1 : w1.heap[w.heap.size]? = some (.cells (pcells zeroPk (.slice none 0 0)) 29 (0, 0)) := (b1.block _ (by simp)).trans (heap_new _ _ _ rfl)
  have B1 : Hid (Below w.heap.size w w1) := (zBa _ _).trans (b1.mono (by simp))
  have l1 := lt_of_block R1
  have fz : ∀ o, w1.frozen? ⟨w.heap.size, o, none⟩ = false := fun o => zUf R1 o
  obtain ⟨_, z0, z1, z2, z3, z4, z5, z6, z7, z8⟩ := Boxed.of_block R1
  clear b1 R1 hz
  go_wp2
  refine bodyPost_ret (v := .tuple #[zeroPk.val (.slice none 0 0), .int .i64 1]) (by simp [results, Tryz.results15, go_sem, z0, z1, z2, z3, z4, z5, z6, z7, z8, zeroPk, Pk.val]) rfl (post_code HJ.out ?_)
  exact below9 B1.out (Nat.le_refl _) _ _ _ _ _ _ _ _ _
 obtain ⟨h40, hok, x0, hx0⟩ := alike_ok hal
 have HO : Hid (∀ x ∈ xs, okB x.p x.zs.length = true) := hok
 have HX0 : Hid (xs[0]? = some x0) := hx0
 clear hok hx0
 cases hdis : disagreeL (xs.map RV.key)
 ·cases hend : endL (xs.map RV.key) with
  | none =>
   have HJ : Hid (joinL (xs.map RV.key) = (3, (zeroPk, []))) := joinL_three hal hdis hend
   have TI : toldI (xs.map RV.key) = 0 := by unfold toldI; rw [hend]
   have TB : toldB (xs.map RV.key) = false := by unfold toldB; rw [hend]; rfl
   clear hend
   go_enter Tryz.func15, Tryz.ntmps15
   go_wp2_with fail
   refine (mayJoin_any g cl xs _ (HL.out.below (zBa _ _)) hm).mono ?_
   rw [hal]
   rintro e w1 ⟨rfl, b1⟩
   have R1 : w1.heap[w.heap.size]? = some (.cells (pcells zeroPk (.slice none 0 0)) 29 (0, 0)) := (b1.block _ (by simp)).trans (heap_new _ _ _ rfl)
   have B1 : Below w.heap.size w w1 := (zBa _ _).trans (b1.mono (by simp))
   have l1 := lt_of_block R1
   clear b1
   go_wp2_with fail
   refine (anyDisagree_any g cl xs _ (HL.out.below B1) h40 HO.out).mono ?_
   rw [hdis]
   rintro e w2 ⟨rfl, b2⟩
   have R2 := (b2.block _ l1).trans R1
   have B2 : Below w.heap.size w w2 := B1.trans (b2.mono (by omega))
   have l2 := lt_of_block R2
   clear b2 R1 B1
   go_wp2_with fail
   refine (toldEnd_any g cl xs _ (HL.out.below B2) h40 (fun x hx => by have := ok_bounds (HO.out x hx); omega)).mono ?_
   rw [TI, TB]
   rintro e w3 ⟨rfl, b3⟩
   have R3 := (b3.block _ l2).trans R2
   have B3 : Below w.heap.size w w3 := B2.trans (b3.mono (by omega))
   have l3 := lt_of_block R3
   clear b3 R2 B2
   go_wp2_with fail
   refine (placed_any g cl xs _ (HL.out.below B3) h40 (fun x hx => by have := ok_bounds (HO.out x hx); omega)).mono ?_
   rintro e w4 ⟨T, rfl, hT, b4⟩
   have R4 : Hid (w4.heap[w.heap.size]? = some (.cells (pcells zeroPk (.slice none 0 0)) 29 (0, 0))) := (b4.block _ l3).trans R3
   have B4 : Hid (Below w.heap.size w w4) := B3.trans (b4.mono (by omega))
   have l4 := lt_of_block R4.out
   have HZ : Hid ((tcells noTab).size = (tcells T).size) := (show (tcells noTab).size = (tcells T).size by rw [tcells_size, tcells_size, hT.len]; rfl)
   have lT := hT.len
   have HI : Hid ((Tryz.prog.info? 78).map (·.size) = some (tcells T).size) := (show (Tryz.prog.info? 78).map (·.size) = some (tcells T).size by rw [tcells_size, lT]; exact HS.out)
   have HT : Hid (Says (xs.map RV.key) T) := hT
   clear b4 R3 B3 hT
   have HN : Hid ((w4.alloc (.cells (tcells noTab) 78)).heap[w4.heap.size]? = some (.cells (tcells noTab) 78 (0, 0))) := heap_new _ _ _ rfl
   go_wp2_with (first
     | (refine wpList_store_row rfl 78 _ _ rfl w4.heap.size (tcells T) rfl rfl 78 (tcells noTab) HN.out HI.out HZ.out (tcells_one T) ?_; obtain ⟨w5, h5, R5, T5, B5⟩ := after_store T R4.out B4.out l4; rw [h5]; have l5 := lt_of_block R5; have fz : ∀ o, w5.frozen? ⟨w.heap.size, o, none⟩ = false := fun o => zUf R5 o; obtain ⟨_, z0, z1, z2, z3, z4, z5, z6, z7, z8⟩ := Boxed.of_block R5; have BH5 : Hid (Below w.heap.size w w5) := B5; have RH5 : Hid (w5.heap[w.heap.size]? = some (.cells (pcells zeroPk (.slice none 0 0)) 29 (0, 0))) := R5; have TH5 : Hid (w5.heap[w4.heap.size]? = some (.cells (tcells T) 78 (0, 0))) := T5; clear B5 T5 R5))
   refine bodyPost_ret (v := .tuple #[zeroPk.val (.slice none 0 0), .int .i64 3]) (by simp [results, Tryz.results15, go_sem, z0, z1, z2, z3, z4, z5, z6, z7, z8, zeroPk, Pk.val]) rfl (post_code HJ.out ?_)
   exact below9 BH5.out (Nat.le_refl _) _ _ _ _ _ _ _ _ _
  | some en =>
   have hbd := end_bound HO.out hend
   obtain ⟨n, rfl⟩ := Int.eq_ofNat_of_zero_le hbd.1
   have HE : Hid (endL (xs.map RV.key) = some (n : Int)) := hend
   have TI : toldI (xs.map RV.key) = (n : Int) := by unfold toldI; rw [hend]
   have TB : toldB (xs.map RV.key) = true := by unfold toldB; rw [hend]; rfl
   clear hend
   go_enter Tryz.func15, Tryz.ntmps15
   go_wp2_with fail
   refine (mayJoin_any g cl xs _ (HL.out.below (zBa _ _)) hm).mono ?_
   rw [hal]
   rintro e w1 ⟨rfl, b1⟩
   have R1 : w1.heap[w.heap.size]? = some (.cells (pcells zeroPk (.slice none 0 0)) 29 (0, 0)) := (b1.block _ (by simp)).trans (heap_new _ _ _ rfl)
   have B1 : Below w.heap.size w w1 := (zBa _ _).trans (b1.mono (by simp))
   have l1 := lt_of_block R1
   clear b1
   go_wp2_with fail
   refine (anyDisagree_any g cl xs _ (HL.out.below B1) h40 HO.out).mono ?_
   rw [hdis]
   rintro e w2 ⟨rfl, b2⟩
   have R2 := (b2.block _ l1).trans R1
   have B2 : Below w.heap.size w w2 := B1.trans (b2.mono (by omega))
   have l2 := lt_of_block R2
   clear b2 R1 B1
   go_wp2_with fail
   refine (toldEnd_any g cl xs _ (HL.out.below B2) h40 (fun x hx => by have := ok_bounds (HO.out x hx); omega)).mono ?_
   rw [TI, TB]
   rintro e w3 ⟨rfl, b3⟩
   have R3 := (b3.block _ l2).trans R2
   have B3 : Below w.heap.size w w3 := B2.trans (b3.mono (by omega))
   have l3 := lt_of_block R3
   clear b3 R2 B2
   go_wp2_with fail
   refine (placed_any g cl xs _ (HL.out.below B3) h40 (fun x hx => by have := ok_bounds (HO.out x hx); omega)).mono ?_
   rintro e w4 ⟨T, rfl, hT, b4⟩
   have R4 : Hid (w4.heap[w.heap.size]? = some (.cells (pcells zeroPk (.slice none 0 0)) 29 (0, 0))) := (b4.block _ l3).trans R3
   have B4 : Hid (Below w.heap.size w w4) := B3.trans (b4.mono (by omega))
   have l4 := lt_of_block R4.out
   have HZ : Hid ((tcells noTab).size = (tcells T).size) := (show (tcells noTab).size = (tcells T).size by rw [tcells_size, tcells_size, hT.len]; rfl)
   have lT := hT.len
   have HI : Hid ((Tryz.prog.info? 78).map (·.size) = some (tcells T).size) := (show (Tryz.prog.info? 78).map (·.size) = some (tcells T).size by rw [tcells_size, lT]; exact HS.out)
   have HT : Hid (Says (xs.map RV.key) T) := hT
   clear b4 R3 B3 hT
   have HN : Hid ((w4.alloc (.cells (tcells noTab) 78)).heap[w4.heap.size]? = some (.cells (tcells noTab) 78 (0, 0))) := heap_new _ _ _ rfl
   go_wp2_with (first
     | (refine wpList_store_row rfl 78 _ _ rfl w4.heap.size (tcells T) rfl rfl 78 (tcells noTab) HN.out HI.out HZ.out (tcells_one T) ?_; obtain ⟨w5, h5, R5, T5, B5⟩ := after_store T R4.out B4.out l4; rw [h5]; have l5 := lt_of_block R5; have fz : ∀ o, w5.frozen? ⟨w.heap.size, o, none⟩ = false := fun o => zUf R5 o; obtain ⟨_, z0, z1, z2, z3, z4, z5, z6, z7, z8⟩ := Boxed.of_block R5; have BH5 : Hid (Below w.heap.size w w5) := B5; have RH5 : Hid (w5.heap[w.heap.size]? = some (.cells (pcells zeroPk (.slice none 0 0)) 29 (0, 0))) := R5; have TH5 : Hid (w5.heap[w4.heap.size]? = some (.cells (tcells T) 78 (0, 0))) := T5; clear B5 T5 R5))
   clear z0 z1 z2 z3 z4 z5 z6 z7 z8 fz h5 hz
   refine wp_load_row 78 _ rfl w4.heap.size rfl 78 (tcells T) (0, 0) _ TH5.out Tryz.underlying78 rfl HI.out ?_
   have KB := known_bytes HT.out hdis n (by omega)
   have l54 := lt_of_block TH5.out
   have R5 : w5.heap[w.heap.size]? = some (.cells (pcells zeroPk (.slice none 0 0)) 29 (0, 0)) := RH5.out
   cases hkn : knownB T n
   ·have HJ : Hid (joinL (xs.map RV.key) = (3, (zeroPk, []))) := joinL_lack hal hdis HE.out (by rw [Int.toNat_natCast, KB, hkn]; rfl)
    clear KB
    go_wp2_with fail
    refine (knownUpTo_any T n _ lT (by omega)).mono ?_
    rw [hkn]
    rintro e w6 ⟨rfl, b6⟩
    have R6 := (b6.block _ l5).trans R5
    have B6 : Hid (Below w.heap.size w w6) := BH5.out.trans (b6.mono (by omega))
    have l6 := lt_of_block R6
    have fz : ∀ o, w6.frozen? ⟨w.heap.size, o, none⟩ = false := fun o => zUf R6 o
    obtain ⟨_, z0, z1, z2, z3, z4, z5, z6, z7, z8⟩ := Boxed.of_block R6
    clear b6 R6 R5
    go_wp2
    refine bodyPost_ret (v := .tuple #[zeroPk.val (.slice none 0 0), .int .i64 3]) (by simp [results, Tryz.results15, go_sem, z0, z1, z2, z3, z4, z5, z6, z7, z8, zeroPk, Pk.val]) rfl (post_code HJ.out ?_)
    exact below9 B6.out (Nat.le_refl _) _ _ _ _ _ _ _ _ _
   ·have HJ : Hid (joinL (xs.map RV.key) = (0, (headL (xs.map RV.key), valsT T n))) := joinL_zero hal hdis HE.out (by rw [Int.toNat_natCast, KB, hkn]; rfl)
    have lv : (valsT T n).length = n := by simp [valsT]; omega
    have HV : Hid ((valsT T n).length = n) := lv
    clear KB lv
    go_wp2_with fail
    refine (knownUpTo_any T n _ lT (by omega)).mono ?_
    rw [hkn]
    rintro e w6 ⟨rfl, b6⟩
    have R6 := (b6.block _ l5).trans R5
    have T6 : w6.heap[w4.heap.size]? = some (.cells (tcells T) 78 (0, 0)) := (b6.block _ l54).trans TH5.out
    have B6 : Below w.heap.size w w6 := BH5.out.trans (b6.mono (by omega))
    have l6 := lt_of_block R6
    clear b6 R5
    go_wp2_with (refine wpList_load_row rfl 78 _ rfl w4.heap.size rfl 78 (tcells T) (0, 0) _ T6 Tryz.underlying78 rfl HI.out ?_)
    refine (upTo_any T n _ lT (by omega)).mono ?_
    rintro e w7 ⟨gd, rfl, hgd, D7, b7⟩
    have R7 := (b7.block _ l6).trans R6
    have B7 : Below w.heap.size w w7 := B6.trans (b7.mono (by omega))
    have l7 := lt_of_block R7
    have lgd := lt_of_block D7
    clear b7 R6 B6 T6
    go_wp2_with fail
    refine (joined_any g cl xs x0 (some ⟨gd, 0, none⟩) n n _ (HL.out.below B7) h40 HX0.out).mono ?_
    rintro e w8 ⟨rfl, b8⟩
    have R8 := (b8.block _ l7).trans R7
    have D8 : Hid (w8.heap[gd]? = some (.cells (cellsOf (valsT T n)) 5 (0, 0))) := (b8.block _ lgd).trans D7
    have B8 : Hid (Below w.heap.size w w8) := B7.trans (b8.mono (by omega))
    have l8 := lt_of_block R8
    have fz : ∀ o, w8.frozen? ⟨w.heap.size, o, none⟩ = false := fun o => zUf R8 o
    obtain ⟨_, z0, z1, z2, z3, z4, z5, z6, z7, z8⟩ := Boxed.of_block R8
    have hne : gd ≠ w.heap.size := by omega
    clear b8 R7 R8 B7 D7
    unfold Pk.val
    go_wp2
    refine bodyPost_ret (v := .tuple #[(headL (xs.map RV.key)).val (.slice (some ⟨gd, 0, none⟩) n n), .int .i64 0]) (by simp [results, Tryz.results15, go_sem, z0, z1, z2, z3, z4, z5, z6, z7, z8, Pk.val]) rfl ⟨some ⟨gd, 0, none⟩, n, ?_, ?_, ?_⟩
    ·rw [HJ.out]
     simp only [HV.out]
    ·rw [HJ.out]
     simp only
     have h := own_of_block (base := w.heap.size) (by omega) (by rw [HV.out]; unfold maxLen; omega) D8.out
     rw [HV.out] at h ⊢
     exact own_kept h fun k hk => by cases hk; exact heap9 _ _ _ hne _ _ _ _ _ _ _ _ _
    ·exact below9 B8.out (Nat.le_refl _) _ _ _ _ _ _ _ _ _
 ·have HJ : Hid (joinL (xs.map RV.key) = (2, (zeroPk, []))) := joinL_two hal hdis
  go_enter Tryz.func15, Tryz.ntmps15
  go_wp2_with fail
  refine (mayJoin_any g cl xs _ (HL.out.below (zBa _ _)) hm).mono ?_
  rw [hal]
  rintro e w1 ⟨rfl, b1⟩
  have R1 : w1.heap[w.heap.size]? = some (.cells (pcells zeroPk (.slice none 0 0)) 29 (0, 0)) := (b1.block _ (by simp)).trans (heap_new _ _ _ rfl)
  have B1 : Below w.heap.size w w1 := (zBa _ _).trans (b1.mono (by simp))
  have l1 := lt_of_block R1
  clear b1
  go_wp2_with fail
  refine (anyDisagree_any g cl xs _ (HL.out.below B1) h40 HO.out).mono ?_
  rw [hdis]
  rintro e w2 ⟨rfl, b2⟩
  have R2 := (b2.block _ l1).trans R1
  have B2 : Hid (Below w.heap.size w w2) := B1.trans (b2.mono (by omega))
  have l2 := lt_of_block R2
  have fz : ∀ o, w2.frozen? ⟨w.heap.size, o, none⟩ = false := fun o => zUf R2 o
  obtain ⟨_, z0, z1, z2, z3, z4, z5, z6, z7, z8⟩ := Boxed.of_block R2
  clear b2 R1 R2 hz B1
  go_wp2
  refine bodyPost_ret (v := .tuple #[zeroPk.val (.slice none 0 0), .int .i64 2]) (by simp [results, Tryz.results15, go_sem, z0, z1, z2, z3, z4, z5, z6, z7, z8, zeroPk, Pk.val]) rfl (post_code HJ.out ?_)
  exact below9 B2.out (Nat.le_refl _) _ _ _ _ _ _ _ _ _
end Go.Proofs.YtjbkgmbakjnlhaaGreatDoor
