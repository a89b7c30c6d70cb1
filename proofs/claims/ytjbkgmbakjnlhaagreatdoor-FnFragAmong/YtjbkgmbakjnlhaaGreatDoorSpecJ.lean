import Derived.Test.YtjbkgmbakjnlhaaGreatDoorSpecH
import Derived.Test.YtjbkgmbakjnlhaaGreatDoorJoinI
namespace Go.Proofs.YtjbkgmbakjnlhaaGreatDoor
set_option maxRecDepth 100000
open Go.RowKit
theorem bytes_none {L : List PB} {k n : Nat} (h : bytesL L k = none) (hk : k ≤ n) : bytesL L n = none := by
 induction n with
 | zero =>
  have e : k = 0 := by omega
  subst e
  exact h
 | succ n ih =>
  rcases Nat.lt_or_ge k (n + 1) with h' | h'
  ·rw [bytesL, ih (by omega)]
  ·obtain rfl : k = n + 1 := by omega
   exact h
theorem bytes_step {L : List PB} {m : Nat} {bs : List Int} {x : PB} (hb : bytesL L m = some bs) (hf : L.find? (fun y => hasB y (m : Int)) = some x) : bytesL L (m + 1) = some (bs ++ [byteAt x m]) := by
 rw [bytesL, hb, hf]
theorem bytes_stop {L : List PB} {m : Nat} (hf : L.find? (fun y => hasB y (m : Int)) = none) : bytesL L (m + 1) = none := by
 rw [bytesL, hf]
 cases bytesL L m <;> rfl
theorem one_new (w : World) (z : Int) : ∀ j u, ([Value.int .u8 z] : List Value)[j]? = some u → ((w.alloc (.cells #[.int .u8 z] 5)).drew).cell? ((Addr.mk w.heap.size 0 none).add j) = some u := by
 intro j u hu
 match j, hu with
 | 0, hu =>
  simp at hu
  subst hu
  show (w.alloc (.cells #[.int .u8 z] 5)).cell? _ = _
  rw [show (Addr.mk w.heap.size 0 none).add 0 = ⟨w.heap.size, 0, none⟩ from rfl, World.cell?_alloc_at _ _ _ _ rfl]
  rfl
structure JW (w wr : World) (qb base : Nat) (p : Pk) (gv m c : Nat) (bs : List Int) : Prop where
 res : wr.heap[w.heap.size]? = some (.cells (pcells zeroPk (.slice none 0 0)) 29 (0, 0))
 box : wr.heap[qb]? = some (.cells (pcells p (.slice (some ⟨gv, 0, none⟩) m c)) 29 (0, 0))
 own : wr.ownsRow base 5 1 (.slice (some ⟨gv, 0, none⟩) m c) m (bs.map (.int .u8))
 bel : Below w.heap.size w wr
theorem JW.below {w wr w' : World} {qb base : Nat} {p : Pk} {gv m c : Nat} {bs : List Int} (h : JW w wr qb base p gv m c bs) (hb : Below wr.heap.size wr w') : JW w w' qb base p gv m c bs :=
 ⟨(hb.block _ (lt_of_block h.res)).trans h.res, (hb.block _ (lt_of_block h.box)).trans h.box, own_below h.own hb, h.bel.trans (hb.mono h.bel.size)⟩
theorem JW.ne {w wr : World} {qb base : Nat} {p : Pk} {gv m c : Nat} {bs : List Int} (h : JW w wr qb base p gv m c bs) : gv ≠ qb := by
 intro e
 rcases h.own.2 with ⟨hv, _⟩ | ⟨g, cap, cur, hv, _, hh, _⟩
 ·cases hv
 ·cases hv
  have hb := h.box
  rw [← e, hh] at hb
  cases hb
theorem JW.kept {w w5 w7 : World} {qb base : Nat} {p : Pk} {gv m c : Nat} {bs : List Int} {o : Obj} (h : JW w w5 qb base p gv m c bs) (hlo : w.heap.size < base) (hg : ((w5.alloc o).drew).grownBy w7 (Value.slice (some ⟨gv, 0, none⟩) m c).ownBlock) :
  w7.heap[w.heap.size]? = some (.cells (pcells zeroPk (.slice none 0 0)) 29 (0, 0)) ∧ w7.heap[qb]? = some (.cells (pcells p (.slice (some ⟨gv, 0, none⟩) m c)) 29 (0, 0)) ∧ Below w.heap.size w w7 := by
 have lr := lt_of_block h.res
 have lq := lt_of_block h.box
 have lg := own_lt h.own gv rfl
 have hb : Below w5.heap.size w5 ((w5.alloc o).drew) := (zBa _ _).drew
 have hs : w5.heap.size ≤ ((w5.alloc o).drew).heap.size := hb.size
 refine ⟨(hg.block _ (by omega) (fun e => ?_)).trans ((hb.block _ lr).trans h.res), (hg.block _ (by omega) (fun e => h.ne (Option.some.inj e).symm)).trans ((hb.block _ lq).trans h.box), ?_⟩
 ·have e' : w.heap.size = gv := Option.some.inj e
  omega
 ·exact (h.bel.trans (hb.mono h.bel.size)).grown hg (by have := h.bel.size; omega) (fun k hk => by have e' : gv = k := Option.some.inj hk; omega)
theorem JW.more {w w5 w7 : World} {qb base : Nat} {p : Pk} {gv m c ga ca : Nat} {bs : List Int} {z : Int} {o : Obj} (h : JW w w5 qb base p gv m c bs) (hlo : w.heap.size < base) (hq : w.heap.size < qb) (hg : ((w5.alloc o).drew).grownBy w7 (Value.slice (some ⟨gv, 0, none⟩) m c).ownBlock)
  (ho : w7.ownsRow base 5 1 (.slice (some ⟨ga, 0, none⟩) (m + 1) ca) (m + 1) (bs.map (.int .u8) ++ [.int .u8 z])) :
  JW w (w7.setCell ⟨qb, 8, none⟩ (.slice (some ⟨ga, 0, none⟩) (m + 1) ca)) qb base p ga (m + 1) ca (bs ++ [z]) := by
 obtain ⟨h1, h2, h3⟩ := h.kept hlo hg
 have hne : ga ≠ qb := by
  intro e
  rcases ho.2 with ⟨hv, _⟩ | ⟨g, cap, cur, hv, _, hh, _⟩
  ·cases hv
  ·cases hv
   rw [← e, hh] at h2
   cases h2
 refine ⟨(zHs (by show _ ≠ qb; omega)).trans h1, ?_, ?_, h3.setCell (by show _ ≤ qb; omega) _⟩
 ·rw [setCell_eq_setRow w7 qb 8 _ _ _ _ h2, setRow_heap _ _ _ _ _ _ h2]
  rfl
 ·rw [List.map_append]
  exact own_kept ho fun k hk => by cases hk; exact zHs hne
set_option maxHeartbeats 12800000 in
theorem specJoin_any (g cl : Nat) (xs : List RV) (w : World) (hL : RL w g xs) (hm : xs.length ≤ 9223372036854775807) :
  Calls Tryz.prog 53 #[.slice (some ⟨g, 0, none⟩) xs.length cl] w (JoinPost (xs.map RV.key) w) := by
 have HL : Hid (RL w g xs) := hL
 clear hL
 obtain ⟨i0, hi0, hz0, hz1, hz2⟩ := info_parts Tryz.info5
 cases hal : alikeL (xs.map RV.key)
 ·have HJ : Hid (joinL (xs.map RV.key) = (1, (zeroPk, []))) := joinL_one hal
  go_enter Tryz.func53, Tryz.ntmps53
  go_wp2_with fail
  refine (l3Alike_any g cl xs _ (HL.out.below (zBa _ _)) hm).mono ?_
  rw [hal]
  rintro e w1 ⟨rfl, b1⟩
  have R1 : w1.heap[w.heap.size]? = some (.cells (pcells zeroPk (.slice none 0 0)) 29 (0, 0)) := (b1.block _ (by simp)).trans (heap_new _ _ _ rfl)
  have B1 : Hid (Below w.heap.size w w1) := (zBa _ _).trans (b1.mono (by simp))
  have l1 := lt_of_block R1
  have fz : ∀ o, w1.frozen? ⟨w.heap.size, o, none⟩ = false := fun o => zUf R1 o
  obtain ⟨_, z0, z1, z2, z3, z4, z5, z6, z7, z8⟩ := Boxed.of_block R1
  clear b1 R1
  go_wp2
  refine bodyPost_ret (v := .tuple #[zeroPk.val (.slice none 0 0), .int .i64 1]) (by simp [results, Tryz.results53, go_sem, z0, z1, z2, z3, z4, z5, z6, z7, z8, zeroPk, Pk.val]) rfl (post_code HJ.out ?_)
  exact below9 B1.out (Nat.le_refl _) _ _ _ _ _ _ _ _ _
 obtain ⟨h40, hok, x0, hx0⟩ := alike_ok hal
 have HO : Hid (∀ x ∈ xs, okB x.p x.zs.length = true) := hok
 have HX0 : Hid (xs[0]? = some x0) := hx0
 clear hok hx0
 cases hdis : disagreeL (xs.map RV.key)
 ·cases hend : endL (xs.map RV.key) with
  | none =>
   have HJ : Hid (joinL (xs.map RV.key) = (3, (zeroPk, []))) := joinL_three hal hdis hend
   have TI : endI (xs.map RV.key) = -1 := by unfold endI; rw [hend]
   clear hend
   go_enter Tryz.func53, Tryz.ntmps53
   go_wp2_with fail
   refine (l3Alike_any g cl xs _ (HL.out.below (zBa _ _)) hm).mono ?_
   rw [hal]
   rintro e w1 ⟨rfl, b1⟩
   have R1 : w1.heap[w.heap.size]? = some (.cells (pcells zeroPk (.slice none 0 0)) 29 (0, 0)) := (b1.block _ (by simp)).trans (heap_new _ _ _ rfl)
   have B1 : Below w.heap.size w w1 := (zBa _ _).trans (b1.mono (by simp))
   have l1 := lt_of_block R1
   clear b1
   go_wp2_with fail
   refine (l3Disagree_any g cl xs _ (HL.out.below B1) h40 HO.out).mono ?_
   rw [hdis]
   rintro e w2 ⟨rfl, b2⟩
   have R2 := (b2.block _ l1).trans R1
   have B2 : Below w.heap.size w w2 := B1.trans (b2.mono (by omega))
   have l2 := lt_of_block R2
   clear b2 R1 B1
   go_wp2_with fail
   refine (l3End_any g cl xs _ (HL.out.below B2) h40 HO.out).mono ?_
   rw [TI]
   rintro e w3 ⟨rfl, b3⟩
   have R3 := (b3.block _ l2).trans R2
   have B3 : Hid (Below w.heap.size w w3) := B2.trans (b3.mono (by omega))
   have l3 := lt_of_block R3
   have fz : ∀ o, w3.frozen? ⟨w.heap.size, o, none⟩ = false := fun o => zUf R3 o
   obtain ⟨_, z0, z1, z2, z3, z4, z5, z6, z7, z8⟩ := Boxed.of_block R3
   clear b3 R2 B2 R3
   go_wp2
   refine bodyPost_ret (v := .tuple #[zeroPk.val (.slice none 0 0), .int .i64 3]) (by simp [results, Tryz.results53, go_sem, z0, z1, z2, z3, z4, z5, z6, z7, z8, zeroPk, Pk.val]) rfl (post_code HJ.out ?_)
   exact below9 B3.out (Nat.le_refl _) _ _ _ _ _ _ _ _ _
  | some en =>
   have hbd := end_bound HO.out hend
   obtain ⟨n, rfl⟩ := Int.eq_ofNat_of_zero_le hbd.1
   have HE : Hid (endL (xs.map RV.key) = some (n : Int)) := hend
   have TI : endI (xs.map RV.key) = (n : Int) := by unfold endI; rw [hend]
   have hn0 : ¬ ((n : Int) < 0) := by omega
   clear hend
   go_enter Tryz.func53, Tryz.ntmps53
   go_wp2_with fail
   refine (l3Alike_any g cl xs _ (HL.out.below (zBa _ _)) hm).mono ?_
   rw [hal]
   rintro e w1 ⟨rfl, b1⟩
   have R1 : w1.heap[w.heap.size]? = some (.cells (pcells zeroPk (.slice none 0 0)) 29 (0, 0)) := (b1.block _ (by simp)).trans (heap_new _ _ _ rfl)
   have B1 : Below w.heap.size w w1 := (zBa _ _).trans (b1.mono (by simp))
   have l1 := lt_of_block R1
   clear b1
   go_wp2_with fail
   refine (l3Disagree_any g cl xs _ (HL.out.below B1) h40 HO.out).mono ?_
   rw [hdis]
   rintro e w2 ⟨rfl, b2⟩
   have R2 := (b2.block _ l1).trans R1
   have B2 : Below w.heap.size w w2 := B1.trans (b2.mono (by omega))
   have l2 := lt_of_block R2
   clear b2 R1 B1
   go_wp2_with fail
   refine (l3End_any g cl xs _ (HL.out.below B2) h40 HO.out).mono ?_
   rw [TI]
   rintro e w3 ⟨rfl, b3⟩
   have R3 := (b3.block _ l2).trans R2
   have B3 : Below w.heap.size w w3 := B2.trans (b3.mono (by omega))
   have l3 := lt_of_block R3
   clear b3 R2 B2
   go_wp2_with fail
   refine (l3Head_any g cl xs x0 _ (HL.out.below B3) h40 HX0.out).mono ?_
   rintro e w4 ⟨gd, rfl, hgd, D4, b4⟩
   have R4 := (b4.block _ l3).trans R3
   have B4 : Below w.heap.size w w4 := B3.trans (b4.mono (by omega))
   have l4 := lt_of_block R4
   have lgd := lt_of_block D4
   have s34 := b4.size
   have J0 : Hid (JW w (w4.alloc (.cells (pcells (headL (xs.map RV.key)) (.slice (some ⟨gd, 0, none⟩) 0 0)) 29)) w4.heap.size w3.heap.size (headL (xs.map RV.key)) gd 0 0 []) :=
    ⟨(zHa l4).trans R4, heap_new _ _ _ rfl, ⟨rfl, Or.inr ⟨gd, 0, #[], rfl, hgd, (zHa lgd).trans D4, Nat.le_refl _, by unfold maxLen; omega, rfl, rfl⟩⟩, B4.alloc (by omega) _⟩
   clear b4 R3 R4 B3 B4 D4
   unfold Pk.val
   go_wp2
   go_loopw [6] (fun i wr => ∃ (m gv c : Nat) (bs : List Int), m ≤ n ∧ i = .int .i64 m ∧ Hid (bs.length = m) ∧ Hid (bytesL (xs.map RV.key) m = some bs) ∧ Hid (JW w wr w4.heap.size w3.heap.size (headL (xs.map RV.key)) gv m c bs)) (fun i _ => n - (intOf i).toNat)
   case atStart => exact ⟨0, gd, 0, [], by omega, rfl, rfl, rfl, J0.out⟩
   case round =>
    obtain ⟨m, gv, c, bs, hmn, rfl, HLb, HBs, HJW⟩ := hrel
    have B0 : Hid (Below w.heap.size w wr) := HJW.out.bel
    have hs0 := B0.out.size
    have hqb := lt_of_block HJW.out.box
    by_cases hlt : m < n
    ·have hi : (m : Int) < (n : Int) := by omega
     go_wp2_with fail
     refine (l3Who_any g cl xs m _ (HL.out.below B0.out) h40 HO.out).mono ?_
     rintro e w5 ⟨r, rfl, hr, b5⟩
     have J5 : Hid (JW w w5 w4.heap.size w3.heap.size (headL (xs.map RV.key)) gv m c bs) := HJW.out.below b5
     have B5 : Hid (Below w.heap.size w w5) := J5.out.bel
     have hq5 := lt_of_block J5.out.box
     have hw5 := lt_of_block J5.out.res
     clear b5 B0 hs0 hqb
     rcases hr with ⟨i, x, rfl, hx, hf, hh⟩ | ⟨rfl, hf⟩
     ·have HS : Hid (bytesL (xs.map RV.key) (m + 1) = some (bs ++ [byteAt x.key m])) := bytes_step HBs.out hf
      have hhb := (hasB_iff _ _).1 hh
      unfold endOf RV.key at hhb
      simp only at hhb
      obtain ⟨t, ht⟩ : ∃ t : Nat, (m : Int) - x.p.off = (t : Int) := ⟨((m : Int) - x.p.off).toNat, by omega⟩
      have htl : t < x.zs.length := by omega
      have hti : (t : Int) < (x.zs.length : Int) := by omega
      have ht0 : (0 : Int) ≤ (t : Int) := by omega
      obtain ⟨z, hz⟩ := get_of_lt htl
      have bx := ok_bounds (HO.out x (List.mem_of_getElem? hx))
      have HZ : Hid (byteAt x.key m = z) := byteAt_at (x := x.key) ht hz
      have Lr := HL.out.below B5.out
      have hgr := Lr.lt
      have hg0 := HL.out.lt
      have E0 := HL.out.elem i x hx
      have hil : (i : Int) < (xs.length : Int) := by have := lt_of_get hx; omega
      have hi0' : ¬ ((i : Int) < 0) := by omega
      have E := Lr.elem i x hx
      obtain ⟨-, h0 | ⟨ba, oa, ha, hba0, hca⟩⟩ := (HL.out.each x (List.mem_of_getElem? hx)).rd
      ·omega
      have cz : w5.cell? ⟨ba, oa + t, none⟩ = some (.int .u8 z) := by
       rw [B5.out.cell (p := ⟨ba, oa + t, none⟩) hba0, hca t htl]
       simp [List.getD, hz]
      have hba : ba < w5.heap.size := Nat.lt_of_lt_of_le hba0 B5.out.size
      have c8 : w5.cell? ⟨g, i * 9 + 8, none⟩ = some (.slice (some ⟨ba, oa, none⟩) x.zs.length x.c) := by rw [← ha]; exact E.e8
      have c6 := E.e6
      have q8 : w5.cell? ⟨w4.heap.size, 8, none⟩ = some (.slice (some ⟨gv, 0, none⟩) m c) := (Boxed.of_block J5.out.box).c8
      have fq : ∀ o, w5.frozen? ⟨w4.heap.size, o, none⟩ = false := fun o => zUf J5.out.box o
      have KS : Hid (∀ W : World, Below w5.heap.size w5 W → W.cell? ⟨g, i * 9 + 8, none⟩ = some (.slice (some ⟨ba, oa, none⟩) x.zs.length x.c) ∧ W.cell? ⟨g, i * 9 + 6, none⟩ = some (.int .i64 x.p.off) ∧ W.cell? ⟨ba, oa + t, none⟩ = some (.int .u8 z)) := fun W h =>
       ⟨(h.cell (p := ⟨g, i * 9 + 8, none⟩) hgr).trans c8, (h.cell (p := ⟨g, i * 9 + 6, none⟩) hgr).trans c6, (h.cell (p := ⟨ba, oa + t, none⟩) hba).trans cz⟩
      have KW : Hid (∀ W : World, Below w.heap.size w W → W.cell? ⟨g, i * 9 + 8, none⟩ = some (.slice (some ⟨ba, oa, none⟩) x.zs.length x.c) ∧ W.cell? ⟨g, i * 9 + 6, none⟩ = some (.int .i64 x.p.off) ∧ W.cell? ⟨ba, oa + t, none⟩ = some (.int .u8 z)) := fun W h =>
       ⟨(h.cell (p := ⟨g, i * 9 + 8, none⟩) hg0).trans (by rw [← ha]; exact E0.e8), (h.cell (p := ⟨g, i * 9 + 6, none⟩) hg0).trans E0.e6, (h.cell (p := ⟨ba, oa + t, none⟩) hba0).trans (by rw [hca t htl]; simp [List.getD, hz])⟩
      have hwt : IntKind.i64.wrap (t : Int) = (t : Int) := by rw [IntKind.wrap_i64]; omega
      clear Lr E E0 hca hx hf hh hz ha c8 c6 cz
      go_wp2
      refine wp_region_held_drew (S := fun w' => w'.cell? ⟨g, i * 9 + 8, none⟩ = some (.slice (some ⟨ba, oa, none⟩) x.zs.length x.c) ∧ w'.cell? ⟨g, i * 9 + 6, none⟩ = some (.int .i64 x.p.off) ∧ w'.cell? ⟨ba, oa + t, none⟩ = some (.int .u8 z)) (by kernel_rfl) (KS.out _ (draw1 _)) (fun hH => ?_)
      refine zTk 0 33 (.pointer (some ⟨w4.heap.size, 8, none⟩)) rfl (fun w hS => by obtain ⟨s1, s2, s3⟩ := hS; go_simp) hH ?_; simp only [Act.put, zX, zY, zZ]
      refine zTk 2 35 (.slice (some ⟨g, 0, none⟩) xs.length cl) rfl (fun w hS => by obtain ⟨s1, s2, s3⟩ := hS; go_simp) hH ?_; simp only [Act.put, zX, zY, zZ]
      refine zTk 3 36 (.int .i64 i) rfl (fun w hS => by obtain ⟨s1, s2, s3⟩ := hS; go_simp) hH ?_; simp only [Act.put, zX, zY, zZ]
      refine zTk 4 37 (.pointer (some ⟨g, i * 9, none⟩)) rfl (fun w hS => by obtain ⟨s1, s2, s3⟩ := hS; go_simp) hH ?_; simp only [Act.put, zX, zY, zZ]
      refine zTk 5 38 (.pointer (some ⟨g, i * 9 + 8, none⟩)) rfl (fun w hS => by obtain ⟨s1, s2, s3⟩ := hS; go_simp) hH ?_; simp only [Act.put, zX, zY, zZ]
      refine zTk 6 39 (.slice (some ⟨ba, oa, none⟩) x.zs.length x.c) rfl (fun w hS => by obtain ⟨s1, s2, s3⟩ := hS; go_simp) hH ?_; simp only [Act.put, zX, zY, zZ]
      refine zTk 7 40 (.int .i64 m) rfl (fun w hS => by obtain ⟨s1, s2, s3⟩ := hS; go_simp) hH ?_; simp only [Act.put, zX, zY, zZ]
      refine zTk 8 41 (.slice (some ⟨g, 0, none⟩) xs.length cl) rfl (fun w hS => by obtain ⟨s1, s2, s3⟩ := hS; go_simp) hH ?_; simp only [Act.put, zX, zY, zZ]
      refine zTk 9 42 (.int .i64 i) rfl (fun w hS => by obtain ⟨s1, s2, s3⟩ := hS; go_simp) hH ?_; simp only [Act.put, zX, zY, zZ]
      refine zTk 10 43 (.pointer (some ⟨g, i * 9, none⟩)) rfl (fun w hS => by obtain ⟨s1, s2, s3⟩ := hS; go_simp) hH ?_; simp only [Act.put, zX, zY, zZ]
      refine zTk 11 44 (.pointer (some ⟨g, i * 9 + 6, none⟩)) rfl (fun w hS => by obtain ⟨s1, s2, s3⟩ := hS; go_simp) hH ?_; simp only [Act.put, zX, zY, zZ]
      refine zTk 12 45 (.int .i64 x.p.off) rfl (fun w hS => by obtain ⟨s1, s2, s3⟩ := hS; go_simp) hH ?_; simp only [Act.put, zX, zY, zZ]
      refine zTk 13 46 (.int .i64 t) rfl (fun w hS => by obtain ⟨s1, s2, s3⟩ := hS; go_simp) hH ?_; simp only [Act.put, zX, zY, zZ]
      refine zTk 14 47 (.pointer (some ⟨ba, oa + t, none⟩)) rfl (fun w hS => by obtain ⟨s1, s2, s3⟩ := hS; go_simp) hH ?_; simp only [Act.put, zX, zY, zZ]
      refine zTk 15 48 (.int .u8 z) rfl (fun w hS => by obtain ⟨s1, s2, s3⟩ := hS; go_simp) hH ?_; simp only [Act.put, zX, zY, zZ]
      refine wpAnyH_ready (rs := [1, 16]) (by kernel_rfl) (by simp) ?_
      refine AllReadyH.cons rfl (fun K hK => ?_) (AllReadyH.cons rfl (fun K hK => ?_) AllReadyH.nil)
      ·go_simp
       refine hK.out _ _ (KS.out _ (draw1 _)) (fun hH => ?_)
       clear hK K
       refine zRd 16 (by kernel_rfl) rfl (fun K hK => ?_)
       go_simp
       refine hK.out _ _ (KS.out _ ((zBa _ _).drew)) (fun hH => ?_)
       clear hK K
       refine zRd 17 (by kernel_rfl) rfl (fun K hK => ?_)
       refine step_append_d rfl (some 50) rfl (.tmp 34) (.tmp 49) 22 rfl w3.heap.size 5 i0 (.int .u8 0) 1 1 Tryz.underlying22 hi0 hz0 hz1 hz2 rfl (by decide) (.slice (some ⟨gv, 0, none⟩) m c) m (bs.map (.int .u8)) rfl (own_below J5.out.own ((zBa w5 (.cells #[.int .u8 z] 5)).drew)) ⟨w5.heap.size, 0, none⟩ 1 1 [.int .u8 z] rfl rfl ?_ ?_ ?_ ?_ ?_ ?_
       ·exact one_new w5 z
       ·intro u hu
        obtain rfl := List.mem_singleton.1 hu
        rfl
       ·unfold maxLen; omega
       ·omega
       ·have : w5.heap.size ≤ ((w5.alloc (.cells #[.int .u8 z] 5)).drew).heap.size := ((zBa w5 (.cells #[.int .u8 z] 5)).drew).size
        omega
       intro v1 w7 ho7 hg7 hn7
       obtain ⟨ga, ca, rfl⟩ : ∃ ga ca, v1 = .slice (some ⟨ga, 0, none⟩) (m + 1) ca := form_of ho7 (fun e => nomatch (hn7.1 e).1)
       have J7 := J5.out.more l3 (by omega) hg7 ho7
       obtain ⟨R7, Q7, B7⟩ := J5.out.kept l3 hg7
       have q7 := (Boxed.of_block Q7).c8
       have f7 : ∀ o, w7.frozen? ⟨w4.heap.size, o, none⟩ = false := fun o => zUf Q7 o
       have l7 := lt_of_block Q7
       have JH7 : Hid (JW w (w7.setCell ⟨w4.heap.size, 8, none⟩ (.slice (some ⟨ga, 0, none⟩) (m + 1) ca)) w4.heap.size w3.heap.size (headL (xs.map RV.key)) ga (m + 1) ca (bs ++ [z])) := J7
       refine hK.out _ _ (KW.out _ B7) (fun hH => ?_)
       clear hK K J7
       simp only [Act.put, zX, zY, zZ]
       refine zTk 18 51 (.pointer (some ⟨w4.heap.size, 8, none⟩)) rfl (fun w hS => by obtain ⟨s1, s2, s3⟩ := hS; go_simp) hH ?_; simp only [Act.put, zX, zY, zZ]
       refine zRd 19 (by kernel_rfl) rfl (fun K hK => ?_)
       go_simp
       refine hK.out _ _ (KW.out _ JH7.out.bel) (fun _ => ?_)
       clear hK K
       refine wpAnyH_done (by kernel_rfl) ?_ _
       go_wp2
       go_roundw
       case rel => exact ⟨m + 1, ga, ca, bs ++ [z], by omega, by go_num, (show (bs ++ [z]).length = m + 1 by rw [List.length_append, HLb.out]; rfl), (show _ = _ by rw [HS.out, HZ.out]), JH7.out⟩
       case measure => simp [intOf]; omega
      ·go_simp
       refine hK.out _ _ (KS.out _ ((zBa _ _).drew)) (fun hH => ?_)
       clear hK K
       refine zRd 1 (by kernel_rfl) rfl (fun K hK => ?_)
       go_simp
       refine hK.out _ _ (KS.out _ ((zBa _ _).drew)) (fun hH => ?_)
       clear hK K
       refine zRd 17 (by kernel_rfl) rfl (fun K hK => ?_)
       refine step_append_d rfl (some 50) rfl (.tmp 34) (.tmp 49) 22 rfl w3.heap.size 5 i0 (.int .u8 0) 1 1 Tryz.underlying22 hi0 hz0 hz1 hz2 rfl (by decide) (.slice (some ⟨gv, 0, none⟩) m c) m (bs.map (.int .u8)) rfl (own_below J5.out.own ((zBa w5 (.cells #[.int .u8 z] 5)).drew)) ⟨w5.heap.size, 0, none⟩ 1 1 [.int .u8 z] rfl rfl ?_ ?_ ?_ ?_ ?_ ?_
       ·exact one_new w5 z
       ·intro u hu
        obtain rfl := List.mem_singleton.1 hu
        rfl
       ·unfold maxLen; omega
       ·omega
       ·have : w5.heap.size ≤ ((w5.alloc (.cells #[.int .u8 z] 5)).drew).heap.size := ((zBa w5 (.cells #[.int .u8 z] 5)).drew).size
        omega
       intro v1 w7 ho7 hg7 hn7
       obtain ⟨ga, ca, rfl⟩ : ∃ ga ca, v1 = .slice (some ⟨ga, 0, none⟩) (m + 1) ca := form_of ho7 (fun e => nomatch (hn7.1 e).1)
       have J7 := J5.out.more l3 (by omega) hg7 ho7
       obtain ⟨R7, Q7, B7⟩ := J5.out.kept l3 hg7
       have q7 := (Boxed.of_block Q7).c8
       have f7 : ∀ o, w7.frozen? ⟨w4.heap.size, o, none⟩ = false := fun o => zUf Q7 o
       have l7 := lt_of_block Q7
       have JH7 : Hid (JW w (w7.setCell ⟨w4.heap.size, 8, none⟩ (.slice (some ⟨ga, 0, none⟩) (m + 1) ca)) w4.heap.size w3.heap.size (headL (xs.map RV.key)) ga (m + 1) ca (bs ++ [z])) := J7
       refine hK.out _ _ (KW.out _ B7) (fun hH => ?_)
       clear hK K J7
       simp only [Act.put, zX, zY, zZ]
       refine zTk 18 51 (.pointer (some ⟨w4.heap.size, 8, none⟩)) rfl (fun w hS => by obtain ⟨s1, s2, s3⟩ := hS; go_simp) hH ?_; simp only [Act.put, zX, zY, zZ]
       refine zRd 19 (by kernel_rfl) rfl (fun K hK => ?_)
       go_simp
       refine hK.out _ _ (KW.out _ JH7.out.bel) (fun _ => ?_)
       clear hK K
       refine wpAnyH_done (by kernel_rfl) ?_ _
       go_wp2
       go_roundw
       case rel => exact ⟨m + 1, ga, ca, bs ++ [z], by omega, by go_num, (show (bs ++ [z]).length = m + 1 by rw [List.length_append, HLb.out]; rfl), (show _ = _ by rw [HS.out, HZ.out]), JH7.out⟩
       case measure => simp [intOf]; omega
     ·have HJ : Hid (joinL (xs.map RV.key) = (3, (zeroPk, []))) := joinL_lack hal hdis HE.out (by rw [Int.toNat_natCast]; exact bytes_none (bytes_stop hf) hlt)
      have fz : ∀ o, w5.frozen? ⟨w.heap.size, o, none⟩ = false := fun o => zUf J5.out.res o
      obtain ⟨_, z0, z1, z2, z3, z4, z5, z6, z7, z8⟩ := Boxed.of_block J5.out.res
      clear hf
      go_wp2
      refine bodyPost_ret (v := .tuple #[zeroPk.val (.slice none 0 0), .int .i64 3]) (by simp [results, Tryz.results53, go_sem, z0, z1, z2, z3, z4, z5, z6, z7, z8, zeroPk, Pk.val]) rfl (post_code HJ.out ?_)
      exact below9 B5.out (Nat.le_refl _) _ _ _ _ _ _ _ _ _
    ·obtain rfl : m = n := by omega
     have HJ : Hid (joinL (xs.map RV.key) = (0, (headL (xs.map RV.key), bs))) := joinL_zero hal hdis HE.out (by rw [Int.toNat_natCast]; exact HBs.out)
     have fz : ∀ o, wr.frozen? ⟨w.heap.size, o, none⟩ = false := fun o => zUf HJW.out.res o
     have hrl := lt_of_block HJW.out.res
     obtain ⟨_, z0, z1, z2, z3, z4, z5, z6, z7, z8⟩ := Boxed.of_block HJW.out.res
     obtain ⟨_, k0, k1, k2, k3, k4, k5, k6, k7, k8⟩ := Boxed.of_block HJW.out.box
     have hgv : gv ≠ w.heap.size := by have := (own_lt HJW.out.own gv rfl).1; omega
     go_wp2
     refine bodyPost_ret (v := .tuple #[(headL (xs.map RV.key)).val (.slice (some ⟨gv, 0, none⟩) m c), .int .i64 0]) (by simp [results, Tryz.results53, go_sem, z0, z1, z2, z3, z4, z5, z6, z7, z8, Pk.val]) rfl ⟨some ⟨gv, 0, none⟩, c, ?_, ?_, ?_⟩
     ·rw [HJ.out]
      simp only [HLb.out]
     ·rw [HJ.out]
      simp only [HLb.out]
      exact Joins.ownsRow_le (own_kept HJW.out.own fun k hk => by cases hk; exact heap9 _ _ _ hgv _ _ _ _ _ _ _ _ _) (by omega)
     ·exact below9 B0.out (Nat.le_refl _) _ _ _ _ _ _ _ _ _
 ·have HJ : Hid (joinL (xs.map RV.key) = (2, (zeroPk, []))) := joinL_two hal hdis
  go_enter Tryz.func53, Tryz.ntmps53
  go_wp2_with fail
  refine (l3Alike_any g cl xs _ (HL.out.below (zBa _ _)) hm).mono ?_
  rw [hal]
  rintro e w1 ⟨rfl, b1⟩
  have R1 : w1.heap[w.heap.size]? = some (.cells (pcells zeroPk (.slice none 0 0)) 29 (0, 0)) := (b1.block _ (by simp)).trans (heap_new _ _ _ rfl)
  have B1 : Below w.heap.size w w1 := (zBa _ _).trans (b1.mono (by simp))
  have l1 := lt_of_block R1
  clear b1
  go_wp2_with fail
  refine (l3Disagree_any g cl xs _ (HL.out.below B1) h40 HO.out).mono ?_
  rw [hdis]
  rintro e w2 ⟨rfl, b2⟩
  have R2 := (b2.block _ l1).trans R1
  have B2 : Hid (Below w.heap.size w w2) := B1.trans (b2.mono (by omega))
  have l2 := lt_of_block R2
  have fz : ∀ o, w2.frozen? ⟨w.heap.size, o, none⟩ = false := fun o => zUf R2 o
  obtain ⟨_, z0, z1, z2, z3, z4, z5, z6, z7, z8⟩ := Boxed.of_block R2
  clear b2 R1 R2 B1
  go_wp2
  refine bodyPost_ret (v := .tuple #[zeroPk.val (.slice none 0 0), .int .i64 2]) (by simp [results, Tryz.results53, go_sem, z0, z1, z2, z3, z4, z5, z6, z7, z8, zeroPk, Pk.val]) rfl (post_code HJ.out ?_)
  exact below9 B2.out (Nat.le_refl _) _ _ _ _ _ _ _ _ _
end Go.Proofs.YtjbkgmbakjnlhaaGreatDoor
