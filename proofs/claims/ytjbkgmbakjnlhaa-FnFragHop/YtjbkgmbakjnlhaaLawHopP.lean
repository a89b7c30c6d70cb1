/- The walk of the law FnFragHop: a drawn packet goes on hop by hop. -/
import Derived.Test.YtjbkgmbakjnlhaaHop
import Derived.Test.YtjbkgmbakjnlhaaKept
import Derived.Test.YtjbkgmbakjnlhaaSame
import Derived.Test.YtjbkgmbakjnlhaaDrawH
namespace Go.Proofs.Ytjbkgmbakjnlhaa
open Go.RowKit

/-- the packet behind so many hops -/
def hopsTo (p : Pk) (k : Nat) : Pk := ⟨p.src, p.dst, p.kind, p.id, p.hops - k, p.whole, p.off, p.more⟩
/-- what is asked of a packet besides its hops -/
def okRest (p : Pk) (len : Nat) : Bool := inB p.src 0 65535 && inB p.dst 0 65535 && inB p.kind 1 7 && inB p.id 0 255 && offB p len && moreB p len && wholeB p
theorem okB_rest (p : Pk) (len : Nat) : okB p len = (okRest p len && inB p.hops 1 64) := by
  unfold okB headB okRest
  cases inB p.src 0 65535 <;> cases inB p.dst 0 65535 <;> cases inB p.kind 1 7 <;> cases inB p.id 0 255 <;> cases inB p.hops 1 64 <;> cases offB p len <;> cases moreB p len <;> cases wholeB p <;> rfl
theorem okB_hops {p : Pk} {len k : Nat} (h : okB p len = true) (h1 : 1 ≤ p.hops - k) : okB (hopsTo p k) len = true := by
  have hh := ok_hops h
  rw [okB_rest] at h ⊢
  have e : okRest (hopsTo p k) len = okRest p len := rfl
  rw [e]
  simp only [Bool.and_eq_true] at h ⊢
  refine ⟨h.1, ?_⟩
  show inB (p.hops - k) 1 64 = true
  unfold inB
  simp
  omega
theorem hopC_last {p : Pk} {len k : Nat} (h : okB p len = true) (h1 : p.hops - k = 1) : hopC (hopsTo p k) len = 2 := by
  unfold hopC
  rw [okB_hops h (by omega), if_pos rfl]
  exact if_pos h1
theorem hopC_on {p : Pk} {len k : Nat} (h : okB p len = true) (h1 : 2 ≤ p.hops - k) : hopC (hopsTo p k) len = 0 := by
  unfold hopC
  rw [okB_hops h (by omega), if_pos rfl]
  exact if_neg (show ¬ p.hops - (k : Int) = 1 by omega)
theorem hopP_on {p : Pk} {len k : Nat} (h : okB p len = true) (h1 : 2 ≤ p.hops - k) : hopP (hopsTo p k) len = ⟨p.src, p.dst, p.kind, p.id, p.hops - k - 1, p.whole, p.off, p.more⟩ := by
  unfold hopP
  rw [hopC_on h h1, if_pos rfl]
  rfl
theorem hopD_on {p : Pk} {k : Nat} {ys : List Int} (h : okB p ys.length = true) (h1 : 2 ≤ p.hops - k) : hopD (hopsTo p k) ys = ys := by
  unfold hopD
  rw [hopC_on h h1, if_pos rfl]
theorem hops_set (p : Pk) (k : Nat) (v : Value) : (pcells (hopsTo p k) v).setIfInBounds 4 (.int .i64 (p.hops - k - 1)) = pcells (hopsTo p (k + 1)) v := by
  have e : p.hops - (k : Int) - 1 = p.hops - ((k + 1 : Nat) : Int) := by omega
  rw [e]
  rfl
theorem hopsTo_zero (p : Pk) : hopsTo p 0 = p := by unfold hopsTo; simp

set_option maxRecDepth 100000 in
set_option maxHeartbeats 6400000 in
theorem hopPLaw_any (a : Option Addr) (len cap : Nat) (w : World) (hlen : (len : Int) ≤ 1048576)
    (hd : Hid (Calls Try.prog 17 #[.slice a len cap] w fun e w' => ∃ (p : Pk) (g c : Nat) (ys : List Int), e = .returned (p.val (.slice (some ⟨g, 0, none⟩) ys.length c)) ∧ w'.ownsRow w.heap.size 5 1 (.slice (some ⟨g, 0, none⟩) ys.length c) ys.length (ys.map (.int .u8)) ∧ ys.length ≤ 200 ∧ Below w.heap.size w w')) :
    Calls Try.prog 5 #[.slice a len cap] w fun e w' => e = .returned (.bool true) ∧ Below w.heap.size w w' := by
  have hn : ∀ x : Int, (x != x) = false := fun x => by simp
  go_enter Try.func5, Try.ntmps5
  go_wp2_with fail
  refine hd.out.mono ?_
  rintro e w' ⟨p, g, c, ys, rfl, ho, hl, B1⟩
  clear hd
  unfold Pk.val
  have o1 := own_below ho (Joins.below_alloc1 w' (.cells (pcells p (.slice (some ⟨g, 0, none⟩) ys.length c)) 24))
  have X1 := Boxed.new w' p (.slice (some ⟨g, 0, none⟩) ys.length c) 24
  go_wp2_with fail
  refine (implHop_any p ⟨g, 0, none⟩ ys.length c ys _ (RdB.of_own rfl o1) (by omega)).mono ?_
  rintro e w2 ⟨aQ, cQ, rfl, oQ, b2⟩
  have s1 := B1.size
  have B2 : Below w.heap.size w w2 := (B1.alloc s1 _).trans (b2.mono (by simp; omega))
  have X2 := X1.below b2
  have o2 := own_below o1 b2
  clear b2 X1 o1 ho
  obtain ⟨lx, c0, c1, c2, c3, c4, c5, c6, c7, c8⟩ := id X2
  unfold Pk.val
  go_wp2_with fail
  refine (specHop_any p ⟨g, 0, none⟩ ys.length c ys _ ((RdB.of_own rfl o2).below (Joins.below_alloc1 _ _)) (by omega)).mono ?_
  rintro e w3 ⟨aW, cW, rfl, oW, b3⟩
  have b3' : Below w2.heap.size w2 w3 := (Joins.below_alloc1 _ _).trans (b3.mono (by simp))
  have B3 : Below w.heap.size w w3 := B2.trans (b3'.mono B2.size)
  have X3 := X2.below b3'
  have o3 := own_below o2 b3'
  have Q3 : Boxed w3 w2.heap.size (hopP p ys.length) (.slice aQ (hopD p ys).length cQ) := (Boxed.new w2 (hopP p ys.length) (.slice aQ (hopD p ys).length cQ) 24).below b3
  have oQ3 := own_below oQ b3'
  have hdl : (hopD p ys).length ≤ 200 := by
    unfold hopD; split
    · exact hl
    · simp
  clear b3 b3' X2 o2 oQ c0 c1 c2 c3 c4 c5 c6 c7 c8 lx B2
  obtain ⟨lq, q0, q1, q2, q3, q4, q5, q6, q7, q8⟩ := id Q3
  unfold Pk.val
  go_wp2_with fail
  refine (wfSame_same (hopP p ys.length) aQ aW (hopD p ys).length cQ cW (hopD p ys) _ ((RdB.of_own rfl oQ3).below (Joins.below_alloc1 _ _)) ((RdB.of_own rfl oW).below (Joins.below_alloc1 _ _)) (by omega)).mono ?_
  rintro e w4 ⟨rfl, b4⟩
  have b4' : Below w3.heap.size w3 w4 := (Joins.below_alloc1 _ _).trans (b4.mono (by simp))
  have B4 : Below w.heap.size w w4 := B3.trans (b4'.mono B3.size)
  have X4 := X3.below b4'
  have o4 := own_below o3 b4'
  have hs4 := B4.size
  clear b4 b4' X3 o3 oQ3 oW q0 q1 q2 q3 q4 q5 q6 q7 q8 lq Q3 B3
  obtain ⟨lx, c0, c1, c2, c3, c4, c5, c6, c7, c8⟩ := id X4
  cases hv : okB p ys.length
  · have HC : Hid (hopC p ys.length = 1) := by show hopC p ys.length = 1; unfold hopC; rw [hv]; rfl
    go_wp2
    refine wp_loop_rounds 1 ?_
    rw [rounds_succ]
    have X5 : Boxed w4 w'.heap.size p (.slice (some ⟨g, 0, none⟩) ys.length c) := X4
    go_wp2_with fail
    refine (implHop_any p ⟨g, 0, none⟩ ys.length c ys _ ((RdB.of_own rfl o4).below (Joins.below_alloc1 _ _)) (by omega)).mono ?_
    rintro e w5 ⟨aY, cY, rfl, oY, b5⟩
    rw [HC.out]
    have b5' : Below w4.heap.size w4 w5 := (Joins.below_alloc1 _ _).trans (b5.mono (by simp))
    have B5 : Below w.heap.size w w5 := B4.trans (b5'.mono hs4)
    have X6 := X4.below b5'
    clear b5 b5' B4 X4 X5 o4 oY c0 c1 c2 c3 c4 c5 c6 c7 c8 lx
    obtain ⟨lx, c0, c1, c2, c3, c4, c5, c6, c7, c8⟩ := id X6
    unfold Pk.val
    go_wp2_with fail
    refine (specOk_any p (some ⟨g, 0, none⟩) ys.length c _ (by omega)).mono ?_
    rintro e w6 ⟨rfl, b6⟩
    have b6' : Below w5.heap.size w5 w6 := (Joins.below_alloc1 _ _).trans (b6.mono (by simp))
    have B6 : Below w.heap.size w w6 := B5.trans (b6'.mono B5.size)
    have hc1 : (hopC p ys.length == 1) = true := by rw [HC.out]; rfl
    clear b6 b6' B5 X6 c0 c1 c2 c3 c4 c5 c6 c7 c8 lx
    go_wp2
    go_ret
    exact ⟨rfl, B6⟩
  · obtain ⟨hh1, hh2⟩ := ok_hops hv
    have HX : Hid (Boxed w4 w'.heap.size p (.slice (some ⟨g, 0, none⟩) ys.length c)) := X4
    have HO : Hid (w4.ownsRow w.heap.size 5 1 (.slice (some ⟨g, 0, none⟩) ys.length c) ys.length (ys.map (.int .u8))) := o4
    have HB : Hid (Below w.heap.size w w4) := B4
    have hs4' : w'.heap.size < w4.heap.size := lx
    clear X4 o4 B4
    have HV : Hid (okB p ys.length = true) := hv
    go_wp2
    clear c0 c1 c2 c3 c4 c5 c6 c7 c8 lx
    go_loopw [8, 10] (fun n i wr => ∃ k : Nat, (k : Int) ≤ p.hops - 1 ∧ n = .int .i64 k ∧ i = .int .i64 k ∧ Hid (wr.heap[w4.heap.size]? = some (.cells (pcells (hopsTo p k) (.slice (some ⟨g, 0, none⟩) ys.length c)) 24 (0, 0))) ∧ Hid (Below w4.heap.size w4 wr)) (fun _ i _ => 65 - (intOf i).toNat)
    case atStart => exact ⟨0, by omega, rfl, rfl, by rw [hopsTo_zero]; exact heap_new _ _ _ rfl, (Below.refl _ _).alloc (Nat.le_refl _) _⟩
    case round =>
      obtain ⟨k, hk, rfl, rfl, HK, HW⟩ := hrel
      have hk64 : (k : Int) < 65 := by omega
      have o5 : wr.ownsRow w.heap.size 5 1 (.slice (some ⟨g, 0, none⟩) ys.length c) ys.length (ys.map (.int .u8)) := own_below HO.out HW.out
      have fx : ∀ o, wr.frozen? ⟨w4.heap.size, o, none⟩ = false := fun o => Joins.unfrozen_of_block HK.out o
      have X5 := Boxed.of_block HK.out
      obtain ⟨lx, c0, c1, c2, c3, c4, c5, c6, c7, c8⟩ := id X5
      have P5 := HX.out.below HW.out
      by_cases hlast : p.hops - (k : Int) = 1
      · have HC : Hid (hopC (hopsTo p k) ys.length = 2) := hopC_last HV.out hlast
        go_wp2_with fail
        refine (implHop_any (hopsTo p k) ⟨g, 0, none⟩ ys.length c ys _ (RdB.of_own rfl o5) (by omega)).mono ?_
        rintro e w5 ⟨aY, cY, rfl, oY, b5⟩
        rw [HC.out]
        have P6 := P5.below b5
        have B5 : Below w.heap.size w w5 := (HB.out.trans (HW.out.mono hs4)).trans (b5.mono (Nat.le_trans hs4 HW.out.size))
        clear b5 oY c0 c1 c2 c3 c4 c5 c6 c7 c8 lx X5 o5 P5
        obtain ⟨lx, c0, c1, c2, c3, c4, c5, c6, c7, c8⟩ := id P6
        unfold Pk.val
        go_wp2_with fail
        refine (specOk_any p (some ⟨g, 0, none⟩) ys.length c _ (by omega)).mono ?_
        rintro e w6 ⟨rfl, b6⟩
        have b6' : Below w5.heap.size w5 w6 := (Joins.below_alloc1 _ _).trans (b6.mono (by simp))
        have B6 : Below w.heap.size w w6 := B5.trans (b6'.mono B5.size)
        have P7 := P6.below b6'
        have he : ((k : Int) == p.hops - 1) = true := by rw [beq_iff_eq]; omega
        clear b6 b6' B5 P6 c0 c1 c2 c3 c4 c5 c6 c7 c8 lx
        obtain ⟨lx, c0, c1, c2, c3, c4, c5, c6, c7, c8⟩ := id P7
        go_wp2_with fail
        refine (specOk_any p (some ⟨g, 0, none⟩) ys.length c _ (by omega)).mono ?_
        rintro e w7 ⟨rfl, b7⟩
        have B7 : Below w.heap.size w w7 := B6.trans (b7.mono B6.size)
        have P8 := P7.below b7
        clear b7 B6 P7 c0 c1 c2 c3 c4 c5 c6 c7 c8 lx
        obtain ⟨lx, c0, c1, c2, c3, c4, c5, c6, c7, c8⟩ := id P8
        go_wp2
        go_ret
        exact ⟨rfl, B7⟩
      · have h2 : 2 ≤ p.hops - (k : Int) := by omega
        have HC : Hid (hopC (hopsTo p k) ys.length = 0) := hopC_on HV.out h2
        have HP : Hid (hopP (hopsTo p k) ys.length = ⟨p.src, p.dst, p.kind, p.id, p.hops - k - 1, p.whole, p.off, p.more⟩) := hopP_on HV.out h2
        have HD : Hid (hopD (hopsTo p k) ys = ys) := hopD_on HV.out h2
        go_wp2_with fail
        refine (implHop_any (hopsTo p k) ⟨g, 0, none⟩ ys.length c ys _ (RdB.of_own rfl o5) (by omega)).mono ?_
        rintro e w5 ⟨aY, cY, rfl, oY, b5⟩
        rw [HC.out, HP.out, HD.out]
        rw [HD.out] at oY
        have X6 := X5.below b5
        have o6 := own_below o5 b5
        have W5 : Below w4.heap.size w4 w5 := HW.out.trans (b5.mono HW.out.size)
        have K5 : w5.heap[w4.heap.size]? = some (.cells (pcells (hopsTo p k) (.slice (some ⟨g, 0, none⟩) ys.length c)) 24 (0, 0)) := (b5.block _ lx).trans HK.out
        clear b5 c0 c1 c2 c3 c4 c5 c6 c7 c8 lx X5 o5 P5 fx HK
        obtain ⟨lx, c0, c1, c2, c3, c4, c5, c6, c7, c8⟩ := id X6
        have c4' : w5.cell? ⟨w4.heap.size, 4, none⟩ = some (.int .i64 (p.hops - k)) := c4
        have c0' : w5.cell? ⟨w4.heap.size, 0, none⟩ = some (.int .i64 p.src) := c0
        have c1' : w5.cell? ⟨w4.heap.size, 1, none⟩ = some (.int .i64 p.dst) := c1
        have c2' : w5.cell? ⟨w4.heap.size, 2, none⟩ = some (.int .i64 p.kind) := c2
        have c3' : w5.cell? ⟨w4.heap.size, 3, none⟩ = some (.int .i64 p.id) := c3
        have c5' : w5.cell? ⟨w4.heap.size, 5, none⟩ = some (.bool p.whole) := c5
        have c6' : w5.cell? ⟨w4.heap.size, 6, none⟩ = some (.int .i64 p.off) := c6
        have c7' : w5.cell? ⟨w4.heap.size, 7, none⟩ = some (.bool p.more) := c7
        clear c0 c1 c2 c3 c4 c5 c6 c7
        unfold Pk.val
        go_wp2_with fail
        refine (wfSame_same (hopsTo p k) aY (some ⟨g, 0, none⟩) ys.length cY c ys _ ((RdB.of_own rfl oY).below (Joins.below_alloc1 _ _)) ((RdB.of_own rfl o6).below (Joins.below_alloc1 _ _)) (by omega)).mono ?_
        rintro e w6 ⟨rfl, b6⟩
        have b6' : Below w5.heap.size w5 w6 := (Joins.below_alloc1 _ _).trans (b6.mono (by simp))
        have W6 : Below w4.heap.size w4 w6 := W5.trans (b6'.mono W5.size)
        have K6 := (b6'.block _ (lt_of_block K5)).trans K5
        have fx : ∀ o, w6.frozen? ⟨w4.heap.size, o, none⟩ = false := fun o => Joins.unfrozen_of_block K6 o
        have d4 : w6.cell? ⟨w4.heap.size, 4, none⟩ = some (.int .i64 (p.hops - k)) := (Boxed.of_block K6).c4
        have KH : Hid (w6.heap[w4.heap.size]? = some (.cells (pcells (hopsTo p k) (.slice (some ⟨g, 0, none⟩) ys.length c)) 24 (0, 0))) := K6
        have WH : Hid (Below w4.heap.size w4 w6) := W6
        clear b6 b6' W5 W6 K5 K6 X6 o6 oY c0' c1' c2' c3' c4' c5' c6' c7' c8 lx HW
        go_wp2
        go_roundw
        case rel =>
          refine ⟨k + 1, by omega, by go_num, by go_num, ?_, WH.out.setCell (Nat.le_refl _) _⟩
          have h := Joins.block_setCell (i := 4) KH.out (.int .i64 (p.hops - k - 1))
          rw [hops_set] at h
          exact h
        case measure => simp [intOf]; omega
end Go.Proofs.Ytjbkgmbakjnlhaa
