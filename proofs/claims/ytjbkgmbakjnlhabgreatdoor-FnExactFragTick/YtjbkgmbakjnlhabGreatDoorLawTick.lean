/- The law FnExactFragTick. -/
import Derived.Test.YtjbkgmbakjnlhabGreatDoorPartAs
import Derived.Test.YtjbkgmbakjnlhabGreatDoorSTick
namespace Go.Proofs.YtjbkgmbakjnlhabGreatDoor
set_option maxRecDepth 100000
open Go.RowKit

/-- a bench in a box -/
structure Bx (w : World) (b : Nat) (u v : Value) : Prop where
  lt : b < w.heap.size
  c0 : w.cell? ⟨b, 0, none⟩ = some u
  c1 : w.cell? ⟨b, 1, none⟩ = some v
theorem Bx.below {w w' : World} {b : Nat} {u v : Value} (h : Bx w b u v) (hb : Below w.heap.size w w') : Bx w' b u v :=
  ⟨Nat.lt_of_lt_of_le h.lt hb.size, (cell_kept (hb.block b h.lt)).trans h.c0, (cell_kept (hb.block b h.lt)).trans h.c1⟩
theorem Bx.mkd {F : List Nat} {w w' : World} {b : Nat} {u v : Value} (h : Bx w b u v) (hm : Mk F w w') (hF : b ∉ F) : Bx w' b u v :=
  ⟨Nat.lt_of_lt_of_le h.lt hm.size, (cell_kept (hm.block b h.lt hF)).trans h.c0, (cell_kept (hm.block b h.lt hF)).trans h.c1⟩
theorem Bx.new (w : World) (u v : Value) (t : TypeId) : Bx (w.alloc (.cells #[u, v] t)) w.heap.size u v := ⟨by simp, by go_simp, by go_simp⟩
theorem Below.mkd {B : Nat} {F : List Nat} {a w w' : World} (h : Below B a w) (hm : Mk F w w') (hB : B ≤ w.heap.size) (hF : ∀ b ∈ F, B ≤ b) : Below B a w' :=
  ⟨hm.os.trans h.os, hm.tape.trans h.tape, hm.output.trans h.output, Nat.le_trans h.size hm.size, fun k hk => (hm.block k (by omega) (fun h' => by have := hF k h'; omega)).trans (h.block k hk)⟩
theorem AnsV.rng {w : World} {lo : Nat} {oa : Option Addr} {ts : List SV} (h : AnsV w lo oa ts) : ∀ b ∈ qblk oa ts, lo ≤ b ∧ b < w.heap.size := by
  intro b hb
  rcases h with ⟨rfl, rfl⟩ | ⟨g, rfl, h2⟩
  · simp [qblk, ablk] at hb
  · rcases List.mem_append.1 hb with hb | hb
    · simp [ablk] at hb
      subst hb
      exact ⟨h2.low, h2.row.lt⟩
    · obtain ⟨e1, e2, _⟩ := h2.forest.blk b hb
      exact ⟨e1, e2⟩
theorem AnsV.mkd {F : List Nat} {w w' : World} {lo : Nat} {oa : Option Addr} {ts : List SV} (h : AnsV w lo oa ts) (hm : Mk F w w') (hF : ∀ b ∈ qblk oa ts, b ∉ F) : AnsV w' lo oa ts := by
  have R := h.rng
  rcases h with h | ⟨g, rfl, h2⟩
  · exact Or.inl h
  · have k : ∀ b ∈ qblk (some ⟨g, 0, none⟩) ts, w'.heap[b]? = w.heap[b]? := fun b hb => hm.block b (R b hb).2 (hF b hb)
    refine Or.inr ⟨g, rfl, h2.low, h2.row.kept (k g (by simp [qblk, ablk])), h2.forest.kept fun b hb => k b (List.mem_append_right _ hb)⟩
theorem AnsV.skq {w : World} {lo : Nat} {oa : Option Addr} {ts : List SV} (h : AnsV w lo oa ts) : SkQ w oa ts := by
  refine h.imp id ?_
  rintro ⟨g, h1, h2⟩
  exact ⟨g, h1, h2.sks⟩
theorem AnsV.nd {w : World} {lo : Nat} {oa : Option Addr} {ts : List SV} (h : AnsV w lo oa ts) : (ts.flatMap SV.blks).Nodup := by
  rcases h with ⟨_, rfl⟩ | ⟨g, h1, h2⟩
  · simp
  · exact h2.forest.nd
theorem AnsV.need {w : World} {lo : Nat} {oa : Option Addr} {ts : List SV} (h : AnsV w lo oa ts) (hl : ts.length ≤ 4) : (1 : Int) + (soff ts ts.length : Int) ≤ 4611686018427387904 := by
  rcases h with ⟨_, rfl⟩ | ⟨g, h1, h2⟩
  · simp [soff]
  · exact h2.need (by omega)
theorem LB.rng {w : World} {lo gL n : Nat} {ys : List RV} (h : LB w lo gL n ys) : ∀ b ∈ lblk gL ys, lo ≤ b ∧ b < w.heap.size := by
  intro b hb
  rcases List.mem_cons.1 hb with rfl | hb
  · exact ⟨h.low, h.lt⟩
  · obtain ⟨y, hy, hyb⟩ := List.mem_flatMap.1 hb
    obtain ⟨gy, a1, _, a3, a4, _⟩ := h.each y hy
    simp [ablk, a1] at hyb
    subst hyb
    exact ⟨a3, lt_of_block a4⟩
theorem SB.rng {w : World} {lo gS n : Nat} {ts : List SV} (h : SB w lo gS n ts) : ∀ b ∈ qblk (some ⟨gS, 0, none⟩) ts, lo ≤ b ∧ b < w.heap.size := by
  intro b hb
  rcases List.mem_append.1 hb with hb | hb
  · simp [ablk] at hb
    subst hb
    exact ⟨h.low, h.lt⟩
  · obtain ⟨s, hs, hb⟩ := List.mem_flatMap.1 hb
    obtain ⟨gL, a1, _, a3, _⟩ := h.each s hs
    rw [SV.blks_of a1] at hb
    exact a3.rng b hb

set_option maxRecDepth 100000 in
set_option maxHeartbeats 6400000 in
theorem tickLaw_any (now : Int) (a : Option Addr) (cl : Nat) (xs : List SV) (w : World) (hL : SLo w a xs) (hm : xs.length ≤ 9223372036854775807) (hg : GoodErr w) :
    Calls Tryz.prog 4 #[.agg #[.int .i64 now, .slice a xs.length cl]] w fun e w' => e = .returned (.bool true) ∧ Below w.heap.size w w' := by
  have HL : Hid (SLo w a xs) := hL
  have HG : Hid (GoodErr w) := hg
  clear hL hg
  have KZ : Hid (∀ W : World, Below w.heap.size w W → Calls Tryz.prog 5 #[.agg #[.int .i64 now, .slice a xs.length cl], .int .i64 1048576] W fun e w' => ∃ r : Int, e = .returned (.int .i64 r) ∧ (r = -1 ∨ (0 ≤ r ∧ xs.length + sumSz xs ≤ 1048576 ∧ r = 1048576 - (xs.length : Int) - (sumSz xs : Int))) ∧ Below W.heap.size W w') := fun W h => szFragBench_any now a cl xs W (HL.out.below h) hm
  have KT : Hid (∀ W : World, Below w.heap.size w W → xs.length + sumSz xs ≤ 1048576 → Calls Tryz.prog 8 #[.agg #[.int .i64 now, .slice a xs.length cl]] W fun e w' => ∃ gS ts, e = .returned (.agg #[.int .i64 now, .slice (some ⟨gS, 0, none⟩) xs.length xs.length]) ∧ SB w' W.heap.size gS xs.length ts ∧ ts.map SV.key = xs.map SV.key ∧ Below W.heap.size W w') := fun W h hs => toFragBench_any now a cl xs W (HL.out.below h) hs
  have KS : Hid (∀ (W : World) (lo g : Nat) (ts : List SV), xs.length ≤ 1048576 → SB W lo g xs.length ts → ts.map SV.key = xs.map SV.key → Calls Tryz.prog 17 #[.agg #[.int .i64 now, .slice (some ⟨g, 0, none⟩) xs.length xs.length]] W (TickPost now ts W)) := fun W lo g ts hx hS hk => by
    have h := specTick_any now (some ⟨g, 0, none⟩) ts.length ts W (Or.inr ⟨g, rfl, hS.sl⟩) (by rw [map_len hk]; exact hx) (Nat.le_refl _) (by rw [map_len hk]; exact hm)
    rw [map_len hk] at h
    exact h
  have KI : Hid (∀ (W : World) (g : Nat) (ts : List SV), xs.length ≤ 1048576 → Below w.heap.size w W → SL W g ts → ts.map SV.key = xs.map SV.key → Calls Tryz.prog 18 #[.agg #[.int .i64 now, .slice (some ⟨g, 0, none⟩) xs.length xs.length]] W (TickPost now ts W)) := fun W g ts hx hB hS hk => by
    have h := implTick_any now (some ⟨g, 0, none⟩) ts.length ts W (Or.inr ⟨g, rfl, hS⟩) (by rw [map_len hk]; exact hx) (Nat.le_refl _) (by rw [map_len hk]; exact hm) (HG.out.below hB HG.out.lt)
    rw [map_len hk] at h
    exact h
  unfold TickPost at KS KI
  have hne : ∀ z : Int, (z != z) = false := fun z => by simp
  go_enter Tryz.func4, Tryz.ntmps4
  go_wp2_with fail
  refine (KZ.out _ (Joins.below_alloc1 _ _)).mono ?_
  rintro e w1 ⟨r, rfl, hr, b1⟩
  have B1 : Below w.heap.size w w1 := (Joins.below_alloc1 _ _).trans (b1.mono (by simp))
  have P1 : Bx w1 w.heap.size (.int .i64 now) (.slice a xs.length cl) := (Bx.new w _ _ _).below b1
  clear b1 KZ
  by_cases hn : r < 0
  · go_wp2
    go_ret
    exact ⟨rfl, B1⟩
  have hsum : xs.length + sumSz xs ≤ 1048576 := by omega
  have hxl : xs.length ≤ 1048576 := by omega
  clear hr
  obtain ⟨y0, y1, y2⟩ := id P1
  go_wp2_with fail
  refine (KT.out _ B1 hsum).mono ?_
  rintro e w2 ⟨g1, t1, rfl, S1, k1, b2⟩
  have B2 : Below w.heap.size w w2 := B1.trans (b2.mono B1.size)
  have P2 := P1.below b2
  clear y0 y1 y2 P1 B1 b2
  go_wp2_with fail
  refine (KS.out _ _ _ _ hxl S1 k1).mono ?_
  rintro e w3 ⟨vW, nw, ks, cc, rfl, TW, ⟨⟨oW, cW, tsW, rfl, kW, lW, _, _, AW3⟩⟩, b3⟩
  have B3 : Below w.heap.size w w3 := B2.trans (b3.mono B2.size)
  have P3 := P2.below b3
  have RW := AW3.rng
  have HTW : Hid (TickP now t1 nw ks cc) := TW
  have HKW : Hid (tsW.map SV.key = ks) := kW
  have HK1 : Hid (t1.map SV.key = xs.map SV.key) := k1
  have s23 : w2.heap.size ≤ w3.heap.size := b3.size
  have sP2 : w.heap.size < w2.heap.size := P2.lt
  clear P2 B2 b3 S1 TW kW k1
  obtain ⟨y0, y1, y2⟩ := id P3
  go_wp2_with fail
  refine (KT.out _ (B3.alloc B3.size _) hsum).mono ?_
  rintro e w4 ⟨gX, tX, rfl, S4', kX, b4⟩
  have b4' : Below w3.heap.size w3 w4 := (Joins.below_alloc1 _ _).trans (b4.mono (by simp))
  have B4 : Below w.heap.size w w4 := B3.trans (b4'.mono B3.size)
  have P4 := P3.below b4'
  have Q4 : Bx w4 w3.heap.size (.int .i64 nw) (.slice oW tsW.length cW) := (Bx.new w3 _ _ _).below b4
  have AW4 := AW3.below b4'
  have S4 : SB w4 (w3.heap.size + 1) gX xs.length tX := (by have h := S4'; simp at h; exact h)
  have RX := S4.rng
  have HKX : Hid (tX.map SV.key = xs.map SV.key) := kX
  have lX : tX.length = xs.length := map_len kX
  have s34 : w3.heap.size < w4.heap.size := Q4.lt
  clear y0 y1 y2 b4 b4' B3 P3 AW3 S4' kX
  go_wp2_with fail
  refine (KI.out _ _ _ hxl (B4.alloc B4.size _) (S4.sl.below (Joins.below_alloc1 _ _)) HKX.out).mono ?_
  rintro e w5 ⟨vG, nw', ks', cc', rfl, TG, ⟨⟨oG, cG, tsG, rfl, kG, lG, _, _, AG5'⟩⟩, b5⟩
  obtain ⟨rfl, rfl, rfl⟩ := HTW.out.same TG (HKX.out.trans HK1.out.symm)
  have b5' : Below w4.heap.size w4 w5 := (Joins.below_alloc1 _ _).trans (b5.mono (by simp))
  have B5 : Below w.heap.size w w5 := B4.trans (b5'.mono B4.size)
  have P5 := P4.below b5'
  have Q5 := Q4.below b5'
  have X5 : Bx w5 w4.heap.size (.int .i64 now) (.slice (some ⟨gX, 0, none⟩) xs.length xs.length) := (Bx.new w4 _ _ _).below b5
  have AW5 := AW4.below b5'
  have S5 := S4.below b5'
  have AG5 : AnsV w5 (w4.heap.size + 1) oG tsG := (by have h := AG5'; simp at h; exact h)
  have RG := AG5.rng
  have HKG : Hid (tsW.map SV.key = tsG.map SV.key) := HKW.out.trans kG.symm
  have s45 : w4.heap.size < w5.heap.size := X5.lt
  clear TG b5 b5' B4 P4 Q4 AW4 S4 AG5' kG
  obtain ⟨y0, y1, y2⟩ := id Q5
  go_wp2_with fail
  refine (eqBench_q nw oG oW cG cW tsG tsW _ ((AG5.below (Joins.below_alloc1 _ _)).slq) ((AW5.below (Joins.below_alloc1 _ _)).slq) HKG.out (by omega)).mono ?_
  rintro e w6 ⟨rfl, b6⟩
  have b6' : Below w5.heap.size w5 w6 := (Joins.below_alloc1 _ _).trans (b6.mono (by simp))
  have B6 : Below w.heap.size w w6 := B5.trans (b6'.mono B5.size)
  have G6 : Bx w6 w5.heap.size (.int .i64 nw) (.slice oG tsG.length cG) := (Bx.new w5 _ _ _).below b6
  have P6 := P5.below b6'
  have Q6 := Q5.below b6'
  have X6 := X5.below b6'
  have AW6 := AW5.below b6'
  have S6 := S5.below b6'
  have AG6 := AG5.below b6'
  have s56 : w5.heap.size < w6.heap.size := G6.lt
  clear y0 y1 y2 b6 b6' B5 P5 Q5 X5 AW5 S5 AG5
  obtain ⟨y0, y1, y2⟩ := id P6
  obtain ⟨x0, x1, x2⟩ := id X6
  go_wp2_with fail
  refine wp_region_held_drew (S := fun w' => w'.cell? ⟨w.heap.size, 0, none⟩ = some (.int .i64 now) ∧ w'.cell? ⟨w.heap.size, 1, none⟩ = some (.slice a xs.length cl) ∧ w'.cell? ⟨w4.heap.size, 0, none⟩ = some (.int .i64 now) ∧ w'.cell? ⟨w4.heap.size, 1, none⟩ = some (.slice (some ⟨gX, 0, none⟩) xs.length xs.length)) (by kernel_rfl) ⟨y1, y2, x1, x2⟩ (fun hH => ?_)
  refine take_held 0 (some 41) (.agg #[.int .i64 now, .slice (some ⟨gX, 0, none⟩) xs.length xs.length]) rfl rfl (by kernel_rfl) (by kernel_rfl) (by kernel_rfl) (fun _ _ _ h => h) (by rfl) (fun w hS => by obtain ⟨s0, s1, s2, s3⟩ := hS; go_simp) hH ?_
  simp only [Act.put, List.setIfInBounds_toArray, List.set_cons_zero, List.set_cons_succ]
  refine take_held 1 (some 42) (.agg #[.int .i64 now, .slice a xs.length cl]) rfl rfl (by kernel_rfl) (by kernel_rfl) (by kernel_rfl) (fun _ _ _ h => h) (by rfl) (fun w hS => by obtain ⟨s0, s1, s2, s3⟩ := hS; go_simp) hH ?_
  simp only [Act.put, List.setIfInBounds_toArray, List.set_cons_zero, List.set_cons_succ]
  refine wpAnyH_ready (rs := [2]) (by kernel_rfl) (by simp) ?_
  refine AllReadyH.cons rfl (fun K hK => ?_) AllReadyH.nil
  go_simp
  refine (KT.out _ B6.drew hsum).mono ?_
  rintro e w7 ⟨gT, tT, rfl, ST, kT, b7'⟩
  have b7 : Below w6.heap.size w6 w7 := ((Below.refl _ w6).drew).trans b7'
  have P7 := P6.below b7
  have Q7 := Q6.below b7
  have X7 := X6.below b7
  have G7 := G6.below b7
  have AW7 := AW6.below b7
  have S7 := S6.below b7
  have AG7 := AG6.below b7
  have B7 : Below w.heap.size w w7 := B6.trans (b7.mono B6.size)
  have KE : Hid (Calls Tryz.prog 11 #[.agg #[.int .i64 now, .slice (some ⟨gX, 0, none⟩) xs.length xs.length], .agg #[.int .i64 now, .slice (some ⟨gT, 0, none⟩) xs.length xs.length]] w7 fun e w' => e = .returned (.bool true) ∧ Below w7.heap.size w7 w') := (show Calls _ _ _ _ _ by
    have h := eqFragBench_same now gX gT xs.length xs.length tX tT w7 S7.sl ST.sl (kT.trans HKX.out.symm) (by omega)
    rw [lX] at h
    exact h)
  go_simp
  refine hK.out _ _ ⟨P7.c0, P7.c1, X7.c0, X7.c1⟩ (fun hH => ?_)
  clear hK K ST kT b7' b7 y0 y1 y2 x0 x1 x2 P6 Q6 X6 G6 AW6 S6 AG6 B6
  refine wpAnyH_ready (rs := [3]) (by kernel_rfl) (by simp) ?_
  refine AllReadyH.cons rfl (fun K hK => ?_) AllReadyH.nil
  go_simp
  refine KE.out.mono ?_
  rintro e w8 ⟨rfl, b8⟩
  have P8 := P7.below b8
  have Q8 := Q7.below b8
  have X8 := X7.below b8
  have G8 := G7.below b8
  have AW8 := AW7.below b8
  have S8 := S7.below b8
  have AG8 := AG7.below b8
  have B8 : Below w.heap.size w w8 := B7.trans (b8.mono B7.size)
  go_simp
  refine hK.out _ _ ⟨P8.c0, P8.c1, X8.c0, X8.c1⟩ (fun hH => ?_)
  clear hK K b8 P7 Q7 X7 G7 AW7 S7 AG7 B7 KE
  refine take_held 4 (some 45) (.bool false) rfl rfl (by kernel_rfl) (by kernel_rfl) (by kernel_rfl) (fun _ _ _ h => h) (by rfl) (fun w hS => by obtain ⟨s0, s1, s2, s3⟩ := hS; go_simp) hH ?_
  simp only [Act.put, List.setIfInBounds_toArray, List.set_cons_zero, List.set_cons_succ]
  refine wpAnyH_done (by kernel_rfl) ?_ _
  clear hH
  have KM : Hid (Calls Tryz.prog 13 #[.agg #[.int .i64 now, .slice (some ⟨gX, 0, none⟩) xs.length xs.length], .int .i64 1] w8 fun e w' => e = .returned (.int .i64 (1 + soff tX tX.length)) ∧ Mk (qblk (some ⟨gX, 0, none⟩) tX) w8 w' ∧ ((tX.flatMap SV.blks).Nodup → MkQ w' (some ⟨gX, 0, none⟩) tX)) := (show Calls _ _ _ _ _ by
    have h := markBench_q now (some ⟨gX, 0, none⟩) xs.length tX w8 (Or.inr ⟨gX, rfl, S8.sks lX⟩) (S8.need (by omega))
    rw [lX] at h ⊢
    exact h)
  obtain ⟨x0, x1, x2⟩ := id X8
  go_wp2_with fail
  refine KM.out.mono ?_
  rintro e w9 ⟨rfl, m9, _⟩
  have B9 : Below w.heap.size w w9 := Below.mkd B8 m9 B8.size (fun b hb => by have := RX b hb; omega)
  have P9 := P8.mkd m9 (fun h => by have := RX _ h; omega)
  have Q9 := Q8.mkd m9 (fun h => by have := RX _ h; omega)
  have G9 := G8.mkd m9 (fun h => by have := RX _ h; omega)
  have AW9 := AW8.mkd m9 (fun b hb h => by have := RX _ h; have := RW _ hb; omega)
  have AG9 := AG8.mkd m9 (fun b hb h => by have := RX _ h; have := RG _ hb; omega)
  obtain ⟨km, hkm⟩ : ∃ km : Nat, soff tX tX.length = km := ⟨_, rfl⟩
  have hkb : (1 : Int) + (km : Int) ≤ 4611686018427387904 := by rw [← hkm]; exact S8.need (by omega)
  rw [hkm]
  have hk9 : ¬ ((1 : Int) + (km : Int) < 0) := by omega
  clear x0 x1 x2 m9 B8 P8 Q8 G8 X8 AW8 AG8 S8 KM hkm
  obtain ⟨y0, y1, y2⟩ := id Q9
  obtain ⟨x0, x1, x2⟩ := id G9
  go_wp2_with fail
  refine (eqBench_q nw oG oW cG cW tsG tsW _ AG9.slq AW9.slq HKG.out (by omega)).mono ?_
  rintro e w10 ⟨rfl, b10⟩
  have B10 : Below w.heap.size w w10 := B9.trans (b10.mono B9.size)
  have P10 := P9.below b10
  have Q10 := Q9.below b10
  have G10 := G9.below b10
  have AW10 := AW9.below b10
  have AG10 := AG9.below b10
  clear x0 x1 x2 y0 y1 y2 b10 B9 P9 Q9 G9 AW9 AG9
  obtain ⟨x0, x1, x2⟩ := id G10
  go_wp2_with fail
  refine (markBench_q nw oG cG tsG w10 AG10.skq (AG10.need lG)).mono ?_
  rintro e w11 ⟨rfl, m11, u11⟩
  have B11 : Below w.heap.size w w11 := Below.mkd B10 m11 B10.size (fun b hb => by have := RG b hb; omega)
  have P11 := P10.mkd m11 (fun h => by have := RG _ h; omega)
  have Q11 := Q10.mkd m11 (fun h => by have := RG _ h; omega)
  have G11 := G10.mkd m11 (fun h => by have := RG _ h; omega)
  have AW11 := AW10.mkd m11 (fun b hb h => by have := RG _ h; have := RW _ hb; omega)
  have HK11 : Hid (SkQ w11 oG tsG) := AG10.skq.mkd m11
  have HU11 : Hid (MkQ w11 oG tsG) := u11 AG10.nd
  have HN : Hid ((1 : Int) + (soff tsG tsG.length : Int) ≤ 4611686018427387904) := AG10.need lG
  clear x0 x1 x2 m11 u11 B10 P10 Q10 G10 AW10 AG10
  obtain ⟨x0, x1, x2⟩ := id G11
  go_wp2_with fail
  refine (heldBench_q nw oG cG tsG w11 HK11.out HU11.out HN.out).mono ?_
  rintro e w12 ⟨rfl, b12⟩
  have B12 : Below w.heap.size w w12 := B11.trans (b12.mono B11.size)
  have P12 := P11.below b12
  have Q12 := Q11.below b12
  have G12 := G11.below b12
  have AW12 := AW11.below b12
  have HK12 : Hid (SkQ w12 oG tsG) := HK11.out.below b12
  have HU12 : Hid (MkQ w12 oG tsG) := HU11.out.below HK11.out b12
  obtain ⟨kn, hkn⟩ : ∃ kn : Nat, soff tsG tsG.length = kn := ⟨_, rfl⟩
  have HKN : Hid (soff tsG tsG.length = kn) := hkn
  have hkb2 : (1 : Int) + (kn : Int) ≤ 4611686018427387904 := by rw [← hkn]; exact HN.out
  rw [hkn]
  clear x0 x1 x2 b12 B11 P11 Q11 G11 AW11 HK11 HU11 hkn
  obtain ⟨y0, y1, y2⟩ := id P12
  go_wp2_with fail
  refine (KT.out _ B12 hsum).mono ?_
  rintro e w13 ⟨gU, tU, rfl, SU, kU, b13⟩
  have B13 : Below w.heap.size w w13 := B12.trans (b13.mono B12.size)
  have Q13 := Q12.below b13
  have G13 := G12.below b13
  have AW13 := AW12.below b13
  have HK13 : Hid (SkQ w13 oG tsG) := HK12.out.below b13
  have HU13 : Hid (MkQ w13 oG tsG) := HU12.out.below HK12.out b13
  clear y0 y1 y2 b13 B12 P12 Q12 G12 AW12 HK12 HU12
  go_wp2_with fail
  refine (KI.out _ _ _ hxl B13 SU.sl kU).mono ?_
  rintro e w14 ⟨vH, nw', ks', cc', rfl, TH, ⟨⟨oH, cH, tsH, rfl, kH, lH, _, _, AH⟩⟩, b14⟩
  obtain ⟨rfl, rfl, rfl⟩ := HTW.out.same TH (kU.trans HK1.out.symm)
  have B14 : Below w.heap.size w w14 := B13.trans (b14.mono B13.size)
  have Q14 := Q13.below b14
  have G14 := G13.below b14
  have AW14 := AW13.below b14
  have HK14 : Hid (SkQ w14 oG tsG) := HK13.out.below b14
  have HU14 : Hid (MkQ w14 oG tsG) := HU13.out.below HK13.out b14
  have HKH : Hid (tsW.map SV.key = tsH.map SV.key) := HKW.out.trans kH.symm
  clear TH b14 B13 Q13 G13 AW13 HK13 HU13 SU kU kH
  obtain ⟨y0, y1, y2⟩ := id Q14
  go_wp2_with fail
  refine (eqBench_q nw oH oW cH cW tsH tsW _ ((AH.below (Joins.below_alloc1 _ _)).slq) ((AW14.below (Joins.below_alloc1 _ _)).slq) HKH.out (by omega)).mono ?_
  rintro e w15 ⟨rfl, b15⟩
  have b15' : Below w14.heap.size w14 w15 := (Joins.below_alloc1 _ _).trans (b15.mono (by simp))
  have B15 : Below w.heap.size w w15 := B14.trans (b15'.mono B14.size)
  have G15 := G14.below b15'
  have HK15 : Hid (SkQ w15 oG tsG) := HK14.out.below b15'
  have HU15 : Hid (MkQ w15 oG tsG) := HU14.out.below HK14.out b15'
  clear y0 y1 y2 b15 b15' B14 Q14 G14 AW14 AH HK14 HU14
  obtain ⟨x0, x1, x2⟩ := id G15
  go_wp2_with fail
  refine (heldBench_q nw oG cG tsG w15 HK15.out HU15.out HN.out).mono ?_
  rintro e w16 ⟨rfl, b16⟩
  have B16 : Hid (Below w.heap.size w w16) := B15.trans (b16.mono B15.size)
  rw [HKN.out]
  clear x0 x1 x2 b16 B15 G15 HK15 HU15
  go_wp2
  go_ret
  exact ⟨rfl, B16.out⟩
end Go.Proofs.YtjbkgmbakjnlhabGreatDoor
