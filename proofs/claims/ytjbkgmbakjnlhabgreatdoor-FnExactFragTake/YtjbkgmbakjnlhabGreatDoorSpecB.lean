/- The specification's l3Against. -/
import Derived.Test.YtjbkgmbakjnlhabGreatDoorPartAn
import Derived.Deep.DrawnRows
namespace Go.Proofs.YtjbkgmbakjnlhabGreatDoor
set_option maxRecDepth 100000
open Go.RowKit
attribute [local go_sem ↓] Go.wp_at_zero Go.wp_at_succ

/-- an operation that is not wanted, taken first: nothing -/
theorem take_skip {P : Program} {md : Region.Mode} {ops : Array Oper} {Q : Exit → Act → World → Prop} {fuel : Nat} {listed : Array Bool} {a : Act} {w : World} {oi : Oper} (i : Nat) (d : Option Tmp) (hi : ops[i]? = some oi) (hd : oi.dst = d)
    (hs : Region.noSelect ops = true) (hf : Region.free md ops listed i = true) (hr : (Region.ready md ops listed).contains i = true)
    (hQ : ∀ c a w, Q (.panic c) (a.put d undef) w → Q (.panic c) a w) (hy : Region.wanted oi (yielded ops a.tmps) = false)
    (h : wpAnyH P md ops Q (fun _ => True) fuel (listed.setIfInBounds i true) (a.put d undef) w) : wpAnyH P md ops Q (fun _ => True) (fuel + 1) listed a w := by
  subst hd
  exact wpAnyH_take hi hs hf hr hQ (Or.inr ⟨hy, rfl⟩) trivial h
/-- one that only computes, taken first -/
theorem take_val {P : Program} {md : Region.Mode} {ops : Array Oper} {Q : Exit → Act → World → Prop} {fuel : Nat} {listed : Array Bool} {a : Act} {w : World} {oi : Oper} (i : Nat) (d : Option Tmp) (v : Value) (hi : ops[i]? = some oi) (hd : oi.dst = d)
    (hs : Region.noSelect ops = true) (hf : Region.free md ops listed i = true) (hr : (Region.ready md ops listed).contains i = true)
    (hQ : ∀ c a w, Q (.panic c) (a.put d v) w → Q (.panic c) a w) (hw : Region.wanted oi (yielded ops a.tmps) = true) (hy : ∀ w, (execOp a.eval oi).run P w = .ok (.value v) w)
    (h : wpAnyH P md ops Q (fun _ => True) fuel (listed.setIfInBounds i true) (a.put d v) w) : wpAnyH P md ops Q (fun _ => True) (fuel + 1) listed a w := by
  subst hd
  exact wpAnyH_take hi hs hf hr hQ (Or.inl ⟨hw, fun w _ => hy w⟩) trivial h
/-- at a place both have the byte, and not the same one -/
def clashAt (x y : PB) (t : Nat) : Bool := hasB y (x.1.off + t) && (byteAt x (x.1.off + t) != byteAt y (x.1.off + t))
def endBad (x y : PB) : Bool := !x.1.more && (decide (endOf x < endOf y) || (!y.1.more && (endOf y != endOf x)))
theorem against_eq (x y : PB) : againstB x y = ((List.range x.2.length).any (clashAt x y) || endBad x y) := rfl
theorem against_clash {x y : PB} {t : Nat} (ht : t < x.2.length) (h : clashAt x y t = true) : againstB x y = true := by
  rw [against_eq, Bool.or_eq_true]
  exact Or.inl (List.any_eq_true.2 ⟨t, List.mem_range.2 ht, h⟩)
theorem against_calm {x y : PB} (h : ∀ t, t < x.2.length → clashAt x y t = false) : againstB x y = endBad x y := by
  rw [against_eq]
  have e : (List.range x.2.length).any (clashAt x y) = false := by
    rw [List.any_eq_false]
    intro t ht
    rw [h t (List.mem_range.1 ht)]
    simp
  rw [e, Bool.false_or]
theorem byteAt_of {x : PB} {t : Nat} {z : Int} (h : x.2[t]? = some z) : byteAt x (x.1.off + t) = z := by
  unfold byteAt
  rw [show (x.1.off + (t : Int) - x.1.off).toNat = t by omega]
  simp [List.getD, h]
theorem byteAt_at {x : PB} {m : Nat} {j z : Int} (hj : j - x.1.off = (m : Int)) (h : x.2[m]? = some z) : byteAt x j = z := by
  unfold byteAt
  rw [hj, Int.toNat_natCast]
  simp [List.getD, h]

set_option maxRecDepth 100000 in
set_option maxHeartbeats 6400000 in
theorem l3Against_any (p q : Pk) (a b : Option Addr) (zs ys : List Int) (c d : Nat) (w : World) (hp0 : 0 ≤ p.off) (hp1 : p.off ≤ 128) (hq0 : 0 ≤ q.off) (hq1 : q.off ≤ 128) (hx : ROk w ⟨p, a, c, zs⟩) (hy : ROk w ⟨q, b, d, ys⟩) :
    Calls Tryz.prog 90 #[p.val (.slice a zs.length c), q.val (.slice b ys.length d)] w fun e w' => e = .returned (.bool (againstB (p, zs) (q, ys))) ∧ Below w.heap.size w w' := by
  obtain ⟨hpr, hp, hpc, hpm, -⟩ := hx
  obtain ⟨hqr, hq, hqc, hqm, -⟩ := hy
  simp only at hpr hp hpc hpm hqr hq hqc hqm
  have HRp : Hid (RdB w a zs.length zs) := hpr
  have HRq : Hid (RdB w b ys.length ys) := hqr
  clear hpr hqr
  unfold Pk.val
  go_enter Tryz.func90, Tryz.ntmps90
  go_wp2
  go_loopw [5] (fun i wr => ∃ t : Nat, t ≤ zs.length ∧ i = .int .i64 (p.off + t) ∧ Hid (∀ t', t' < t → clashAt (p, zs) (q, ys) t' = false) ∧ Hid (Below (w.heap.size + 2) ((w.alloc (.cells (pcells p (.slice a zs.length c)) 33)).alloc (.cells (pcells q (.slice b ys.length d)) 33)) wr)) (fun i _ => (p.off + zs.length - intOf i).toNat)
  case atStart => exact ⟨0, by omega, by simp, fun t h => by omega, Below.refl _ _⟩
  case round =>
    obtain ⟨t, ht, rfl, HC, HB⟩ := hrel
    have hsz : w.heap.size + 2 ≤ wr.heap.size := Nat.le_trans (by simp) HB.out.size
    have B0 : Hid (Below w.heap.size w wr) := (Joins.below_alloc2 _ _ _).trans (HB.out.mono (by omega))
    have X4 : Boxed wr w.heap.size p (.slice a zs.length c) := ((Boxed.new w p (.slice a zs.length c) 33).below (Joins.below_alloc1 _ _)).upto HB.out (by omega)
    have Y4 : Boxed wr (w.heap.size + 1) q (.slice b ys.length d) := (Boxed.newAt (w.alloc _) (w.heap.size + 1) q (.slice b ys.length d) 33 (by simp)).upto HB.out (by omega)
    obtain ⟨l0, c0, c1, c2, c3, c4, c5, c6, c7, c8⟩ := id X4
    obtain ⟨l1, k0, k1, k2, k3, k4, k5, k6, k7, k8⟩ := id Y4
    by_cases hlt : t < zs.length
    · have hi : p.off + (t : Int) < p.off + (zs.length : Int) := by omega
      have hti : (t : Int) < (zs.length : Int) := by omega
      have ht0 : (0 : Int) ≤ (t : Int) := by omega
      cases hh : hasB (q, ys) (p.off + t)
      · have KH : Hid (∀ W : World, Calls Tryz.prog 91 #[.agg #[.int .i64 q.src, .int .i64 q.dst, .int .i64 q.kind, .int .i64 q.id, .int .i64 q.hops, .bool q.whole, .int .i64 q.off, .bool q.more, .slice b ys.length d], .int .i64 (p.off + t)] W fun e w' => e = .returned (.bool false) ∧ Below W.heap.size W w') := fun W => by
          have h := l3Has_any q b ys d (p.off + t) W hq0 hq1 hq
          rw [hh] at h
          exact h
        have HN : Hid (clashAt (p, zs) (q, ys) t = false) := (show clashAt (p, zs) (q, ys) t = false by unfold clashAt; simp only [hh]; rfl)
        clear hh
        go_wp2
        refine wp_region_held_drew (S := fun _ => True) (by kernel_rfl) trivial (fun _ => ?_)
        refine take_val 1 (some 20) (.int .i64 (p.off + t)) rfl rfl (by kernel_rfl) (by kernel_rfl) (by kernel_rfl) (fun _ _ _ h => h) (by rfl) (fun w => by go_simp) ?_
        simp only [Act.put, List.setIfInBounds_toArray, List.set_cons_zero, List.set_cons_succ]
        refine wpAnyH_ready (rs := [0]) (by kernel_rfl) (by simp) ?_
        refine AllReadyH.cons rfl (fun K hK => ?_) AllReadyH.nil
        go_simp
        refine hK.out _ _ trivial (fun _ => ?_)
        clear hK K
        refine wpAnyH_ready (rs := [2]) (by kernel_rfl) (by simp) ?_
        refine AllReadyH.cons rfl (fun K hK => ?_) AllReadyH.nil
        go_simp
        with_reducible refine (KH.out _).mono ?_
        rintro e w1 ⟨rfl, b1⟩
        refine hK.out _ _ trivial (fun _ => ?_)
        clear hK K
        refine take_val 3 (some 22) (.bool false) rfl rfl (by kernel_rfl) (by kernel_rfl) (by kernel_rfl) (fun _ _ _ h => h) (by rfl) (fun w => by go_simp) ?_
        simp only [Act.put, List.setIfInBounds_toArray, List.set_cons_zero, List.set_cons_succ]
        refine take_skip 4 (some 23) rfl rfl (by kernel_rfl) (by kernel_rfl) (by kernel_rfl) (fun _ _ _ h => h) (by rfl) ?_
        simp only [Act.put, List.setIfInBounds_toArray, List.set_cons_zero, List.set_cons_succ]
        refine take_skip 5 (some 24) rfl rfl (by kernel_rfl) (by kernel_rfl) (by kernel_rfl) (fun _ _ _ h => h) (by rfl) ?_
        simp only [Act.put, List.setIfInBounds_toArray, List.set_cons_zero, List.set_cons_succ]
        refine take_skip 6 (some 25) rfl rfl (by kernel_rfl) (by kernel_rfl) (by kernel_rfl) (fun _ _ _ h => h) (by rfl) ?_
        simp only [Act.put, List.setIfInBounds_toArray, List.set_cons_zero, List.set_cons_succ]
        refine take_skip 7 (some 26) rfl rfl (by kernel_rfl) (by kernel_rfl) (by kernel_rfl) (fun _ _ _ h => h) (by rfl) ?_
        simp only [Act.put, List.setIfInBounds_toArray, List.set_cons_zero, List.set_cons_succ]
        refine take_skip 8 (some 27) rfl rfl (by kernel_rfl) (by kernel_rfl) (by kernel_rfl) (fun _ _ _ h => h) (by rfl) ?_
        simp only [Act.put, List.setIfInBounds_toArray, List.set_cons_zero, List.set_cons_succ]
        refine take_skip 9 (some 28) rfl rfl (by kernel_rfl) (by kernel_rfl) (by kernel_rfl) (fun _ _ _ h => h) (by rfl) ?_
        simp only [Act.put, List.setIfInBounds_toArray, List.set_cons_zero, List.set_cons_succ]
        refine take_skip 10 (some 29) rfl rfl (by kernel_rfl) (by kernel_rfl) (by kernel_rfl) (fun _ _ _ h => h) (by rfl) ?_
        simp only [Act.put, List.setIfInBounds_toArray, List.set_cons_zero, List.set_cons_succ]
        refine take_skip 11 (some 30) rfl rfl (by kernel_rfl) (by kernel_rfl) (by kernel_rfl) (fun _ _ _ h => h) (by rfl) ?_
        simp only [Act.put, List.setIfInBounds_toArray, List.set_cons_zero, List.set_cons_succ]
        refine take_skip 12 (some 31) rfl rfl (by kernel_rfl) (by kernel_rfl) (by kernel_rfl) (fun _ _ _ h => h) (by rfl) ?_
        simp only [Act.put, List.setIfInBounds_toArray, List.set_cons_zero, List.set_cons_succ]
        refine take_skip 13 (some 32) rfl rfl (by kernel_rfl) (by kernel_rfl) (by kernel_rfl) (fun _ _ _ h => h) (by rfl) ?_
        simp only [Act.put, List.setIfInBounds_toArray, List.set_cons_zero, List.set_cons_succ]
        refine take_skip 14 (some 33) rfl rfl (by kernel_rfl) (by kernel_rfl) (by kernel_rfl) (fun _ _ _ h => h) (by rfl) ?_
        simp only [Act.put, List.setIfInBounds_toArray, List.set_cons_zero, List.set_cons_succ]
        refine take_skip 15 (some 34) rfl rfl (by kernel_rfl) (by kernel_rfl) (by kernel_rfl) (fun _ _ _ h => h) (by rfl) ?_
        simp only [Act.put, List.setIfInBounds_toArray, List.set_cons_zero, List.set_cons_succ]
        refine take_skip 16 (some 35) rfl rfl (by kernel_rfl) (by kernel_rfl) (by kernel_rfl) (fun _ _ _ h => h) (by rfl) ?_
        simp only [Act.put, List.setIfInBounds_toArray, List.set_cons_zero, List.set_cons_succ]
        refine take_skip 17 (some 36) rfl rfl (by kernel_rfl) (by kernel_rfl) (by kernel_rfl) (fun _ _ _ h => h) (by rfl) ?_
        simp only [Act.put, List.setIfInBounds_toArray, List.set_cons_zero, List.set_cons_succ]
        refine take_skip 18 (some 37) rfl rfl (by kernel_rfl) (by kernel_rfl) (by kernel_rfl) (fun _ _ _ h => h) (by rfl) ?_
        simp only [Act.put, List.setIfInBounds_toArray, List.set_cons_zero, List.set_cons_succ]
        refine take_skip 19 (some 38) rfl rfl (by kernel_rfl) (by kernel_rfl) (by kernel_rfl) (fun _ _ _ h => h) (by rfl) ?_
        simp only [Act.put, List.setIfInBounds_toArray, List.set_cons_zero, List.set_cons_succ]
        refine take_skip 20 (some 39) rfl rfl (by kernel_rfl) (by kernel_rfl) (by kernel_rfl) (fun _ _ _ h => h) (by rfl) ?_
        simp only [Act.put, List.setIfInBounds_toArray, List.set_cons_zero, List.set_cons_succ]
        refine take_val 21 (some 40) (.bool false) rfl rfl (by kernel_rfl) (by kernel_rfl) (by kernel_rfl) (fun _ _ _ h => h) (by rfl) (fun w => by go_simp) ?_
        simp only [Act.put, List.setIfInBounds_toArray, List.set_cons_zero, List.set_cons_succ]
        refine wpAnyH_done (by kernel_rfl) ?_ _
        go_wp2
        go_roundw
        case rel =>
          refine ⟨t + 1, by omega, by go_num, fun t' h' => ?_, HB.out.drew.trans (b1.mono hsz)⟩
          rcases Nat.lt_or_ge t' t with h | h
          · exact HC.out t' h
          · obtain rfl : t' = t := by omega
            exact HN.out
        case measure => simp [intOf]; omega
      · have hhb := (hasB_iff _ _).1 hh
        unfold endOf at hhb
        simp only at hhb
        obtain ⟨m, hm⟩ : ∃ m : Nat, p.off + (t : Int) - q.off = (m : Int) := ⟨(p.off + t - q.off).toNat, by omega⟩
        have hmi : (m : Int) < (ys.length : Int) := by omega
        have hm0 : (0 : Int) ≤ (m : Int) := by omega
        have htc : p.off + (t : Int) - p.off = (t : Int) := by omega
        obtain ⟨z, hz⟩ := get_of_lt hlt
        obtain ⟨y, hy⟩ := get_of_lt (show m < ys.length by omega)
        obtain ⟨-, h0 | ⟨ba, oa, rfl, hba, hca⟩⟩ := HRp.out
        · omega
        obtain ⟨-, h0 | ⟨bb, ob, rfl, hbb, hcb⟩⟩ := HRq.out
        · omega
        have cz : wr.cell? ⟨ba, oa + t, none⟩ = some (.int .u8 z) := by
          rw [B0.out.cell (p := ⟨ba, oa + t, none⟩) hba, hca t hlt]
          simp [List.getD, hz]
        have cy : wr.cell? ⟨bb, ob + m, none⟩ = some (.int .u8 y) := by
          rw [B0.out.cell (p := ⟨bb, ob + m, none⟩) hbb, hcb m (by omega)]
          simp [List.getD, hy]
        have hba' : ba < wr.heap.size := by omega
        have hbb' : bb < wr.heap.size := by omega
        have KH : Hid (∀ W : World, Calls Tryz.prog 91 #[.agg #[.int .i64 q.src, .int .i64 q.dst, .int .i64 q.kind, .int .i64 q.id, .int .i64 q.hops, .bool q.whole, .int .i64 q.off, .bool q.more, .slice (some ⟨bb, ob, none⟩) ys.length d], .int .i64 (p.off + t)] W fun e w' => e = .returned (.bool true) ∧ Below W.heap.size W w') := fun W => by
          have h := l3Has_any q (some ⟨bb, ob, none⟩) ys d (p.off + t) W hq0 hq1 hq
          rw [hh] at h
          exact h
        have HZ : Hid (clashAt (p, zs) (q, ys) t = (z != y)) := (show clashAt (p, zs) (q, ys) t = (z != y) by
          unfold clashAt
          simp only [hh, Bool.true_and]
          rw [byteAt_of (x := (p, zs)) hz, byteAt_at (x := (q, ys)) hm hy])
        clear hh hca hcb hz hy
        have hwt : IntKind.i64.wrap (t : Int) = (t : Int) := by rw [IntKind.wrap_i64]; omega
        have hwm : IntKind.i64.wrap (m : Int) = (m : Int) := by rw [IntKind.wrap_i64]; omega
        by_cases hzy : z = y
        · have hzb : (z != y) = false := by simp [hzy]
          have HN : Hid (clashAt (p, zs) (q, ys) t = false) := (show _ = _ by rw [HZ.out, hzb])
          clear hzy
          go_wp2
          go_region_held3 (fun w' => w'.cell? ⟨w.heap.size + 1, 0, none⟩ = some (.int .i64 q.src) ∧ w'.cell? ⟨w.heap.size + 1, 1, none⟩ = some (.int .i64 q.dst) ∧ w'.cell? ⟨w.heap.size + 1, 2, none⟩ = some (.int .i64 q.kind) ∧ w'.cell? ⟨w.heap.size + 1, 3, none⟩ = some (.int .i64 q.id) ∧ w'.cell? ⟨w.heap.size + 1, 4, none⟩ = some (.int .i64 q.hops) ∧ w'.cell? ⟨w.heap.size + 1, 5, none⟩ = some (.bool q.whole) ∧ w'.cell? ⟨w.heap.size + 1, 6, none⟩ = some (.int .i64 q.off) ∧ w'.cell? ⟨w.heap.size + 1, 7, none⟩ = some (.bool q.more) ∧ w'.cell? ⟨w.heap.size + 1, 8, none⟩ = some (.slice (some ⟨bb, ob, none⟩) ys.length d) ∧ w'.cell? ⟨w.heap.size, 6, none⟩ = some (.int .i64 p.off) ∧ w'.cell? ⟨w.heap.size, 8, none⟩ = some (.slice (some ⟨ba, oa, none⟩) zs.length c) ∧ w'.cell? ⟨ba, oa + t, none⟩ = some (.int .u8 z) ∧ w'.cell? ⟨bb, ob + m, none⟩ = some (.int .u8 y)) (go_keep)
            (first
              | (go_at_call 91; with_reducible refine (KH.out _).mono ?_; rintro e w1 ⟨rfl, b1⟩; have hc1 : ∀ b o, b < wr.heap.size → w1.cell? ⟨b, o, none⟩ = _ := fun b o h => b1.cell (p := ⟨b, o, none⟩) (by simpa using h)))
          go_wp2
          go_roundw
          case rel =>
            refine ⟨t + 1, by omega, by go_num, fun t' h' => ?_, HB.out.drew.trans (b1.mono hsz)⟩
            rcases Nat.lt_or_ge t' t with h | h
            · exact HC.out t' h
            · obtain rfl : t' = t := by omega
              exact HN.out
          case measure => simp [intOf]; omega
        · have hzb : (z != y) = true := by simp [hzy]
          have HN : Hid (againstB (p, zs) (q, ys) = true) := against_clash hlt (by rw [HZ.out, hzb])
          clear hzy
          go_wp2
          go_region_held3 (fun w' => w'.cell? ⟨w.heap.size + 1, 0, none⟩ = some (.int .i64 q.src) ∧ w'.cell? ⟨w.heap.size + 1, 1, none⟩ = some (.int .i64 q.dst) ∧ w'.cell? ⟨w.heap.size + 1, 2, none⟩ = some (.int .i64 q.kind) ∧ w'.cell? ⟨w.heap.size + 1, 3, none⟩ = some (.int .i64 q.id) ∧ w'.cell? ⟨w.heap.size + 1, 4, none⟩ = some (.int .i64 q.hops) ∧ w'.cell? ⟨w.heap.size + 1, 5, none⟩ = some (.bool q.whole) ∧ w'.cell? ⟨w.heap.size + 1, 6, none⟩ = some (.int .i64 q.off) ∧ w'.cell? ⟨w.heap.size + 1, 7, none⟩ = some (.bool q.more) ∧ w'.cell? ⟨w.heap.size + 1, 8, none⟩ = some (.slice (some ⟨bb, ob, none⟩) ys.length d) ∧ w'.cell? ⟨w.heap.size, 6, none⟩ = some (.int .i64 p.off) ∧ w'.cell? ⟨w.heap.size, 8, none⟩ = some (.slice (some ⟨ba, oa, none⟩) zs.length c) ∧ w'.cell? ⟨ba, oa + t, none⟩ = some (.int .u8 z) ∧ w'.cell? ⟨bb, ob + m, none⟩ = some (.int .u8 y)) (go_keep)
            (first
              | (go_at_call 91; with_reducible refine (KH.out _).mono ?_; rintro e w1 ⟨rfl, b1⟩; have hc1 : ∀ b o, b < wr.heap.size → w1.cell? ⟨b, o, none⟩ = _ := fun b o h => b1.cell (p := ⟨b, o, none⟩) (by simpa using h)))
          go_wp2
          go_ret
          exact ⟨ret_bool HN.out.symm, B0.out.drew.trans (b1.mono (show w.heap.size ≤ wr.heap.size by omega))⟩
    · obtain rfl : t = zs.length := by omega
      have HE : Hid (againstB (p, zs) (q, ys) = endBad (p, zs) (q, ys)) := against_calm HC.out
      have HD : Hid (endBad (p, zs) (q, ys) = (!p.more && (decide (p.off + (zs.length : Int) < q.off + (ys.length : Int)) || (!q.more && (q.off + (ys.length : Int) != p.off + (zs.length : Int)))))) := rfl
      have hi : ¬ (p.off + (zs.length : Int) < p.off + (zs.length : Int)) := by omega
      cases hpm' : p.more
      · rw [hpm'] at c7
        cases hqm' : q.more
        all_goals
          rw [hqm'] at k7
          go_wp2
          all_goals
            go_ret
            refine ⟨ret_bool ?_, B0.out⟩
            rw [HE.out, HD.out, hpm', hqm']
            first | (simp_all; done) | (simp_all; omega)
      · rw [hpm'] at c7
        go_wp2
        go_ret
        refine ⟨ret_bool ?_, B0.out⟩
        rw [HE.out, HD.out, hpm']
        rfl
end Go.Proofs.YtjbkgmbakjnlhabGreatDoor
