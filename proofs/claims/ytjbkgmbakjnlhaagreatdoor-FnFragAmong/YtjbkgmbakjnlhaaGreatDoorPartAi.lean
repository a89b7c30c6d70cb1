import Derived.Test.YtjbkgmbakjnlhaaGreatDoorPartAh
import Derived.Deep.DrawnRows
namespace Go.Proofs.YtjbkgmbakjnlhaaGreatDoor
set_option maxRecDepth 100000
open Go.RowKit
attribute [local go_sem ↓] Go.wp_at_zero Go.wp_at_succ
theorem take_skip {P : Program} {md : Region.Mode} {ops : Array Oper} {Q : Exit → Act → World → Prop} {fuel : Nat} {listed : Array Bool} {a : Act} {w : World} {oi : Oper} (i : Nat) (d : Option Tmp) (hi : ops[i]? = some oi) (hd : oi.dst = d)
  (hs : Region.noSelect ops = true) (hf : Region.free md ops listed i = true) (hr : (Region.ready md ops listed).contains i = true)
  (hQ : ∀ c a w, Q (.panic c) (a.put d undef) w → Q (.panic c) a w) (hy : Region.wanted oi (yielded ops a.tmps) = false)
  (h : wpAnyH P md ops Q (fun _ => True) fuel (listed.setIfInBounds i true) (a.put d undef) w) : wpAnyH P md ops Q (fun _ => True) (fuel + 1) listed a w := by
 subst hd
 exact wpAnyH_take hi hs hf hr hQ (Or.inr ⟨hy, rfl⟩) trivial h
theorem take_val {P : Program} {md : Region.Mode} {ops : Array Oper} {Q : Exit → Act → World → Prop} {fuel : Nat} {listed : Array Bool} {a : Act} {w : World} {oi : Oper} (i : Nat) (d : Option Tmp) (v : Value) (hi : ops[i]? = some oi) (hd : oi.dst = d)
  (hs : Region.noSelect ops = true) (hf : Region.free md ops listed i = true) (hr : (Region.ready md ops listed).contains i = true)
  (hQ : ∀ c a w, Q (.panic c) (a.put d v) w → Q (.panic c) a w) (hw : Region.wanted oi (yielded ops a.tmps) = true) (hy : ∀ w, (execOp a.eval oi).run P w = .ok (.value v) w)
  (h : wpAnyH P md ops Q (fun _ => True) fuel (listed.setIfInBounds i true) (a.put d v) w) : wpAnyH P md ops Q (fun _ => True) (fuel + 1) listed a w := by
 subst hd
 exact wpAnyH_take hi hs hf hr hQ (Or.inl ⟨hw, fun w _ => hy w⟩) trivial h
def clashAt (x y : PB) (t : Nat) : Bool := hasB y (x.1.off + t) && (byteAt x (x.1.off + t) != byteAt y (x.1.off + t))
def endBad (x y : PB) : Bool := !x.1.more && (decide (endOf x < endOf y) || (!y.1.more && (endOf y != endOf x)))
theorem against_eq (x y : PB) : againstB x y = ((List.range x.2.length).any (clashAt x y) || endBad x y) := rfl
theorem against_clash {x y : PB} {t : Nat} (ht : t < x.2.length) (h : clashAt x y t = true) : againstB x y = true := by
 rw [against_eq, Bool.or_eq_true]
 exact Or.inl (List.any_eq_true.2 ⟨t, List.mem_range.2 ht, h⟩)
theorem against_calm {x y : PB} (h : ∀ t, t < x.2.length → clashAt x y t = false) : againstB x y = endBad x y := by
 rw [against_eq]
 have e : (List.range x.2.length).any (clashAt x y) = false := by
  rw [List.any_eq_false]
  intro t ht
  rw [h t (List.mem_range.1 ht)]
  simp
 rw [e, Bool.false_or]
theorem byteAt_of {x : PB} {t : Nat} {z : Int} (h : x.2[t]? = some z) : byteAt x (x.1.off + t) = z := by
 unfold byteAt
 rw [show (x.1.off + (t : Int) - x.1.off).toNat = t by omega]
 simp [List.getD, h]
theorem byteAt_at {x : PB} {m : Nat} {j z : Int} (hj : j - x.1.off = (m : Int)) (h : x.2[m]? = some z) : byteAt x j = z := by
 unfold byteAt
 rw [hj, Int.toNat_natCast]
 simp [List.getD, h]
set_option maxHeartbeats 6400000 in
theorem l3Against_any (p q : Pk) (a b : Option Addr) (zs ys : List Int) (c d : Nat) (w : World) (hp0 : 0 ≤ p.off) (hp1 : p.off ≤ 128) (hq0 : 0 ≤ q.off) (hq1 : q.off ≤ 128) (hx : ROk w ⟨p, a, c, zs⟩) (hy : ROk w ⟨q, b, d, ys⟩) :
  Calls Tryz.prog 102 #[p.val (.slice a zs.length c), q.val (.slice b ys.length d)] w fun e w' => e = .returned (.bool (againstB (p, zs) (q, ys))) ∧ Below w.heap.size w w' := by
 obtain ⟨hpr, hp, hpc, hpm, -⟩ := hx
 obtain ⟨hqr, hq, hqc, hqm, -⟩ := hy
 simp only at hpr hp hpc hpm hqr hq hqc hqm
 have HRp : Hid (RdB w a zs.length zs) := hpr
 have HRq : Hid (RdB w b ys.length ys) := hqr
 clear hpr hqr
 unfold Pk.val
 go_enter Tryz.func102, Tryz.ntmps102
 go_wp2
 go_loopw [5] (fun i wr => ∃ t : Nat, t ≤ zs.length ∧ i = .int .i64 (p.off + t) ∧ Hid (∀ t', t' < t → clashAt (p, zs) (q, ys) t' = false) ∧ Hid (Below (w.heap.size + 2) ((w.alloc (.cells (pcells p (.slice a zs.length c)) 29)).alloc (.cells (pcells q (.slice b ys.length d)) 29)) wr)) (fun i _ => (p.off + zs.length - intOf i).toNat)
 case atStart => exact ⟨0, by omega, by simp, fun t h => by omega, Below.refl _ _⟩
 case round =>
  obtain ⟨t, ht, rfl, HC, HB⟩ := hrel
  have hsz : w.heap.size + 2 ≤ wr.heap.size := Nat.le_trans (by simp) HB.out.size
  have B0 : Hid (Below w.heap.size w wr) := (Joins.below_alloc2 _ _ _).trans (HB.out.mono (by omega))
  have X4 : Boxed wr w.heap.size p (.slice a zs.length c) := ((Boxed.new w p (.slice a zs.length c) 29).below (zBa _ _)).upto HB.out (by omega)
  have Y4 : Boxed wr (w.heap.size + 1) q (.slice b ys.length d) := (Boxed.newAt (w.alloc _) (w.heap.size + 1) q (.slice b ys.length d) 29 (by simp)).upto HB.out (by omega)
  obtain ⟨l0, c0, c1, c2, c3, c4, c5, c6, c7, c8⟩ := id X4
  obtain ⟨l1, k0, k1, k2, k3, k4, k5, k6, k7, k8⟩ := id Y4
  by_cases hlt : t < zs.length
  ·have hi : p.off + (t : Int) < p.off + (zs.length : Int) := by omega
   have hti : (t : Int) < (zs.length : Int) := by omega
   have ht0 : (0 : Int) ≤ (t : Int) := by omega
   cases hh : hasB (q, ys) (p.off + t)
   ·have KH : Hid (∀ W : World, Calls Tryz.prog 103 #[.agg #[.int .i64 q.src, .int .i64 q.dst, .int .i64 q.kind, .int .i64 q.id, .int .i64 q.hops, .bool q.whole, .int .i64 q.off, .bool q.more, .slice b ys.length d], .int .i64 (p.off + t)] W fun e w' => e = .returned (.bool false) ∧ Below W.heap.size W w') := fun W => by
     have h := l3Has_any q b ys d (p.off + t) W hq0 hq1 hq
     rw [hh] at h
     exact h
    have HN : Hid (clashAt (p, zs) (q, ys) t = false) := (show clashAt (p, zs) (q, ys) t = false by unfold clashAt; simp only [hh]; rfl)
    clear hh
    go_wp2
    refine wp_region_held_drew (S := fun _ => True) (by kernel_rfl) trivial (fun _ => ?_)
    refine take_val 1 (some 20) (.int .i64 (p.off + t)) rfl rfl (by kernel_rfl) (by kernel_rfl) (by kernel_rfl) (fun _ _ _ h => h) (by rfl) (fun w => by go_simp) ?_
    simp only [Act.put, zX, zY, zZ]
    refine wpAnyH_ready (rs := [0]) (by kernel_rfl) (by simp) ?_
    refine AllReadyH.cons rfl (fun K hK => ?_) AllReadyH.nil
    go_simp
    refine hK.out _ _ trivial (fun _ => ?_)
    clear hK K
    refine wpAnyH_ready (rs := [2]) (by kernel_rfl) (by simp) ?_
    refine AllReadyH.cons rfl (fun K hK => ?_) AllReadyH.nil
    go_simp
    with_reducible refine (KH.out _).mono ?_
    rintro e w1 ⟨rfl, b1⟩
    refine hK.out _ _ trivial (fun _ => ?_)
    clear hK K
    refine take_val 3 (some 22) (.bool false) rfl rfl (by kernel_rfl) (by kernel_rfl) (by kernel_rfl) (fun _ _ _ h => h) (by rfl) (fun w => by go_simp) ?_
    simp only [Act.put, zX, zY, zZ]
    refine take_skip 4 (some 23) rfl rfl (by kernel_rfl) (by kernel_rfl) (by kernel_rfl) (fun _ _ _ h => h) (by rfl) ?_
    simp only [Act.put, zX, zY, zZ]
    refine take_skip 5 (some 24) rfl rfl (by kernel_rfl) (by kernel_rfl) (by kernel_rfl) (fun _ _ _ h => h) (by rfl) ?_
    simp only [Act.put, zX, zY, zZ]
    refine take_skip 6 (some 25) rfl rfl (by kernel_rfl) (by kernel_rfl) (by kernel_rfl) (fun _ _ _ h => h) (by rfl) ?_
    simp only [Act.put, zX, zY, zZ]
    refine take_skip 7 (some 26) rfl rfl (by kernel_rfl) (by kernel_rfl) (by kernel_rfl) (fun _ _ _ h => h) (by rfl) ?_
    simp only [Act.put, zX, zY, zZ]
    refine take_skip 8 (some 27) rfl rfl (by kernel_rfl) (by kernel_rfl) (by kernel_rfl) (fun _ _ _ h => h) (by rfl) ?_
    simp only [Act.put, zX, zY, zZ]
    refine take_skip 9 (some 28) rfl rfl (by kernel_rfl) (by kernel_rfl) (by kernel_rfl) (fun _ _ _ h => h) (by rfl) ?_
    simp only [Act.put, zX, zY, zZ]
    refine take_skip 10 (some 29) rfl rfl (by kernel_rfl) (by kernel_rfl) (by kernel_rfl) (fun _ _ _ h => h) (by rfl) ?_
    simp only [Act.put, zX, zY, zZ]
    refine take_skip 11 (some 30) rfl rfl (by kernel_rfl) (by kernel_rfl) (by kernel_rfl) (fun _ _ _ h => h) (by rfl) ?_
    simp only [Act.put, zX, zY, zZ]
    refine take_skip 12 (some 31) rfl rfl (by kernel_rfl) (by kernel_rfl) (by kernel_rfl) (fun _ _ _ h => h) (by rfl) ?_
    simp only [Act.put, zX, zY, zZ]
    refine take_skip 13 (some 32) rfl rfl (by kernel_rfl) (by kernel_rfl) (by kernel_rfl) (fun _ _ _ h => h) (by rfl) ?_
    simp only [Act.put, zX, zY, zZ]
    refine take_skip 14 (some 33) rfl rfl (by kernel_rfl) (by kernel_rfl) (by kernel_rfl) (fun _ _ _ h => h) (by rfl) ?_
    simp only [Act.put, zX, zY, zZ]
    refine take_skip 15 (some 34) rfl rfl (by kernel_rfl) (by kernel_rfl) (by kernel_rfl) (fun _ _ _ h => h) (by rfl) ?_
    simp only [Act.put, zX, zY, zZ]
    refine take_skip 16 (some 35) rfl rfl (by kernel_rfl) (by kernel_rfl) (by kernel_rfl) (fun _ _ _ h => h) (by rfl) ?_
    simp only [Act.put, zX, zY, zZ]
    refine take_skip 17 (some 36) rfl rfl (by kernel_rfl) (by kernel_rfl) (by kernel_rfl) (fun _ _ _ h => h) (by rfl) ?_
    simp only [Act.put, zX, zY, zZ]
    refine take_skip 18 (some 37) rfl rfl (by kernel_rfl) (by kernel_rfl) (by kernel_rfl) (fun _ _ _ h => h) (by rfl) ?_
    simp only [Act.put, zX, zY, zZ]
    refine take_skip 19 (some 38) rfl rfl (by kernel_rfl) (by kernel_rfl) (by kernel_rfl) (fun _ _ _ h => h) (by rfl) ?_
    simp only [Act.put, zX, zY, zZ]
    refine take_skip 20 (some 39) rfl rfl (by kernel_rfl) (by kernel_rfl) (by kernel_rfl) (fun _ _ _ h => h) (by rfl) ?_
    simp only [Act.put, zX, zY, zZ]
    refine take_val 21 (some 40) (.bool false) rfl rfl (by kernel_rfl) (by kernel_rfl) (by kernel_rfl) (fun _ _ _ h => h) (by rfl) (fun w => by go_simp) ?_
    simp only [Act.put, zX, zY, zZ]
    refine wpAnyH_done (by kernel_rfl) ?_ _
    go_wp2
    go_roundw
    case rel =>
     refine ⟨t + 1, by omega, by go_num, fun t' h' => ?_, HB.out.drew.trans (b1.mono hsz)⟩
     rcases Nat.lt_or_ge t' t with h | h
     ·exact HC.out t' h
     ·obtain rfl : t' = t := by omega
      exact HN.out
    case measure => simp [intOf]; omega
   ·have hhb := (hasB_iff _ _).1 hh
    unfold endOf at hhb
    simp only at hhb
    obtain ⟨m, hm⟩ : ∃ m : Nat, p.off + (t : Int) - q.off = (m : Int) := ⟨(p.off + t - q.off).toNat, by omega⟩
    have hmi : (m : Int) < (ys.length : Int) := by omega
    have hm0 : (0 : Int) ≤ (m : Int) := by omega
    have htc : p.off + (t : Int) - p.off = (t : Int) := by omega
    obtain ⟨z, hz⟩ := get_of_lt hlt
    obtain ⟨y, hy⟩ := get_of_lt (show m < ys.length by omega)
    obtain ⟨-, h0 | ⟨ba, oa, rfl, hba, hca⟩⟩ := HRp.out
    ·omega
    obtain ⟨-, h0 | ⟨bb, ob, rfl, hbb, hcb⟩⟩ := HRq.out
    ·omega
    have cz : wr.cell? ⟨ba, oa + t, none⟩ = some (.int .u8 z) := by
     rw [B0.out.cell (p := ⟨ba, oa + t, none⟩) hba, hca t hlt]
     simp [List.getD, hz]
    have cy : wr.cell? ⟨bb, ob + m, none⟩ = some (.int .u8 y) := by
     rw [B0.out.cell (p := ⟨bb, ob + m, none⟩) hbb, hcb m (by omega)]
     simp [List.getD, hy]
    have hba' : ba < wr.heap.size := by omega
    have hbb' : bb < wr.heap.size := by omega
    have KH : Hid (∀ W : World, Calls Tryz.prog 103 #[.agg #[.int .i64 q.src, .int .i64 q.dst, .int .i64 q.kind, .int .i64 q.id, .int .i64 q.hops, .bool q.whole, .int .i64 q.off, .bool q.more, .slice (some ⟨bb, ob, none⟩) ys.length d], .int .i64 (p.off + t)] W fun e w' => e = .returned (.bool true) ∧ Below W.heap.size W w') := fun W => by
     have h := l3Has_any q (some ⟨bb, ob, none⟩) ys d (p.off + t) W hq0 hq1 hq
     rw [hh] at h
     exact h
    have HZ : Hid (clashAt (p, zs) (q, ys) t = (z != y)) := (show clashAt (p, zs) (q, ys) t = (z != y) by
     unfold clashAt
     simp only [hh, Bool.true_and]
     rw [byteAt_of (x := (p, zs)) hz, byteAt_at (x := (q, ys)) hm hy])
    clear hh hca hcb hz hy
    have hwt : IntKind.i64.wrap (t : Int) = (t : Int) := by rw [IntKind.wrap_i64]; omega
    have hwm : IntKind.i64.wrap (m : Int) = (m : Int) := by rw [IntKind.wrap_i64]; omega
    by_cases hzy : z = y
    ·have hzb : (z != y) = false := by simp [hzy]
     have HN : Hid (clashAt (p, zs) (q, ys) t = false) := (show _ = _ by rw [HZ.out, hzb])
     clear hzy
     go_wp2
     go_region_held3 (fun w' => w'.cell? ⟨w.heap.size + 1, 0, none⟩ = some (.int .i64 q.src) ∧ w'.cell? ⟨w.heap.size + 1, 1, none⟩ = some (.int .i64 q.dst) ∧ w'.cell? ⟨w.heap.size + 1, 2, none⟩ = some (.int .i64 q.kind) ∧ w'.cell? ⟨w.heap.size + 1, 3, none⟩ = some (.int .i64 q.id) ∧ w'.cell? ⟨w.heap.size + 1, 4, none⟩ = some (.int .i64 q.hops) ∧ w'.cell? ⟨w.heap.size + 1, 5, none⟩ = some (.bool q.whole) ∧ w'.cell? ⟨w.heap.size + 1, 6, none⟩ = some (.int .i64 q.off) ∧ w'.cell? ⟨w.heap.size + 1, 7, none⟩ = some (.bool q.more) ∧ w'.cell? ⟨w.heap.size + 1, 8, none⟩ = some (.slice (some ⟨bb, ob, none⟩) ys.length d) ∧ w'.cell? ⟨w.heap.size, 6, none⟩ = some (.int .i64 p.off) ∧ w'.cell? ⟨w.heap.size, 8, none⟩ = some (.slice (some ⟨ba, oa, none⟩) zs.length c) ∧ w'.cell? ⟨ba, oa + t, none⟩ = some (.int .u8 z) ∧ w'.cell? ⟨bb, ob + m, none⟩ = some (.int .u8 y)) (go_keep)
      (first
       | (go_at_call 103; with_reducible refine (KH.out _).mono ?_; rintro e w1 ⟨rfl, b1⟩; have hc1 : ∀ b o, b < wr.heap.size → w1.cell? ⟨b, o, none⟩ = _ := fun b o h => b1.cell (p := ⟨b, o, none⟩) (by simpa using h)))
     go_wp2
     go_roundw
     case rel =>
      refine ⟨t + 1, by omega, by go_num, fun t' h' => ?_, HB.out.drew.trans (b1.mono hsz)⟩
      rcases Nat.lt_or_ge t' t with h | h
      ·exact HC.out t' h
      ·obtain rfl : t' = t := by omega
       exact HN.out
     case measure => simp [intOf]; omega
    ·have hzb : (z != y) = true := by simp [hzy]
     have HN : Hid (againstB (p, zs) (q, ys) = true) := against_clash hlt (by rw [HZ.out, hzb])
     clear hzy
     go_wp2
     go_region_held3 (fun w' => w'.cell? ⟨w.heap.size + 1, 0, none⟩ = some (.int .i64 q.src) ∧ w'.cell? ⟨w.heap.size + 1, 1, none⟩ = some (.int .i64 q.dst) ∧ w'.cell? ⟨w.heap.size + 1, 2, none⟩ = some (.int .i64 q.kind) ∧ w'.cell? ⟨w.heap.size + 1, 3, none⟩ = some (.int .i64 q.id) ∧ w'.cell? ⟨w.heap.size + 1, 4, none⟩ = some (.int .i64 q.hops) ∧ w'.cell? ⟨w.heap.size + 1, 5, none⟩ = some (.bool q.whole) ∧ w'.cell? ⟨w.heap.size + 1, 6, none⟩ = some (.int .i64 q.off) ∧ w'.cell? ⟨w.heap.size + 1, 7, none⟩ = some (.bool q.more) ∧ w'.cell? ⟨w.heap.size + 1, 8, none⟩ = some (.slice (some ⟨bb, ob, none⟩) ys.length d) ∧ w'.cell? ⟨w.heap.size, 6, none⟩ = some (.int .i64 p.off) ∧ w'.cell? ⟨w.heap.size, 8, none⟩ = some (.slice (some ⟨ba, oa, none⟩) zs.length c) ∧ w'.cell? ⟨ba, oa + t, none⟩ = some (.int .u8 z) ∧ w'.cell? ⟨bb, ob + m, none⟩ = some (.int .u8 y)) (go_keep)
      (first
       | (go_at_call 103; with_reducible refine (KH.out _).mono ?_; rintro e w1 ⟨rfl, b1⟩; have hc1 : ∀ b o, b < wr.heap.size → w1.cell? ⟨b, o, none⟩ = _ := fun b o h => b1.cell (p := ⟨b, o, none⟩) (by simpa using h)))
     go_wp2
     go_ret
     exact ⟨ret_bool HN.out.symm, B0.out.drew.trans (b1.mono (show w.heap.size ≤ wr.heap.size by omega))⟩
  ·obtain rfl : t = zs.length := by omega
   have HE : Hid (againstB (p, zs) (q, ys) = endBad (p, zs) (q, ys)) := against_calm HC.out
   have HD : Hid (endBad (p, zs) (q, ys) = (!p.more && (decide (p.off + (zs.length : Int) < q.off + (ys.length : Int)) || (!q.more && (q.off + (ys.length : Int) != p.off + (zs.length : Int)))))) := rfl
   have hi : ¬ (p.off + (zs.length : Int) < p.off + (zs.length : Int)) := by omega
   cases hpm' : p.more
   ·rw [hpm'] at c7
    cases hqm' : q.more
    all_goals
     rw [hqm'] at k7
     go_wp2
     all_goals
      go_ret
      refine ⟨ret_bool ?_, B0.out⟩
      rw [HE.out, HD.out, hpm', hqm']
      first | (simp_all; done) | (simp_all; omega)
   ·rw [hpm'] at c7
    go_wp2
    go_ret
    refine ⟨ret_bool ?_, B0.out⟩
    rw [HE.out, HD.out, hpm']
    rfl
def Still (xs : List RV) (i : Nat) : Prop := ∀ (a b : Nat) x y, a < i → xs[a]? = some x → xs[b]? = some y → againstB x.key y.key = false
def StillAt (xs : List RV) (i j : Nat) : Prop := ∀ (b : Nat) x y, b < j → xs[i]? = some x → xs[b]? = some y → againstB x.key y.key = false
theorem lt_of_get {α : Type} {xs : List α} {k : Nat} {x : α} (h : xs[k]? = some x) : k < xs.length := by
 rcases Nat.lt_or_ge k xs.length with h' | h'
 ·exact h'
 ·rw [List.getElem?_eq_none h'] at h; cases h
theorem Still.succ {xs : List RV} {i : Nat} (h : Still xs i) (h2 : StillAt xs i xs.length) : Still xs (i + 1) := by
 intro a b x y ha hx hy
 rcases Nat.lt_or_ge a i with h' | h'
 ·exact h a b x y h' hx hy
 ·obtain rfl : a = i := by omega
  exact h2 b x y (lt_of_get hy) hx hy
theorem StillAt.succ {xs : List RV} {i j : Nat} {x y : RV} (h : StillAt xs i j) (hx : xs[i]? = some x) (hy : xs[j]? = some y) (hd : againstB x.key y.key = false) : StillAt xs i (j + 1) := by
 intro b x' y' hb hx' hy'
 rcases Nat.lt_or_ge b j with h' | h'
 ·exact h b x' y' h' hx' hy'
 ·obtain rfl : b = j := by omega
  rw [hx] at hx'
  rw [hy] at hy'
  obtain rfl := Option.some.inj hx'
  obtain rfl := Option.some.inj hy'
  exact hd
theorem still_all {xs : List RV} (h : Still xs xs.length) : disagreeL (xs.map RV.key) = false := by
 rw [← Bool.not_eq_true, disagreeL_iff]
 rintro ⟨x, hx, y, hy, hd⟩
 obtain ⟨x', hx', rfl⟩ := List.mem_map.1 hx
 obtain ⟨y', hy', rfl⟩ := List.mem_map.1 hy
 obtain ⟨i, hi⟩ := List.getElem?_of_mem hx'
 obtain ⟨j, hj⟩ := List.getElem?_of_mem hy'
 rw [h i j x' y' (lt_of_get hi) hi hj] at hd
 cases hd
theorem not_still {xs : List RV} {i j : Nat} {x y : RV} (hx : xs[i]? = some x) (hy : xs[j]? = some y) (hd : againstB x.key y.key = true) : disagreeL (xs.map RV.key) = true :=
 (disagreeL_iff _).2 ⟨x.key, List.mem_map_of_mem (List.mem_of_getElem? hx), y.key, List.mem_map_of_mem (List.mem_of_getElem? hy), hd⟩
set_option maxHeartbeats 6400000 in
theorem l3Disagree_any (g cl : Nat) (xs : List RV) (w : World) (hL : RL w g xs) (hm : xs.length ≤ 40) (ho : ∀ x ∈ xs, okB x.p x.zs.length = true) :
  Calls Tryz.prog 81 #[.slice (some ⟨g, 0, none⟩) xs.length cl] w fun e w' => e = .returned (.bool (disagreeL (xs.map RV.key))) ∧ Below w.heap.size w w' := by
 have HL : Hid (RL w g xs) := hL
 have HO : Hid (∀ x ∈ xs, okB x.p x.zs.length = true) := ho
 clear hL ho
 go_enter Tryz.func81, Tryz.ntmps81
 go_wp2
 go_loopw [3] (fun i wr => ∃ k : Nat, k ≤ xs.length ∧ i = .int .i64 k ∧ Hid (Still xs k) ∧ Hid (Below w.heap.size w wr)) (fun i _ => xs.length - (intOf i).toNat)
 case atStart => exact ⟨0, by omega, rfl, fun a b x y h => by omega, Below.refl _ _⟩
 case round =>
  obtain ⟨k, hk, rfl, HC, HB⟩ := hrel
  obtain ⟨ws, rfl⟩ : ∃ ws, ws = wr := ⟨_, rfl⟩
  by_cases hlt : k < xs.length
  ·have hi : (k : Int) < (xs.length : Int) := by omega
   obtain ⟨x, hx⟩ := get_of_lt hlt
   have HX : Hid (xs[k]? = some x) := hx
   clear hx
   go_wp2
   go_loopw [4] (fun j wq => ∃ m : Nat, m ≤ xs.length ∧ j = .int .i64 m ∧ Hid (StillAt xs k m) ∧ Hid (Below w.heap.size w wq)) (fun j _ => xs.length - (intOf j).toNat)
   case atStart => exact ⟨0, by omega, rfl, fun b x y h => by omega, HB.out⟩
   case round =>
    obtain ⟨m, hmk, rfl, HM, HQ⟩ := hrel
    have hsz := HQ.out.size
    by_cases hmlt : m < xs.length
    ·have hmi : (m : Int) < (xs.length : Int) := by omega
     obtain ⟨y, hy⟩ := get_of_lt hmlt
     have HY : Hid (xs[m]? = some y) := hy
     clear hy
     have Lr := HL.out.below HQ.out
     have hgr := Lr.lt
     have bx := ok_bounds (HO.out x (List.mem_of_getElem? HX.out))
     have by_ := ok_bounds (HO.out y (List.mem_of_getElem? HY.out))
     have RX : Hid (ROk wr x) := Lr.each x (List.mem_of_getElem? HX.out)
     have RY : Hid (ROk wr y) := Lr.each y (List.mem_of_getElem? HY.out)
     have KA : Hid (∀ W : World, Below wr.heap.size wr W → Calls Tryz.prog 102 #[.agg #[.int .i64 x.p.src, .int .i64 x.p.dst, .int .i64 x.p.kind, .int .i64 x.p.id, .int .i64 x.p.hops, .bool x.p.whole, .int .i64 x.p.off, .bool x.p.more, .slice x.a x.zs.length x.c], .agg #[.int .i64 y.p.src, .int .i64 y.p.dst, .int .i64 y.p.kind, .int .i64 y.p.id, .int .i64 y.p.hops, .bool y.p.whole, .int .i64 y.p.off, .bool y.p.more, .slice y.a y.zs.length y.c]] W fun e w' => e = .returned (.bool (againstB x.key y.key)) ∧ Below W.heap.size W w') := fun W hW => l3Against_any x.p y.p x.a y.a x.zs y.zs x.c y.c W bx.1 bx.2.1 by_.1 by_.2.1 (RX.out.below hW) (RY.out.below hW)
     obtain ⟨c0, c1, c2, c3, c4, c5, c6, c7, c8⟩ := Lr.elem k x HX.out
     obtain ⟨k0, k1, k2, k3, k4, k5, k6, k7, k8⟩ := Lr.elem m y HY.out
     clear Lr
     cases hd : againstB x.key y.key
     ·rw [hd] at KA
      have HD : Hid (againstB x.key y.key = false) := hd
      clear hd
      go_wp2
      go_region_held3 (fun w' => w'.cell? ⟨g, k * 9, none⟩ = some (.int .i64 x.p.src) ∧ w'.cell? ⟨g, k * 9 + 1, none⟩ = some (.int .i64 x.p.dst) ∧ w'.cell? ⟨g, k * 9 + 2, none⟩ = some (.int .i64 x.p.kind) ∧ w'.cell? ⟨g, k * 9 + 3, none⟩ = some (.int .i64 x.p.id) ∧ w'.cell? ⟨g, k * 9 + 4, none⟩ = some (.int .i64 x.p.hops) ∧ w'.cell? ⟨g, k * 9 + 5, none⟩ = some (.bool x.p.whole) ∧ w'.cell? ⟨g, k * 9 + 6, none⟩ = some (.int .i64 x.p.off) ∧ w'.cell? ⟨g, k * 9 + 7, none⟩ = some (.bool x.p.more) ∧ w'.cell? ⟨g, k * 9 + 8, none⟩ = some (.slice x.a x.zs.length x.c) ∧ w'.cell? ⟨g, m * 9, none⟩ = some (.int .i64 y.p.src) ∧ w'.cell? ⟨g, m * 9 + 1, none⟩ = some (.int .i64 y.p.dst) ∧ w'.cell? ⟨g, m * 9 + 2, none⟩ = some (.int .i64 y.p.kind) ∧ w'.cell? ⟨g, m * 9 + 3, none⟩ = some (.int .i64 y.p.id) ∧ w'.cell? ⟨g, m * 9 + 4, none⟩ = some (.int .i64 y.p.hops) ∧ w'.cell? ⟨g, m * 9 + 5, none⟩ = some (.bool y.p.whole) ∧ w'.cell? ⟨g, m * 9 + 6, none⟩ = some (.int .i64 y.p.off) ∧ w'.cell? ⟨g, m * 9 + 7, none⟩ = some (.bool y.p.more) ∧ w'.cell? ⟨g, m * 9 + 8, none⟩ = some (.slice y.a y.zs.length y.c)) (go_keep)
       (first
        | (go_at_call 102; with_reducible refine (KA.out _ (draw1 _)).mono ?_; rintro e w1 ⟨rfl, b1⟩; have hc1 : ∀ b o, b < wr.heap.size → w1.cell? ⟨b, o, none⟩ = _ := fun b o h => b1.cell (p := ⟨b, o, none⟩) (by simpa using h)))
      go_wp2
      go_roundw
      case rel => exact ⟨m + 1, by omega, by go_num, HM.out.succ HX.out HY.out HD.out, HQ.out.drew.trans (b1.mono hsz)⟩
      case measure => simp [intOf]; omega
     ·rw [hd] at KA
      have HD : Hid (disagreeL (xs.map RV.key) = true) := not_still HX.out HY.out hd
      clear hd
      go_wp2
      go_region_held3 (fun w' => w'.cell? ⟨g, k * 9, none⟩ = some (.int .i64 x.p.src) ∧ w'.cell? ⟨g, k * 9 + 1, none⟩ = some (.int .i64 x.p.dst) ∧ w'.cell? ⟨g, k * 9 + 2, none⟩ = some (.int .i64 x.p.kind) ∧ w'.cell? ⟨g, k * 9 + 3, none⟩ = some (.int .i64 x.p.id) ∧ w'.cell? ⟨g, k * 9 + 4, none⟩ = some (.int .i64 x.p.hops) ∧ w'.cell? ⟨g, k * 9 + 5, none⟩ = some (.bool x.p.whole) ∧ w'.cell? ⟨g, k * 9 + 6, none⟩ = some (.int .i64 x.p.off) ∧ w'.cell? ⟨g, k * 9 + 7, none⟩ = some (.bool x.p.more) ∧ w'.cell? ⟨g, k * 9 + 8, none⟩ = some (.slice x.a x.zs.length x.c) ∧ w'.cell? ⟨g, m * 9, none⟩ = some (.int .i64 y.p.src) ∧ w'.cell? ⟨g, m * 9 + 1, none⟩ = some (.int .i64 y.p.dst) ∧ w'.cell? ⟨g, m * 9 + 2, none⟩ = some (.int .i64 y.p.kind) ∧ w'.cell? ⟨g, m * 9 + 3, none⟩ = some (.int .i64 y.p.id) ∧ w'.cell? ⟨g, m * 9 + 4, none⟩ = some (.int .i64 y.p.hops) ∧ w'.cell? ⟨g, m * 9 + 5, none⟩ = some (.bool y.p.whole) ∧ w'.cell? ⟨g, m * 9 + 6, none⟩ = some (.int .i64 y.p.off) ∧ w'.cell? ⟨g, m * 9 + 7, none⟩ = some (.bool y.p.more) ∧ w'.cell? ⟨g, m * 9 + 8, none⟩ = some (.slice y.a y.zs.length y.c)) (go_keep)
       (first
        | (go_at_call 102; with_reducible refine (KA.out _ (draw1 _)).mono ?_; rintro e w1 ⟨rfl, b1⟩; have hc1 : ∀ b o, b < wr.heap.size → w1.cell? ⟨b, o, none⟩ = _ := fun b o h => b1.cell (p := ⟨b, o, none⟩) (by simpa using h)))
      go_wp2
      go_ret
      exact ⟨ret_bool HD.out.symm, HQ.out.drew.trans (b1.mono hsz)⟩
    ·obtain rfl : m = xs.length := by omega
     go_wp2
     go_roundw
     case rel => exact ⟨k + 1, by omega, by go_num, HC.out.succ HM.out, HQ.out⟩
     case measure => simp [intOf]; omega
  ·obtain rfl : k = xs.length := by omega
   go_wp2
   go_ret
   exact ⟨ret_bool (still_all HC.out).symm, HB.out⟩
def endI (L : List PB) : Int := match endL L with | some e => e | none => -1
set_option maxHeartbeats 3200000 in
theorem l3End_any (g cl : Nat) (xs : List RV) (w : World) (hL : RL w g xs) (hm : xs.length ≤ 40) (ho : ∀ x ∈ xs, okB x.p x.zs.length = true) :
  Calls Tryz.prog 82 #[.slice (some ⟨g, 0, none⟩) xs.length cl] w fun e w' => e = .returned (.int .i64 (endI (xs.map RV.key))) ∧ Below w.heap.size w w' := by
 have HL : Hid (RL w g xs) := hL
 have HO : Hid (∀ x ∈ xs, okB x.p x.zs.length = true) := ho
 clear hL ho
 go_enter Tryz.func82, Tryz.ntmps82
 go_wp2
 go_loopw [3] (fun i wr => ∃ k : Nat, k ≤ xs.length ∧ i = .int .i64 k ∧ Hid (∀ j x, j < k → xs[j]? = some x → x.p.more = true) ∧ Hid (Below w.heap.size w wr)) (fun i _ => xs.length - (intOf i).toNat)
 case atStart => exact ⟨0, by omega, rfl, fun j x hj => by omega, Below.refl _ _⟩
 case round =>
  obtain ⟨k, hk, rfl, HC, HB⟩ := hrel
  by_cases hlt : k < xs.length
  ·obtain ⟨x, hx⟩ := get_of_lt hlt
   have HX : Hid (xs[k]? = some x) := hx
   have Lr := HL.out.below HB.out
   have hgr := Lr.lt
   have Hk := Lr.elem k x hx
   have hi : (k : Int) < (xs.length : Int) := by omega
   have bx := ok_bounds (HO.out x (List.mem_of_getElem? hx))
   have hp := (Lr.each x (List.mem_of_getElem? hx)).len
   obtain ⟨p, a, c, zs⟩ := x
   obtain ⟨s2, d2, k2, i2, h2, w2, o2, m2⟩ := p
   clear hx Lr
   obtain ⟨c0, c1, c2, c3, c4, c5, c6, c7, c8⟩ := Hk
   obtain ⟨o0, o1, o3⟩ := bx
   cases m2
   ·have HE : Hid (endL (xs.map RV.key) = some (o2 + (zs.length : Int))) := by
     refine endL_at (k := k) (map_get HX.out) rfl fun j y hj hy => ?_
     obtain ⟨z, hz, rfl⟩ := get_key hy
     exact HC.out j z hj hz
    go_wp2
    go_quiet (fail)
    go_wp2
    go_ret
    refine ⟨?_, HB.out.trans (Joins.below_draws _ _ _)⟩
    unfold endI
    rw [HE.out]
    rfl
   ·go_wp2
    go_roundw
    case rel =>
     refine ⟨k + 1, by omega, by go_num, fun j y hj hy => ?_, HB.out⟩
     rcases Nat.lt_or_ge j k with h | h
     ·exact HC.out j y h hy
     ·obtain rfl : j = k := by omega
      rw [HX.out] at hy
      obtain rfl := Option.some.inj hy
      rfl
    case measure => simp [intOf]; omega
  ·obtain rfl : k = xs.length := by omega
   have HE : Hid (endL (xs.map RV.key) = none) := by
    refine endL_none fun j y hy => ?_
    obtain ⟨z, hz, rfl⟩ := get_key hy
    exact HC.out j z (lt_of_get hz) hz
   go_wp2
   go_ret
   refine ⟨?_, HB.out⟩
   unfold endI
   rw [HE.out]
   rfl
def WhoIs (xs : List RV) (at_ r : Int) : Prop := (∃ (i : Nat) (x : RV), r = (i : Int) ∧ xs[i]? = some x ∧ (xs.map RV.key).find? (fun y => hasB y at_) = some x.key ∧ hasB x.key at_ = true) ∨ (r = -1 ∧ (xs.map RV.key).find? (fun y => hasB y at_) = none)
theorem find_at {L : List PB} {f : PB → Bool} {k : Nat} {x : PB} (hx : L[k]? = some x) (hf : f x = true) (h : ∀ j y, j < k → L[j]? = some y → f y = false) : L.find? f = some x := by
 induction L generalizing k with
 | nil => simp at hx
 | cons z r ih =>
  match k with
  | 0 =>
   simp at hx
   subst hx
   simp [List.find?, hf]
  | k + 1 =>
   have hz := h 0 z (by omega) rfl
   simp at hx
   simp only [List.find?, hz]
   exact ih hx (fun j y hj hy => h (j + 1) y (by omega) (by simpa using hy))
set_option maxHeartbeats 3200000 in
theorem l3Who_any (g cl : Nat) (xs : List RV) (at_ : Int) (w : World) (hL : RL w g xs) (hm : xs.length ≤ 40) (ho : ∀ x ∈ xs, okB x.p x.zs.length = true) :
  Calls Tryz.prog 84 #[.slice (some ⟨g, 0, none⟩) xs.length cl, .int .i64 at_] w fun e w' => ∃ r, e = .returned (.int .i64 r) ∧ WhoIs xs at_ r ∧ Below w.heap.size w w' := by
 have HL : Hid (RL w g xs) := hL
 have HO : Hid (∀ x ∈ xs, okB x.p x.zs.length = true) := ho
 clear hL ho
 go_enter Tryz.func84, Tryz.ntmps84
 go_wp2
 go_loopw [5] (fun i wr => ∃ k : Nat, k ≤ xs.length ∧ i = .int .i64 k ∧ Hid (∀ j x, j < k → xs[j]? = some x → hasB x.key at_ = false) ∧ Hid (Below w.heap.size w wr)) (fun i _ => xs.length - (intOf i).toNat)
 case atStart => exact ⟨0, by omega, rfl, fun j x hj => by omega, Below.refl _ _⟩
 case round =>
  obtain ⟨k, hk, rfl, HC, HB⟩ := hrel
  have hsz := HB.out.size
  by_cases hlt : k < xs.length
  ·obtain ⟨x, hx⟩ := get_of_lt hlt
   have HX : Hid (xs[k]? = some x) := hx
   have Lr := HL.out.below HB.out
   have hgr := Lr.lt
   have Hk := Lr.elem k x hx
   have hi : (k : Int) < (xs.length : Int) := by omega
   have bx := ok_bounds (HO.out x (List.mem_of_getElem? hx))
   have hp := (Lr.each x (List.mem_of_getElem? hx)).len
   clear hx Lr
   obtain ⟨c0, c1, c2, c3, c4, c5, c6, c7, c8⟩ := Hk
   have KH : Hid (∀ W : World, Calls Tryz.prog 103 #[.agg #[.int .i64 x.p.src, .int .i64 x.p.dst, .int .i64 x.p.kind, .int .i64 x.p.id, .int .i64 x.p.hops, .bool x.p.whole, .int .i64 x.p.off, .bool x.p.more, .slice x.a x.zs.length x.c], .int .i64 at_] W fun e w' => e = .returned (.bool (hasB x.key at_)) ∧ Below W.heap.size W w') := fun W => l3Has_any x.p x.a x.zs x.c at_ W bx.1 bx.2.1 hp
   cases hh : hasB x.key at_
   ·rw [hh] at KH
    have HH : Hid (hasB x.key at_ = false) := hh
    clear hh
    go_wp2_with (go_at_call 103; with_reducible refine (KH.out _).mono ?_; rintro e w1 ⟨rfl, b1⟩)
    go_roundw
    case rel =>
     refine ⟨k + 1, by omega, by go_num, fun j y hj hy => ?_, HB.out.trans (b1.mono hsz)⟩
     rcases Nat.lt_or_ge j k with h | h
     ·exact HC.out j y h hy
     ·obtain rfl : j = k := by omega
      rw [HX.out] at hy
      obtain rfl := Option.some.inj hy
      exact HH.out
    case measure => simp [intOf]; omega
   ·rw [hh] at KH
    have HF : Hid ((xs.map RV.key).find? (fun y => hasB y at_) = some x.key) := find_at (map_get HX.out) hh fun j y hj hy => by
     obtain ⟨z, hz, rfl⟩ := get_key hy
     exact HC.out j z hj hz
    have HH : Hid (hasB x.key at_ = true) := hh
    clear hh
    go_wp2_with (go_at_call 103; with_reducible refine (KH.out _).mono ?_; rintro e w1 ⟨rfl, b1⟩)
    go_ret
    exact ⟨k, rfl, Or.inl ⟨k, x, rfl, HX.out, HF.out, HH.out⟩, HB.out.trans (b1.mono hsz)⟩
  ·obtain rfl : k = xs.length := by omega
   go_wp2
   go_ret
   refine ⟨-1, rfl, Or.inr ⟨rfl, List.find?_eq_none.2 fun y hy => ?_⟩, HB.out⟩
   obtain ⟨x, hx, rfl⟩ := List.mem_map.1 hy
   obtain ⟨j, hj⟩ := List.getElem?_of_mem hx
   rw [HC.out j x (lt_of_get hj) hj]
   simp
end Go.Proofs.YtjbkgmbakjnlhaaGreatDoor
