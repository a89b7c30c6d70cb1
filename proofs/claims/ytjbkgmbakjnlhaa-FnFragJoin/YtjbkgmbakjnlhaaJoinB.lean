/- Whether two pieces differ in a byte: the program's way. -/
import Derived.Test.YtjbkgmbakjnlhaaJoinA
namespace Go.Proofs.Ytjbkgmbakjnlhaa
open Go.RowKit

set_option maxHeartbeats 6400000 in
theorem differ_any (p q : Pk) (a b : Option Addr) (zs ys : List Int) (c d : Nat) (w : World) (hp0 : 0 ≤ p.off) (hp1 : p.off ≤ 128) (hq0 : 0 ≤ q.off) (hq1 : q.off ≤ 128) (hx : ROk w ⟨p, a, c, zs⟩) (hy : ROk w ⟨q, b, d, ys⟩) :
    Calls Try.prog 69 #[p.val (.slice a zs.length c), q.val (.slice b ys.length d)] w fun e w' => e = .returned (.bool (differB (p, zs) (q, ys))) ∧ Below w.heap.size w w' := by
  obtain ⟨hpr, hp, hpc, hpm, -⟩ := hx
  obtain ⟨hqr, hq, hqc, hqm, -⟩ := hy
  simp only at hpr hp hpc hpm hqr hq hqc hqm
  obtain ⟨f, hf⟩ : ∃ f, (if p.off < q.off then q.off else p.off) = f := ⟨_, rfl⟩
  obtain ⟨t, ht⟩ : ∃ t, (if q.off + (ys.length : Int) < p.off + (zs.length : Int) then q.off + (ys.length : Int) else p.off + (zs.length : Int)) = t := ⟨_, rfl⟩
  have F : fromI (p, zs) (q, ys) = f := hf
  have T : toI (p, zs) (q, ys) = t := ht
  have f1 : p.off ≤ f := by rw [← hf]; split <;> omega
  have f2 : q.off ≤ f := by rw [← hf]; split <;> omega
  have f3 : f ≤ 128 := by rw [← hf]; split <;> omega
  have t1 : t ≤ p.off + zs.length := by rw [← ht]; split <;> omega
  have t2 : t ≤ q.off + ys.length := by rw [← ht]; split <;> omega
  have t3 : 0 ≤ t := by rw [← ht]; split <;> omega
  have HRp : Hid (RdB w a zs.length zs) := hpr
  have HRq : Hid (RdB w b ys.length ys) := hqr
  have HF : Hid (fromI (p, zs) (q, ys) = f ∧ toI (p, zs) (q, ys) = t) := ⟨F, T⟩
  clear hpr hqr F T
  unfold Pk.val
  go_enter Try.func69, Try.ntmps69
  go_upto_region 1 with fail
  go_cut [5, 6] (fun x y wx => x = .int .i64 f ∧ y = .int .i64 t ∧ Hid (Below (w.heap.size + 2) ((w.alloc (.cells (pcells p (.slice a zs.length c)) 24)).alloc (.cells (pcells q (.slice b ys.length d)) 24)) wx))
  case first =>
    go_region_held3 (fun w' => w.heap.size + 2 ≤ w'.heap.size ∧ w'.cell? ⟨w.heap.size, 0, none⟩ = some (.int .i64 p.src) ∧ w'.cell? ⟨w.heap.size, 1, none⟩ = some (.int .i64 p.dst) ∧ w'.cell? ⟨w.heap.size, 2, none⟩ = some (.int .i64 p.kind) ∧ w'.cell? ⟨w.heap.size, 3, none⟩ = some (.int .i64 p.id) ∧ w'.cell? ⟨w.heap.size, 4, none⟩ = some (.int .i64 p.hops) ∧ w'.cell? ⟨w.heap.size, 5, none⟩ = some (.bool p.whole) ∧ w'.cell? ⟨w.heap.size, 6, none⟩ = some (.int .i64 p.off) ∧ w'.cell? ⟨w.heap.size, 7, none⟩ = some (.bool p.more) ∧ w'.cell? ⟨w.heap.size, 8, none⟩ = some (.slice a zs.length c) ∧ w'.cell? ⟨w.heap.size + 1, 0, none⟩ = some (.int .i64 q.src) ∧ w'.cell? ⟨w.heap.size + 1, 1, none⟩ = some (.int .i64 q.dst) ∧ w'.cell? ⟨w.heap.size + 1, 2, none⟩ = some (.int .i64 q.kind) ∧ w'.cell? ⟨w.heap.size + 1, 3, none⟩ = some (.int .i64 q.id) ∧ w'.cell? ⟨w.heap.size + 1, 4, none⟩ = some (.int .i64 q.hops) ∧ w'.cell? ⟨w.heap.size + 1, 5, none⟩ = some (.bool q.whole) ∧ w'.cell? ⟨w.heap.size + 1, 6, none⟩ = some (.int .i64 q.off) ∧ w'.cell? ⟨w.heap.size + 1, 7, none⟩ = some (.bool q.more) ∧ w'.cell? ⟨w.heap.size + 1, 8, none⟩ = some (.slice b ys.length d)) (go_keep)
      (first
        | (go_at_call 71; refine (endOf_any p a zs.length c _ hp0 hp1 hp).mono ?_; rintro e w3 ⟨rfl, b3⟩; have hc3 : ∀ b o, b < w.heap.size + 2 → w3.cell? ⟨b, o, none⟩ = _ := fun b o h => b3.cell (p := ⟨b, o, none⟩) (by simpa using h); have hs3 : w.heap.size + 2 ≤ w3.heap.size := Nat.le_trans (by simp) b3.size)
        | (go_at_call 71; refine (endOf_any q b ys.length d _ hq0 hq1 hq).mono ?_; rintro e w4 ⟨rfl, b4⟩; have hc4 : ∀ b o, b < w.heap.size + 2 → w4.cell? ⟨b, o, none⟩ = _ := fun b o h => b4.cell (p := ⟨b, o, none⟩) (Nat.lt_of_lt_of_le h hs3); have hs4 : w.heap.size + 2 ≤ w4.heap.size := Nat.le_trans hs3 b4.size))
    all_goals
      go_wp2
      go_meet
      case rel =>
        refine ⟨rfl, rfl, ?_⟩
        exact (((draw1 _).trans b3).mono (by simp)).trans (b4.mono hs3)
  case rest =>
    obtain ⟨rfl, rfl, B4⟩ := hcut
    have X4 : Boxed wc w.heap.size p (.slice a zs.length c) := ((Boxed.new w p (.slice a zs.length c) 24).below (Joins.below_alloc1 _ _)).upto B4.out (by omega)
    have Y4 : Boxed wc (w.heap.size + 1) q (.slice b ys.length d) := (Boxed.newAt (w.alloc _) (w.heap.size + 1) q (.slice b ys.length d) 24 (by simp)).upto B4.out (by omega)
    have HB : Hid (Below w.heap.size w wc) := (Joins.below_alloc2 _ _ _).trans (B4.out.mono (by omega))
    clear B4 hf ht
    obtain ⟨l0, c0, c1, c2, c3, c4, c5, c6, c7, c8⟩ := id X4
    obtain ⟨l1, k0, k1, k2, k3, k4, k5, k6, k7, k8⟩ := id Y4
    by_cases hft : f < t
    · obtain ⟨m1, hm1⟩ : ∃ m : Nat, f - p.off = (m : Int) := ⟨(f - p.off).toNat, by omega⟩
      obtain ⟨m2, hm2⟩ : ∃ m : Nat, f - q.off = (m : Int) := ⟨(f - q.off).toNat, by omega⟩
      obtain ⟨n, hn⟩ : ∃ n : Nat, t - f = (n : Int) := ⟨(t - f).toNat, by omega⟩
      have hn1 : t - p.off = ((m1 + n : Nat) : Int) := by omega
      have hn2 : t - q.off = ((m2 + n : Nat) : Int) := by omega
      obtain ⟨-, h0 | ⟨ba, oa, rfl, hba, hca⟩⟩ := HRp.out
      · omega
      obtain ⟨-, h0 | ⟨bb, ob, rfl, hbb, hcb⟩⟩ := HRq.out
      · omega
      have HD : Hid (differB (p, zs) (q, ys) = !((strOfNums ((zs.drop m1).take n)).toList == (strOfNums ((ys.drop m2).take n)).toList)) := by
        show differB (p, zs) (q, ys) = _
        unfold differB cutD
        rw [HF.out.1, HF.out.2]
        simp only [hm1, hm2, hn, Int.toNat_natCast]
        simp [hft]
      have E1 : Hid (∀ W : World, Below w.heap.size w W → ∀ i, i < n → W.cell? ⟨ba, oa + m1 + i, none⟩ = some (.int .u8 (((zs.drop m1).take n).getD i 0))) := fun W hW i hi => by
        rw [hW.cell (p := ⟨ba, oa + m1 + i, none⟩) hba, Nat.add_assoc, hca (m1 + i) (by omega)]
        simp [List.getD, List.getElem?_drop, hi]
      have E2 : Hid (∀ W : World, Below w.heap.size w W → ∀ i, i < n → W.cell? ⟨bb, ob + m2 + i, none⟩ = some (.int .u8 (((ys.drop m2).take n).getD i 0))) := fun W hW i hi => by
        rw [hW.cell (p := ⟨bb, ob + m2 + i, none⟩) hbb, Nat.add_assoc, hcb (m2 + i) (by omega)]
        simp [List.getD, List.getElem?_drop, hi]
      have L1 : ((zs.drop m1).take n).length = n := by simp; omega
      have L2 : ((ys.drop m2).take n).length = n := by simp; omega
      have i1 : (m1 : Int) ≤ ((m1 + n : Nat) : Int) := by omega
      have i2 : ((m1 + n : Nat) : Int) ≤ (c : Int) := by omega
      have i3 : (m2 : Int) ≤ ((m2 + n : Nat) : Int) := by omega
      have i4 : ((m2 + n : Nat) : Int) ≤ (d : Int) := by omega
      have i5 : m1 < c := by omega
      have i6 : m2 < d := by omega
      clear hca hcb hba hbb hn
      go_wp2
      go_quiet ((go_at_call 87; exact Calls.quiet_of_same (equal_any ba (oa + m1) bb (ob + m2) n _ _ _ _ _ L1 L2 (E1.out _ (HB.out.trans (Joins.below_draws _ _ _))) (E2.out _ (HB.out.trans (Joins.below_draws _ _ _))))))
      go_wp2
      go_ret
      exact ⟨ret_bool HD.out.symm, HB.out.trans (Joins.below_draws _ _ _)⟩
    · have HD : Hid (differB (p, zs) (q, ys) = false) := by
        show differB (p, zs) (q, ys) = _
        unfold differB
        rw [HF.out.1, HF.out.2]
        simp [hft]
      go_wp2
      go_ret
      exact ⟨ret_bool HD.out.symm, HB.out⟩
end Go.Proofs.Ytjbkgmbakjnlhaa
