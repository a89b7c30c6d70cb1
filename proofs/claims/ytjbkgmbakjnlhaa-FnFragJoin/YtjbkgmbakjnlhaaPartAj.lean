/- Whether two pieces differ in a byte: the program's way. -/
import Derived.Test.YtjbkgmbakjnlhaaPartAi
import Derived.Test.YtjbkgmbakjnlhaaPartAg
import Derived.Lib.Bytes
namespace Go.Proofs.Ytjbkgmbakjnlhaa
open Go.RowKit

set_option maxHeartbeats 6400000 in
theorem differ_any (p q : Pk) (a b : Option Addr) (zs ys : List Int) (c d : Nat) (w : World) (hp0 : 0 ≤ p.off) (hp1 : p.off ≤ 128) (hq0 : 0 ≤ q.off) (hq1 : q.off ≤ 128) (hx : ROk w ⟨p, a, c, zs⟩) (hy : ROk w ⟨q, b, d, ys⟩) :
    Calls Try.prog 69 #[p.val (.slice a zs.length c), q.val (.slice b ys.length d)] w fun e w' => e = .returned (.bool (differB (p, zs) (q, ys))) ∧ Below w.heap.size w w' := by
  obtain ⟨hpr, hp, hpc, hpm, -⟩ := hx
  obtain ⟨hqr, hq, hqc, hqm, -⟩ := hy
  simp only at hpr hp hpc hpm hqr hq hqc hqm
  obtain ⟨f, hf⟩ : ∃ f, (if p.off < q.off then q.off else p.off) = f := ⟨_, rfl⟩
  obtain ⟨t, ht⟩ : ∃ t, (if q.off + (ys.length : Int) < p.off + (zs.length : Int) then q.off + (ys.length : Int) else p.off + (zs.length : Int)) = t := ⟨_, rfl⟩
  have F : fromI (p, zs) (q, ys) = f := hf
  have T : toI (p, zs) (q, ys) = t := ht
  have f1 : p.off ≤ f := by rw [← hf]; split <;> omega
  have f2 : q.off ≤ f := by rw [← hf]; split <;> omega
  have f3 : f ≤ 128 := by rw [← hf]; split <;> omega
  have t1 : t ≤ p.off + zs.length := by rw [← ht]; split <;> omega
  have t2 : t ≤ q.off + ys.length := by rw [← ht]; split <;> omega
  have t3 : 0 ≤ t := by rw [← ht]; split <;> omega
  have HRp : Hid (RdB w a zs.length zs) := hpr
  have HRq : Hid (RdB w b ys.length ys) := hqr
  have HF : Hid (fromI (p, zs) (q, ys) = f ∧ toI (p, zs) (q, ys) = t) := ⟨F, T⟩
  clear hpr hqr F T
  unfold Pk.val
  go_enter Try.func69, Try.ntmps69
  go_upto_region 1 with fail
  go_cut [5, 6] (fun x y wx => x = .int .i64 f ∧ y = .int .i64 t ∧ Hid (Below (w.heap.size + 2) ((w.alloc (.cells (pcells p (.slice a zs.length c)) 24)).alloc (.cells (pcells q (.slice b ys.length d)) 24)) wx))
  case first =>
    go_region_held3 (fun w' => w.heap.size + 2 ≤ w'.heap.size ∧ w'.cell? ⟨w.heap.size, 0, none⟩ = some (.int .i64 p.src) ∧ w'.cell? ⟨w.heap.size, 1, none⟩ = some (.int .i64 p.dst) ∧ w'.cell? ⟨w.heap.size, 2, none⟩ = some (.int .i64 p.kind) ∧ w'.cell? ⟨w.heap.size, 3, none⟩ = some (.int .i64 p.id) ∧ w'.cell? ⟨w.heap.size, 4, none⟩ = some (.int .i64 p.hops) ∧ w'.cell? ⟨w.heap.size, 5, none⟩ = some (.bool p.whole) ∧ w'.cell? ⟨w.heap.size, 6, none⟩ = some (.int .i64 p.off) ∧ w'.cell? ⟨w.heap.size, 7, none⟩ = some (.bool p.more) ∧ w'.cell? ⟨w.heap.size, 8, none⟩ = some (.slice a zs.length c) ∧ w'.cell? ⟨w.heap.size + 1, 0, none⟩ = some (.int .i64 q.src) ∧ w'.cell? ⟨w.heap.size + 1, 1, none⟩ = some (.int .i64 q.dst) ∧ w'.cell? ⟨w.heap.size + 1, 2, none⟩ = some (.int .i64 q.kind) ∧ w'.cell? ⟨w.heap.size + 1, 3, none⟩ = some (.int .i64 q.id) ∧ w'.cell? ⟨w.heap.size + 1, 4, none⟩ = some (.int .i64 q.hops) ∧ w'.cell? ⟨w.heap.size + 1, 5, none⟩ = some (.bool q.whole) ∧ w'.cell? ⟨w.heap.size + 1, 6, none⟩ = some (.int .i64 q.off) ∧ w'.cell? ⟨w.heap.size + 1, 7, none⟩ = some (.bool q.more) ∧ w'.cell? ⟨w.heap.size + 1, 8, none⟩ = some (.slice b ys.length d)) (go_keep)
      (first
        | (go_at_call 71; refine (endOf_any p a zs.length c _ hp0 hp1 hp).mono ?_; rintro e w3 ⟨rfl, b3⟩; have hc3 : ∀ b o, b < w.heap.size + 2 → w3.cell? ⟨b, o, none⟩ = _ := fun b o h => b3.cell (p := ⟨b, o, none⟩) (by simpa using h); have hs3 : w.heap.size + 2 ≤ w3.heap.size := Nat.le_trans (by simp) b3.size)
        | (go_at_call 71; refine (endOf_any q b ys.length d _ hq0 hq1 hq).mono ?_; rintro e w4 ⟨rfl, b4⟩; have hc4 : ∀ b o, b < w.heap.size + 2 → w4.cell? ⟨b, o, none⟩ = _ := fun b o h => b4.cell (p := ⟨b, o, none⟩) (Nat.lt_of_lt_of_le h hs3); have hs4 : w.heap.size + 2 ≤ w4.heap.size := Nat.le_trans hs3 b4.size))
    all_goals
      go_wp2
      go_meet
      case rel =>
        refine ⟨rfl, rfl, ?_⟩
        exact (((draw1 _).trans b3).mono (by simp)).trans (b4.mono hs3)
  case rest =>
    obtain ⟨rfl, rfl, B4⟩ := hcut
    have X4 : Boxed wc w.heap.size p (.slice a zs.length c) := ((Boxed.new w p (.slice a zs.length c) 24).below (Joins.below_alloc1 _ _)).upto B4.out (by omega)
    have Y4 : Boxed wc (w.heap.size + 1) q (.slice b ys.length d) := (Boxed.newAt (w.alloc _) (w.heap.size + 1) q (.slice b ys.length d) 24 (by simp)).upto B4.out (by omega)
    have HB : Hid (Below w.heap.size w wc) := (Joins.below_alloc2 _ _ _).trans (B4.out.mono (by omega))
    clear B4 hf ht
    obtain ⟨l0, c0, c1, c2, c3, c4, c5, c6, c7, c8⟩ := id X4
    obtain ⟨l1, k0, k1, k2, k3, k4, k5, k6, k7, k8⟩ := id Y4
    by_cases hft : f < t
    · obtain ⟨m1, hm1⟩ : ∃ m : Nat, f - p.off = (m : Int) := ⟨(f - p.off).toNat, by omega⟩
      obtain ⟨m2, hm2⟩ : ∃ m : Nat, f - q.off = (m : Int) := ⟨(f - q.off).toNat, by omega⟩
      obtain ⟨n, hn⟩ : ∃ n : Nat, t - f = (n : Int) := ⟨(t - f).toNat, by omega⟩
      have hn1 : t - p.off = ((m1 + n : Nat) : Int) := by omega
      have hn2 : t - q.off = ((m2 + n : Nat) : Int) := by omega
      obtain ⟨-, h0 | ⟨ba, oa, rfl, hba, hca⟩⟩ := HRp.out
      · omega
      obtain ⟨-, h0 | ⟨bb, ob, rfl, hbb, hcb⟩⟩ := HRq.out
      · omega
      have HD : Hid (differB (p, zs) (q, ys) = !((strOfNums ((zs.drop m1).take n)).toList == (strOfNums ((ys.drop m2).take n)).toList)) := by
        show differB (p, zs) (q, ys) = _
        unfold differB cutD
        rw [HF.out.1, HF.out.2]
        simp only [hm1, hm2, hn, Int.toNat_natCast]
        simp [hft]
      have E1 : Hid (∀ W : World, Below w.heap.size w W → ∀ i, i < n → W.cell? ⟨ba, oa + m1 + i, none⟩ = some (.int .u8 (((zs.drop m1).take n).getD i 0))) := fun W hW i hi => by
        rw [hW.cell (p := ⟨ba, oa + m1 + i, none⟩) hba, Nat.add_assoc, hca (m1 + i) (by omega)]
        simp [List.getD, List.getElem?_drop, hi]
      have E2 : Hid (∀ W : World, Below w.heap.size w W → ∀ i, i < n → W.cell? ⟨bb, ob + m2 + i, none⟩ = some (.int .u8 (((ys.drop m2).take n).getD i 0))) := fun W hW i hi => by
        rw [hW.cell (p := ⟨bb, ob + m2 + i, none⟩) hbb, Nat.add_assoc, hcb (m2 + i) (by omega)]
        simp [List.getD, List.getElem?_drop, hi]
      have L1 : ((zs.drop m1).take n).length = n := by simp; omega
      have L2 : ((ys.drop m2).take n).length = n := by simp; omega
      have i1 : (m1 : Int) ≤ ((m1 + n : Nat) : Int) := by omega
      have i2 : ((m1 + n : Nat) : Int) ≤ (c : Int) := by omega
      have i3 : (m2 : Int) ≤ ((m2 + n : Nat) : Int) := by omega
      have i4 : ((m2 + n : Nat) : Int) ≤ (d : Int) := by omega
      have i5 : m1 < c := by omega
      have i6 : m2 < d := by omega
      clear hca hcb hba hbb hn
      go_wp2
      go_quiet ((go_at_call 87; exact Calls.quiet_of_same (equal_any ba (oa + m1) bb (ob + m2) n _ _ _ _ _ L1 L2 (E1.out _ (HB.out.trans (Joins.below_draws _ _ _))) (E2.out _ (HB.out.trans (Joins.below_draws _ _ _))))))
      go_wp2
      go_ret
      exact ⟨ret_bool HD.out.symm, HB.out.trans (Joins.below_draws _ _ _)⟩
    · have HD : Hid (differB (p, zs) (q, ys) = false) := by
        show differB (p, zs) (q, ys) = _
        unfold differB
        rw [HF.out.1, HF.out.2]
        simp [hft]
      go_wp2
      go_ret
      exact ⟨ret_bool HD.out.symm, HB.out⟩
end Go.Proofs.Ytjbkgmbakjnlhaa

/- Joining hangs on the set of the pieces alone; one more piece. -/
namespace Go.Proofs.Ytjbkgmbakjnlhaa

theorem alikeB_iff (x y : PB) : alikeB x y = true ↔ okB x.1 x.2.length = true ∧ okB y.1 y.2.length = true ∧ x.1.src = y.1.src ∧ x.1.dst = y.1.dst ∧ x.1.kind = y.1.kind ∧ x.1.id = y.1.id := by
  unfold alikeB
  simp only [Bool.and_eq_true, beq_iff_eq]
  constructor
  · rintro ⟨⟨⟨⟨⟨a, b⟩, c⟩, d⟩, e⟩, f⟩; exact ⟨a, b, c, d, e, f⟩
  · rintro ⟨a, b, c, d, e, f⟩; exact ⟨⟨⟨⟨⟨a, b⟩, c⟩, d⟩, e⟩, f⟩
theorem alikeL_iff (L : List PB) : alikeL L = true ↔ L ≠ [] ∧ L.length ≤ 40 ∧ ∀ x ∈ L, ∀ y ∈ L, alikeB x y = true := by
  match L with
  | [] => simp [alikeL]
  | x :: r =>
    unfold alikeL
    rw [Bool.and_eq_true, List.all_eq_true]
    constructor
    · rintro ⟨h1, h2⟩
      refine ⟨by simp, by simpa using h1, fun a ha b hb => ?_⟩
      have p := (alikeB_iff x a).1 (h2 a ha)
      have q := (alikeB_iff x b).1 (h2 b hb)
      exact (alikeB_iff a b).2 ⟨p.2.1, q.2.1, by rw [← p.2.2.1, q.2.2.1], by rw [← p.2.2.2.1, q.2.2.2.1], by rw [← p.2.2.2.2.1, q.2.2.2.2.1], by rw [← p.2.2.2.2.2, q.2.2.2.2.2]⟩
    · rintro ⟨_, h1, h2⟩
      exact ⟨by simpa using h1, fun y hy => h2 x (List.mem_cons_self ..) y hy⟩
theorem disagreeL_iff (L : List PB) : disagreeL L = true ↔ ∃ x ∈ L, ∃ y ∈ L, againstB x y = true := by
  unfold disagreeL
  simp only [List.any_eq_true]
theorem agree_of {L : List PB} (h : disagreeL L = false) {x y : PB} (hx : x ∈ L) (hy : y ∈ L) : againstB x y = false := by
  cases e : againstB x y with
  | false => rfl
  | true =>
    have := (disagreeL_iff L).2 ⟨x, hx, y, hy, e⟩
    rw [h] at this
    cases this
/-- two that end, and don't disagree, end at one place -/
theorem ends_eq {x y : PB} (h : againstB x y = false) (hx : x.1.more = false) (hy : y.1.more = false) : endOf x = endOf y := by
  unfold againstB at h
  rw [Bool.or_eq_false_iff, hx, hy] at h
  have h2 := h.2
  simp at h2
  exact h2.2.symm
theorem bytes_eq {x y : PB} (h : againstB x y = false) {j : Int} (hx : hasB x j = true) (hy : hasB y j = true) : byteAt x j = byteAt y j := by
  unfold againstB at h
  rw [Bool.or_eq_false_iff, List.any_eq_false] at h
  unfold hasB endOf at hx
  simp at hx
  have e : x.1.off + (((j - x.1.off).toNat : Nat) : Int) = j := by omega
  have h1 := h.1 (j - x.1.off).toNat (List.mem_range.2 (by omega))
  rw [e, hy] at h1
  simpa using h1
theorem endL_same {L L' : List PB} (h1 : ∀ y ∈ L, y ∈ L') (h2 : ∀ y ∈ L', y ∈ L) (hd : disagreeL L = false) : endL L = endL L' := by
  unfold endL
  cases e1 : L.find? (fun x => !x.1.more) with
  | none =>
    cases e2 : L'.find? (fun x => !x.1.more) with
    | none => rfl
    | some y =>
      have a := List.mem_of_find?_eq_some e2
      have b := List.find?_some e2
      exact absurd b (by simpa using List.find?_eq_none.1 e1 y (h2 y a))
  | some x =>
    have a := List.mem_of_find?_eq_some e1
    have b : x.1.more = false := by have := List.find?_some e1; simpa using this
    cases e2 : L'.find? (fun x => !x.1.more) with
    | none =>
      have := List.find?_eq_none.1 e2 x (h1 x a)
      simp [b] at this
    | some y =>
      have a' := List.mem_of_find?_eq_some e2
      have b' : y.1.more = false := by have := List.find?_some e2; simpa using this
      simp only [Option.map_some]
      rw [ends_eq (agree_of hd a (h2 y a')) b b']
theorem bytesL_same {L L' : List PB} (h1 : ∀ y ∈ L, y ∈ L') (h2 : ∀ y ∈ L', y ∈ L) (hd : disagreeL L = false) : ∀ n, bytesL L n = bytesL L' n := by
  intro n
  induction n with
  | zero => rfl
  | succ n ih =>
    rw [bytesL, bytesL, ih]
    cases e1 : L.find? (fun x => hasB x n) with
    | none =>
      cases e2 : L'.find? (fun x => hasB x n) with
      | none => rfl
      | some y =>
        have a := List.mem_of_find?_eq_some e2
        have b := List.find?_some e2
        exact absurd b (by simpa using List.find?_eq_none.1 e1 y (h2 y a))
    | some x =>
      have a := List.mem_of_find?_eq_some e1
      have b : hasB x n = true := by have := List.find?_some e1; simpa using this
      cases e2 : L'.find? (fun x => hasB x n) with
      | none =>
        have := List.find?_eq_none.1 e2 x (h1 x a)
        simp [b] at this
      | some y =>
        have a' := List.mem_of_find?_eq_some e2
        have b' : hasB y n = true := by have := List.find?_some e2; simpa using this
        have e := bytes_eq (agree_of hd a (h2 y a')) b b'
        cases bytesL L' n <;> simp [e]
/-- the least of the hops -/
theorem fold_least (L : List PB) (h0 : Int) : L.foldl (fun h y => if y.1.hops < h then y.1.hops else h) h0 ≤ h0 ∧ (∀ y ∈ L, L.foldl (fun h y => if y.1.hops < h then y.1.hops else h) h0 ≤ y.1.hops) ∧ (L.foldl (fun h y => if y.1.hops < h then y.1.hops else h) h0 = h0 ∨ ∃ y ∈ L, L.foldl (fun h y => if y.1.hops < h then y.1.hops else h) h0 = y.1.hops) := by
  induction L generalizing h0 with
  | nil => exact ⟨Int.le_refl _, fun y hy => (List.not_mem_nil hy).elim, Or.inl rfl⟩
  | cons x r ih =>
    rw [List.foldl_cons]
    by_cases hc : x.1.hops < h0
    · rw [if_pos hc]
      obtain ⟨a, b, c⟩ := ih x.1.hops
      refine ⟨by omega, fun y hy => ?_, ?_⟩
      · rcases List.mem_cons.1 hy with rfl | hy
        · exact a
        · exact b y hy
      · rcases c with c | ⟨y, hy, c⟩
        · exact Or.inr ⟨x, List.mem_cons_self .., c⟩
        · exact Or.inr ⟨y, List.mem_cons_of_mem _ hy, c⟩
    · rw [if_neg hc]
      obtain ⟨a, b, c⟩ := ih h0
      refine ⟨a, fun y hy => ?_, ?_⟩
      · rcases List.mem_cons.1 hy with rfl | hy
        · omega
        · exact b y hy
      · rcases c with c | ⟨y, hy, c⟩
        · exact Or.inl c
        · exact Or.inr ⟨y, List.mem_cons_of_mem _ hy, c⟩
theorem fold_mem (x : PB) (r : List PB) : ∃ y ∈ x :: r, (x :: r).foldl (fun h y => if y.1.hops < h then y.1.hops else h) x.1.hops = y.1.hops := by
  rcases (fold_least (x :: r) x.1.hops).2.2 with h | h
  · exact ⟨x, List.mem_cons_self .., h⟩
  · exact h
theorem any_same {L L' : List PB} (h1 : ∀ y ∈ L, y ∈ L') (h2 : ∀ y ∈ L', y ∈ L) (f : PB → Bool) : L.any f = L'.any f := by
  rw [Bool.eq_iff_iff, List.any_eq_true, List.any_eq_true]
  constructor
  · rintro ⟨y, hy, h⟩; exact ⟨y, h1 y hy, h⟩
  · rintro ⟨y, hy, h⟩; exact ⟨y, h2 y hy, h⟩
theorem headL_same {L L' : List PB} (h1 : ∀ y ∈ L, y ∈ L') (h2 : ∀ y ∈ L', y ∈ L) (ha : alikeL L = true) : headL L = headL L' := by
  obtain ⟨hne, _, hal⟩ := (alikeL_iff L).1 ha
  match L, L', h1, h2, hne, hal with
  | [], _, _, _, hne, _ => exact absurd rfl hne
  | x :: r, [], h1, _, _, _ => exact (List.not_mem_nil (h1 x (List.mem_cons_self ..))).elim
  | x :: r, y :: s, h1, h2, _, hal =>
    have k := (alikeB_iff x y).1 (hal x (List.mem_cons_self ..) y (h2 y (List.mem_cons_self ..)))
    have hw := any_same h1 h2 (fun y => y.1.whole)
    have hh : (x :: r).foldl (fun h y => if y.1.hops < h then y.1.hops else h) x.1.hops = (y :: s).foldl (fun h y => if y.1.hops < h then y.1.hops else h) y.1.hops := by
      obtain ⟨u, hu, eu⟩ := fold_mem x r
      obtain ⟨v, hv, ev⟩ := fold_mem y s
      have a := (fold_least (x :: r) x.1.hops).2.1 v (h2 v hv)
      have b := (fold_least (y :: s) y.1.hops).2.1 u (h1 u hu)
      omega
    simp only [headL]
    rw [hh, hw, k.2.2.1, k.2.2.2.1, k.2.2.2.2.1, k.2.2.2.2.2]
/-- JOINING HANGS ON THE SET OF THE PIECES ALONE: not on their order, nor on one of them being there twice -/
theorem join_same {L L' : List PB} (h1 : ∀ y ∈ L, y ∈ L') (h2 : ∀ y ∈ L', y ∈ L) (l1 : L.length ≤ 40) (l2 : L'.length ≤ 40) : joinL L = joinL L' := by
  have ea : alikeL L = alikeL L' := by
    rw [Bool.eq_iff_iff, alikeL_iff, alikeL_iff]
    constructor
    · rintro ⟨a, _, c⟩
      refine ⟨fun e => ?_, l2, fun x hx y hy => c x (h2 x hx) y (h2 y hy)⟩
      match L, a with
      | z :: r, _ => have := h1 z (List.mem_cons_self ..); rw [e] at this; cases this
    · rintro ⟨a, _, c⟩
      refine ⟨fun e => ?_, l1, fun x hx y hy => c x (h1 x hx) y (h1 y hy)⟩
      match L', a with
      | z :: r, _ => have := h2 z (List.mem_cons_self ..); rw [e] at this; cases this
  have ed : disagreeL L = disagreeL L' := by
    rw [Bool.eq_iff_iff, disagreeL_iff, disagreeL_iff]
    constructor
    · rintro ⟨x, hx, y, hy, h⟩; exact ⟨x, h1 x hx, y, h1 y hy, h⟩
    · rintro ⟨x, hx, y, hy, h⟩; exact ⟨x, h2 x hx, y, h2 y hy, h⟩
  unfold joinL
  cases ha : alikeL L with
  | false => rw [← ea, ha]; rfl
  | true =>
    rw [← ea, ha, if_pos rfl, if_pos rfl]
    cases hd : disagreeL L with
    | true => rw [← ed, hd, if_pos rfl, if_pos rfl]
    | false =>
      rw [← ed, hd, if_neg (by simp), if_neg (by simp), ← endL_same h1 h2 hd]
      cases endL L with
      | none => rfl
      | some e =>
        simp only
        rw [← bytesL_same h1 h2 hd, ← headL_same h1 h2 ha]

/-- what the code says -/
theorem join_code (L : List PB) : (joinL L).1 = 0 ∨ (joinL L).1 = 1 ∨ (joinL L).1 = 2 ∨ (joinL L).1 = 3 := by
  unfold joinL
  repeat' split
  all_goals simp
theorem join_one (L : List PB) : (joinL L).1 = 1 ↔ alikeL L = false := by
  unfold joinL
  cases alikeL L with
  | false => simp
  | true =>
    simp only [if_true]
    repeat' split
    all_goals simp
theorem join_two (L : List PB) : (joinL L).1 = 2 ↔ alikeL L = true ∧ disagreeL L = true := by
  unfold joinL
  cases alikeL L with
  | false => simp
  | true =>
    cases disagreeL L with
    | true => simp
    | false =>
      simp only [if_true]
      repeat' split
      all_goals simp_all
/-- a piece that came in for joining, beside others -/
theorem alike_more {L : List PB} {z : PB} (ha : alikeL L = true) (hz : ∀ x ∈ L, alikeB x z = true) (hl : L.length < 40) : alikeL (L ++ [z]) = true := by
  obtain ⟨hne, _, hal⟩ := (alikeL_iff L).1 ha
  refine (alikeL_iff _).2 ⟨by simp, by simp; omega, fun x hx y hy => ?_⟩
  match L, hne with
  | w :: r, _ =>
    have hw := (alikeB_iff w z).1 (hz w (List.mem_cons_self ..))
    have hzz : alikeB z z = true := (alikeB_iff z z).2 ⟨hw.2.1, hw.2.1, rfl, rfl, rfl, rfl⟩
    have sym : ∀ a b, alikeB a b = true → alikeB b a = true := fun a b h => by
      have k := (alikeB_iff a b).1 h
      exact (alikeB_iff b a).2 ⟨k.2.1, k.1, k.2.2.1.symm, k.2.2.2.1.symm, k.2.2.2.2.1.symm, k.2.2.2.2.2.symm⟩
    rcases List.mem_append.1 hx with a | a <;> rcases List.mem_append.1 hy with b | b
    · exact hal x a y b
    · rw [List.mem_singleton.1 b]; exact hz x a
    · rw [List.mem_singleton.1 a]; exact sym _ _ (hz y b)
    · rw [List.mem_singleton.1 a, List.mem_singleton.1 b]; exact hzz
/-- WHAT LIES IS NOT JOINED: where two disagree, no more pieces make them agree -/
theorem join_lies {L : List PB} {z : PB} (h : (joinL L).1 = 2) (hz : ∀ x ∈ L, alikeB x z = true) (hl : L.length < 40) : (joinL (L ++ [z])).1 = 2 := by
  obtain ⟨ha, hd⟩ := (join_two L).1 h
  refine (join_two _).2 ⟨alike_more ha hz hl, ?_⟩
  obtain ⟨x, hx, y, hy, e⟩ := (disagreeL_iff L).1 hd
  exact (disagreeL_iff _).2 ⟨x, List.mem_append_left _ hx, y, List.mem_append_left _ hy, e⟩
theorem find_prefix {L : List PB} {z x : PB} {f : PB → Bool} (h : L.find? f = some x) : (L ++ [z]).find? f = some x := by
  rw [List.find?_append, h]; rfl
theorem bytes_prefix {L : List PB} {z : PB} : ∀ n bs, bytesL L n = some bs → bytesL (L ++ [z]) n = some bs := by
  intro n
  induction n with
  | zero => intro bs h; exact h
  | succ n ih =>
    intro bs h
    rw [bytesL] at h ⊢
    cases e1 : bytesL L n with
    | none => rw [e1] at h; simp at h
    | some cs =>
      cases e2 : L.find? (fun x => hasB x n) with
      | none => rw [e1, e2] at h; simp at h
      | some x =>
        rw [e1, e2] at h
        rw [ih cs e1, find_prefix e2]
        exact h
/-- what is joined, and one more piece that doesn't disagree: the bytes stay -/
theorem join_more {L : List PB} {z : PB} (h : (joinL L).1 = 0) (hz : ∀ x ∈ L, alikeB x z = true) (hl : L.length < 40) : (joinL (L ++ [z])).1 = 2 ∨ ((joinL (L ++ [z])).1 = 0 ∧ (joinL (L ++ [z])).2.2 = (joinL L).2.2 ∧ (joinL (L ++ [z])).2.1 = headL (L ++ [z]) ∧ (joinL L).2.1 = headL L) := by
  have ha : alikeL L = true := by
    cases e : alikeL L with
    | true => rfl
    | false => have := (join_one L).2 e; omega
  have ha' := alike_more ha hz hl
  cases hd' : disagreeL (L ++ [z]) with
  | true => exact Or.inl ((join_two _).2 ⟨ha', hd'⟩)
  | false =>
    right
    have hd : disagreeL L = false := by
      cases e : disagreeL L with
      | false => rfl
      | true => have := (join_two L).2 ⟨ha, e⟩; omega
    unfold joinL at h ⊢
    rw [ha, if_pos rfl, hd, if_neg (by simp)] at h
    rw [ha', if_pos rfl, hd', if_neg (by simp), ha, if_pos rfl, hd, if_neg (by simp)]
    cases e1 : endL L with
    | none => rw [e1] at h; simp at h
    | some e =>
      rw [e1] at h
      simp only at h
      have e1' : endL (L ++ [z]) = some e := by
        unfold endL at e1 ⊢
        cases e2 : L.find? (fun x => !x.1.more) with
        | none => rw [e2] at e1; simp at e1
        | some x => rw [find_prefix e2, ← e1, e2]
      rw [e1']
      simp only
      cases e3 : bytesL L e.toNat with
      | none => rw [e3] at h; simp at h
      | some bs =>
        rw [bytes_prefix e.toNat bs e3]
        simp
end Go.Proofs.Ytjbkgmbakjnlhaa

/- The program's way to disagree is the document's. -/
namespace Go.Proofs.Ytjbkgmbakjnlhaa

theorem u8_inj {a b : Int} (ha : 0 ≤ a ∧ a ≤ 255) (hb : 0 ≤ b ∧ b ≤ 255) (h : UInt8.ofNat a.toNat = UInt8.ofNat b.toNat) : a = b := by
  have := congrArg UInt8.toNat h
  simp at this
  omega
theorem bytes_inj {xs ys : List Int} (hx : ∀ z ∈ xs, 0 ≤ z ∧ z ≤ 255) (hy : ∀ z ∈ ys, 0 ≤ z ∧ z ≤ 255) : ((strOfNums xs).toList == (strOfNums ys).toList) = true ↔ xs = ys := by
  rw [beq_iff_eq, Lib.strOfNums_toList, Lib.strOfNums_toList]
  constructor
  · intro h
    induction xs generalizing ys with
    | nil => cases ys with
      | nil => rfl
      | cons y r => simp [Lib.bytesOf] at h
    | cons x r ih =>
      cases ys with
      | nil => simp [Lib.bytesOf] at h
      | cons y s =>
        simp only [Lib.bytesOf, List.map_cons, List.cons.injEq] at h
        have e := u8_inj (hx x (List.mem_cons_self ..)) (hy y (List.mem_cons_self ..)) h.1
        rw [e, ih (fun z hz => hx z (List.mem_cons_of_mem _ hz)) (fun z hz => hy z (List.mem_cons_of_mem _ hz)) h.2]
  · rintro rfl; rfl
/-- a packet's bytes are bytes -/
def BytesOk (x : PB) : Prop := ∀ z ∈ x.2, 0 ≤ z ∧ z ≤ 255
theorem hasB_iff (x : PB) (j : Int) : hasB x j = true ↔ x.1.off ≤ j ∧ j < endOf x := by
  unfold hasB; simp
theorem fromI_le (x y : PB) : x.1.off ≤ fromI x y ∧ y.1.off ≤ fromI x y ∧ (fromI x y = x.1.off ∨ fromI x y = y.1.off) := by
  unfold fromI; split <;> omega
theorem toI_le (x y : PB) : toI x y ≤ endOf x ∧ toI x y ≤ endOf y ∧ (toI x y = endOf x ∨ toI x y = endOf y) := by
  unfold toI; split <;> omega
theorem has_both (x y : PB) (j : Int) : (hasB x j = true ∧ hasB y j = true) ↔ fromI x y ≤ j ∧ j < toI x y := by
  rw [hasB_iff, hasB_iff]
  have := fromI_le x y
  have := toI_le x y
  constructor
  · omega
  · omega
/-- there is a place of which both have the byte, and not the same one -/
def Clash (x y : PB) : Prop := ∃ j : Int, hasB x j = true ∧ hasB y j = true ∧ byteAt x j ≠ byteAt y j
theorem cutD_get (x y z : PB) (hz : z = x ∨ z = y) (i : Nat) (hi : i < (toI x y - fromI x y).toNat) : (cutD x y z)[i]? = some (byteAt z (fromI x y + i)) := by
  have f := fromI_le x y
  have t := toI_le x y
  unfold cutD byteAt
  have hl : (fromI x y - z.1.off).toNat + i < z.2.length := by
    rcases hz with rfl | rfl <;> simp only [endOf] at t <;> omega
  rw [List.getElem?_take, if_pos hi, List.getElem?_drop, show (fromI x y + (i : Int) - z.1.off).toNat = (fromI x y - z.1.off).toNat + i by rcases hz with rfl | rfl <;> omega]
  simp [List.getD, List.getElem?_eq_getElem hl]
theorem cutD_len (x y z : PB) (hz : z = x ∨ z = y) : (cutD x y z).length = (toI x y - fromI x y).toNat := by
  have f := fromI_le x y
  have t := toI_le x y
  unfold cutD
  rw [List.length_take, List.length_drop]
  rcases hz with rfl | rfl <;> simp only [endOf] at t <;> omega
theorem cutD_byte {x y z : PB} (h : BytesOk z) : ∀ b ∈ cutD x y z, 0 ≤ b ∧ b ≤ 255 := fun b hb => h b (List.mem_of_mem_drop (List.mem_of_mem_take hb))
theorem differ_iff {x y : PB} (hx : BytesOk x) (hy : BytesOk y) : differB x y = true ↔ Clash x y := by
  have hb := bytes_inj (cutD_byte (x := x) (y := y) hx) (cutD_byte (x := x) (y := y) hy)
  have lx := cutD_len x y x (Or.inl rfl)
  have ly := cutD_len x y y (Or.inr rfl)
  unfold differB
  rw [Bool.and_eq_true, decide_eq_true_eq, Bool.not_eq_true', ← Bool.not_eq_true, hb]
  constructor
  · rintro ⟨hlt, hne⟩
    apply Classical.byContradiction
    intro hc
    apply hne
    apply List.ext_getElem?
    intro i
    by_cases hi : i < (toI x y - fromI x y).toNat
    · rw [cutD_get x y x (Or.inl rfl) i hi, cutD_get x y y (Or.inr rfl) i hi]
      congr 1
      apply Classical.byContradiction
      intro hn
      have := (has_both x y (fromI x y + i)).2 ⟨by omega, by omega⟩
      exact hc ⟨_, this.1, this.2, hn⟩
    · rw [List.getElem?_eq_none (by omega), List.getElem?_eq_none (by omega)]
  · rintro ⟨j, h1, h2, hn⟩
    have hj := (has_both x y j).1 ⟨h1, h2⟩
    refine ⟨by omega, fun e => hn ?_⟩
    have a := cutD_get x y x (Or.inl rfl) (j - fromI x y).toNat (by omega)
    have b := cutD_get x y y (Or.inr rfl) (j - fromI x y).toNat (by omega)
    rw [show fromI x y + (((j - fromI x y).toNat : Nat) : Int) = j by omega] at a b
    rw [e, b] at a
    exact (Option.some.inj a).symm
theorem any_clash (x y : PB) : (List.range x.2.length).any (fun t => hasB y (x.1.off + t) && (byteAt x (x.1.off + t) != byteAt y (x.1.off + t))) = true ↔ Clash x y := by
  rw [List.any_eq_true]
  constructor
  · rintro ⟨t, ht, h⟩
    rw [List.mem_range] at ht
    simp only [Bool.and_eq_true, bne_iff_ne, ne_eq] at h
    exact ⟨x.1.off + t, (hasB_iff x _).2 (by unfold endOf; omega), h.1, h.2⟩
  · rintro ⟨j, h1, h2, hn⟩
    have hj := (hasB_iff x j).1 h1
    unfold endOf at hj
    refine ⟨(j - x.1.off).toNat, List.mem_range.2 (by omega), ?_⟩
    rw [show x.1.off + (((j - x.1.off).toNat : Nat) : Int) = j by omega]
    simp [h2, hn]
theorem clash_symm {x y : PB} (h : Clash x y) : Clash y x := by
  obtain ⟨j, a, b, c⟩ := h
  exact ⟨j, b, a, fun e => c e.symm⟩
theorem against_iff (x y : PB) : againstB x y = true ↔ Clash x y ∨ (x.1.more = false ∧ (endOf x < endOf y ∨ (y.1.more = false ∧ endOf y ≠ endOf x))) := by
  unfold againstB
  rw [Bool.or_eq_true, any_clash]
  simp
theorem behind_iff (x y : PB) : behindB x y = true ↔ y.1.more = false ∧ endOf y < endOf x := by
  unfold behindB; simp
theorem dis_iff {x y : PB} (hx : BytesOk x) (hy : BytesOk y) : disB x y = true ↔ againstB x y = true ∨ againstB y x = true := by
  unfold disB
  rw [Bool.or_eq_true, Bool.or_eq_true, differ_iff hx hy, behind_iff, behind_iff, against_iff, against_iff]
  constructor
  · rintro ((h | h) | h)
    · exact Or.inl (Or.inl h)
    · exact Or.inr (Or.inr ⟨h.1, Or.inl h.2⟩)
    · exact Or.inl (Or.inr ⟨h.1, Or.inl h.2⟩)
  · rintro ((h | ⟨h, h1 | ⟨h2, h1⟩⟩) | (h | ⟨h, h1 | ⟨h2, h1⟩⟩))
    · exact Or.inl (Or.inl h)
    · exact Or.inr ⟨h, h1⟩
    · rcases Int.lt_or_gt_of_ne h1 with h3 | h3
      · exact Or.inl (Or.inr ⟨h2, h3⟩)
      · exact Or.inr ⟨h, h3⟩
    · exact Or.inl (Or.inl (clash_symm h))
    · exact Or.inl (Or.inr ⟨h, h1⟩)
    · rcases Int.lt_or_gt_of_ne h1 with h3 | h3
      · exact Or.inr ⟨h2, h3⟩
      · exact Or.inl (Or.inr ⟨h, h3⟩)
theorem against_self (x : PB) : againstB x x = false := by
  rw [← Bool.not_eq_true, against_iff]
  rintro (⟨j, _, _, h⟩ | ⟨_, h | ⟨_, h⟩⟩)
  · exact h rfl
  · omega
  · exact h rfl
/-- asked of each two, one behind the other -/
theorem disagree_pairs {L : List PB} (hb : ∀ x ∈ L, BytesOk x) : disagreeL L = true ↔ ∃ (i j : Nat) (x y : PB), j < i ∧ L[i]? = some x ∧ L[j]? = some y ∧ disB x y = true := by
  rw [disagreeL_iff]
  constructor
  · rintro ⟨x, hx, y, hy, h⟩
    obtain ⟨i, hi⟩ := List.getElem?_of_mem hx
    obtain ⟨j, hj⟩ := List.getElem?_of_mem hy
    rcases Nat.lt_trichotomy i j with hij | hij | hij
    · exact ⟨j, i, y, x, hij, hj, hi, (dis_iff (hb y hy) (hb x hx)).2 (Or.inr h)⟩
    · subst hij
      rw [hi] at hj
      obtain rfl := Option.some.inj hj
      rw [against_self] at h
      cases h
    · exact ⟨i, j, x, y, hij, hi, hj, (dis_iff (hb x hx) (hb y hy)).2 (Or.inl h)⟩
  · rintro ⟨i, j, x, y, _, hi, hj, h⟩
    have hx := List.mem_of_getElem? hi
    have hy := List.mem_of_getElem? hj
    rcases (dis_iff (hb x hx) (hb y hy)).1 h with h | h
    · exact ⟨x, hx, y, hy, h⟩
    · exact ⟨y, hy, x, hx, h⟩
end Go.Proofs.Ytjbkgmbakjnlhaa
