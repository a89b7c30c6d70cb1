/- Benches, plain; the program's sincesHold. -/
import Derived.Test.YtjbkgmbakjnlhabBEq
import Derived.Test.YtjbkgmbakjnlhabJoinS
import Derived.Deep.RegionHeld3
namespace Go.Proofs.Ytjbkgmbakjnlhab
open Go.RowKit

def sinceOk (now : Int) (s : SV) : Prop := s.since ≤ now ∧ 0 ≤ s.since ∧ now - 6 < s.since
def waits (s : SV) : Prop := (joinL (s.xs.map RV.key)).1 = 3 ∧ (s.bad = true → s.xs.length = 1)
def firstAlike (s t : SV) : Prop := ∃ x y, s.xs[0]? = some x ∧ t.xs[0]? = some y ∧ alikeB x.key y.key = true
theorem firstAlike_symm {s t : SV} (h : firstAlike s t) : firstAlike t s := by
  obtain ⟨x, y, h1, h2, h3⟩ := h
  refine ⟨y, x, h2, h1, ?_⟩
  rw [alikeB_iff] at h3 ⊢
  obtain ⟨a, b, c, d, e, f⟩ := h3
  exact ⟨b, a, c.symm, d.symm, e.symm, f.symm⟩
/-- what a test answers, told by a proposition -/
def SaysB (Q : Prop) (w : World) (e : Ending) (w' : World) : Prop := ∃ b : Bool, e = .returned (.bool b) ∧ (b = true ↔ Q) ∧ Below w.heap.size w w'
theorem SaysB.mk {Q : Prop} {w w' : World} (b : Bool) (h : b = true ↔ Q) (hb : Below w.heap.size w w') : SaysB Q w (.returned (.bool b)) w' := ⟨b, rfl, h, hb⟩
def rises (ss : List SV) (j : Nat) (s : SV) : Prop := ∀ r, 0 < j → ss[j - 1]? = some r → r.since ≤ s.since
def lone (ss : List SV) (j : Nat) (s : SV) : Prop := ∀ i r, i < j → ss[i]? = some r → ¬ firstAlike r s
def benchOk (now : Int) (ss : List SV) : Prop := (0 ≤ now ∧ now ≤ 1000000) ∧ ss.length ≤ 4 ∧ ∀ (j : Nat) s, ss[j]? = some s → sinceOk now s ∧ waits s ∧ rises ss j s ∧ lone ss j s
theorem waits_first {s : SV} (h : waits s) : ∃ x, s.xs[0]? = some x := by
  cases hx : s.xs with
  | nil =>
    have := h.1
    rw [hx] at this
    cases this
  | cons x r => exact ⟨x, rfl⟩

set_option maxRecDepth 100000 in
set_option maxHeartbeats 3200000 in
theorem sincesHold_any (now : Int) (g cl : Nat) (ss : List SV) (w : World) (hL : SL w g ss) (h0 : 0 ≤ now) (h1 : now ≤ 1000000) (hm : ss.length ≤ 4) :
    Calls Try.prog 50 #[.agg #[.int .i64 now, .slice (some ⟨g, 0, none⟩) ss.length cl]] w (SaysB (∀ (j : Nat) s, ss[j]? = some s → sinceOk now s ∧ rises ss j s) w) := by
  have HL : Hid (SL w g ss) := hL
  clear hL
  have KC : Hid (∀ (n lo : Int) (W : World), Calls Try.prog 49 #[.int .i64 n, .int .i64 lo, .int .i64 now] W fun e w' => e = .returned (.int .i64 (clampI n lo now)) ∧ w' = W) := fun n lo W => clamp_any n lo now W
  by_cases hmx : now - 6 + 1 ≤ 0
  all_goals
    go_enter Try.func50, Try.ntmps50
    go_wp2
    go_loopw [3, 14] (fun l i wr => ∃ (k : Nat) (L : Int), k ≤ ss.length ∧ i = .int .i64 k ∧ l = .int .i64 L ∧ (0 ≤ L ∧ now - 6 < L ∧ L ≤ now) ∧ Hid (∀ r, 0 < k → ss[k - 1]? = some r → L = r.since) ∧ Hid (k = 0 → L = 0 ∨ L = now - 5) ∧ Hid (∀ j s, j < k → ss[j]? = some s → sinceOk now s ∧ rises ss j s) ∧ Hid (Below w.heap.size w wr) ∧ Hid (wr.cell? ⟨w.heap.size, 0, none⟩ = some (.int .i64 now) ∧ w.heap.size < wr.heap.size)) (fun _ i _ => ss.length - (intOf i).toNat)
    case atStart => exact ⟨0, _, by omega, rfl, rfl, ⟨by omega, by omega, by omega⟩, fun r h => by omega, fun _ => by omega, fun j s h => by omega, Joins.below_alloc1 _ _, by go_simp, by simp⟩
    case round =>
      obtain ⟨k, L, hk, rfl, rfl, ⟨hL0, hL1, hL2⟩, HP, HZ, HC, HB, HN⟩ := hrel
      obtain ⟨n0, n1⟩ := HN.out
      by_cases hlt : k < ss.length
      · obtain ⟨x, hx⟩ := get_of_lt hlt
        have hi : (k : Int) < (ss.length : Int) := by omega
        have Lr := HL.out.below HB.out
        obtain ⟨c0, c1, c2⟩ := Lr.elem k x hx
        have hgr := Lr.lt
        have HX : Hid (ss[k]? = some x) := hx
        clear hx Lr
        have KX : Hid (∀ W : World, Calls Try.prog 49 #[.int .i64 x.since, .int .i64 L, .int .i64 now] W fun e w' => e = .returned (.int .i64 (clampI x.since L now)) ∧ w' = W) := fun W => KC.out _ _ W
        have HG : Hid (∀ s, ss[k]? = some s → (sinceOk now s ∧ rises ss k s ↔ L ≤ x.since ∧ x.since ≤ now)) := fun s hs => by
          have e : s = x := Option.some.inj (hs.symm.trans HX.out)
          subst e
          constructor
          · rintro ⟨⟨a, b, c⟩, d⟩
            refine ⟨?_, a⟩
            rcases Nat.eq_zero_or_pos k with h | h
            · rcases HZ.out h with h' | h' <;> omega
            · obtain ⟨r, hr⟩ := get_of_lt (show k - 1 < ss.length by omega)
              have := HP.out r h hr
              have := d r h hr
              omega
          · rintro ⟨a, b⟩
            refine ⟨⟨b, by omega, by omega⟩, fun r h hr => ?_⟩
            have := HP.out r h hr
            omega
        by_cases hin : L ≤ x.since ∧ x.since ≤ now
        · have hcl : clampI x.since L now = x.since := by unfold clampI; split <;> split <;> omega
          rw [hcl] at KX
          have hne : (x.since != x.since) = false := by simp
          clear hcl
          go_wp2
          go_region_held3 (fun w' => w'.cell? ⟨wr.heap.size, 1, none⟩ = some (.int .i64 x.since) ∧ w'.cell? ⟨w.heap.size, 0, none⟩ = some (.int .i64 now)) (go_keep)
            (first
              | (go_at_call 49; (with_reducible refine (KX.out _).mono ?_); rintro e w1 ⟨rfl, hw1⟩; subst hw1))
          go_wp2
          go_roundw
          case rel =>
            refine ⟨k + 1, x.since, by omega, by go_num, rfl, ⟨by omega, by omega, by omega⟩, fun r _ hr => ?_, fun h => by omega, fun j s hj hs => ?_, (HB.out.alloc (HB.out.size) _).drew, ?_, ?_⟩
            · rw [Nat.add_sub_cancel, HX.out] at hr
              exact congrArg SV.since (Option.some.inj hr)
            · rcases Nat.lt_or_ge j k with h | h
              · exact HC.out j s h hs
              · obtain rfl : j = k := by omega
                exact (HG.out s hs).2 hin
            · go_simp
            · simp; omega
          case measure => simp [intOf]; omega
        · have hcl : (x.since != clampI x.since L now) = true := by
            rw [bne_iff_ne]
            unfold clampI
            split <;> split <;> omega
          go_wp2
          go_region_held3 (fun w' => w'.cell? ⟨wr.heap.size, 1, none⟩ = some (.int .i64 x.since) ∧ w'.cell? ⟨w.heap.size, 0, none⟩ = some (.int .i64 now)) (go_keep)
            (first
              | (go_at_call 49; (with_reducible refine (KX.out _).mono ?_); rintro e w1 ⟨rfl, hw1⟩; subst hw1))
          go_wp2
          go_ret
          refine (SaysB.mk false ⟨fun h => by simp at h, fun h => (hin ((HG.out x HX.out).1 (h k x HX.out))).elim⟩ ((HB.out.alloc (HB.out.size) _).drew))
      · obtain rfl : k = ss.length := by omega
        go_wp2
        go_ret
        refine (SaysB.mk true ⟨fun _ j s hs => HC.out j s (by rw [List.getElem?_eq_some_iff] at hs; exact hs.1) hs, fun _ => rfl⟩ (HB.out))
end Go.Proofs.Ytjbkgmbakjnlhab
