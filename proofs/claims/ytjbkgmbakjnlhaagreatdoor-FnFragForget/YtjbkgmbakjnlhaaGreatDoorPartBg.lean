import Derived.Test.YtjbkgmbakjnlhaaGreatDoorPartBe
import Derived.Test.YtjbkgmbakjnlhaaGreatDoorPartBb
namespace Go.Proofs.YtjbkgmbakjnlhaaGreatDoor
set_option maxRecDepth 100000
open Go.RowKit
def BenchPost (rb M : Nat) (w : World) (e : Ending) (w' : World) : Prop :=
 ∃ now oa cl ss, e = .returned (.agg #[.int .i64 now, .slice oa ss.length cl]) ∧ BT w' w.heap.size oa ss ∧ ss.length ≤ 4 ∧ ss.length ≤ cl ∧ cl ≤ 9223372036854775807 ∧ benchOk now ss ∧ Rdr w' rb M ∧ w.grownBy w' (some rb)
theorem play_tick {w u : World} {rb M b2 b3 : Nat} {now : Int} {oa : Option Addr} {cl : Nat} {ss : List SV} (h : BS w rb M b2 b3 now oa cl ss u) (hr : rb < w.heap.size) :
  Calls Tryz.prog 8 #[.agg #[.int .i64 now, .slice oa ss.length cl]] u fun e u' => ∃ now' oa' cl' ss' c, e = .returned (.tuple #[.agg #[.int .i64 now', .slice oa' ss'.length cl'], .int .i64 c]) ∧ BS w rb M b2 b3 now oa cl ss u' ∧ BT u' w.heap.size oa' ss' ∧ ss'.length ≤ 4 ∧ ss'.length ≤ cl' ∧ cl' ≤ 9223372036854775807 ∧ benchOk now' ss' := by
 refine (specTick_any now oa cl ss u h.bt.slq (by have := h.len; omega) h.cap h.capM).mono ?_
 rintro e u' ⟨v, now', ks, c, rfl, hP, ⟨oa', cl', ts, rfl, hk, hl, hc, hm, hA⟩, hb⟩
 have hsz := h.gr.size
 refine ⟨now', oa', cl', ts, c, rfl, h.below hb hr, (hA.le hsz).bt, hl, hc, hm, ?_⟩
 rcases hP with ⟨hB, _⟩ | ⟨_, _, rfl, e, _⟩ | ⟨hB, hne, rfl, e, _⟩
 ·exact absurd h.nb hB
 ·exact (benchOk_iff (hk.trans e)).2 h.nb
 ·exact (tick_ok h.nb hne (hk.trans e)).1
theorem play_take {w u : World} {rb M b2 b3 : Nat} {now : Int} {oa : Option Addr} {cl : Nat} {ss : List SV} (x : RV) (h : BS w rb M b2 b3 now oa cl ss u) (hx : ROk u x) (hr : rb < w.heap.size) :
  Calls Tryz.prog 11 #[.agg #[.int .i64 now, .slice oa ss.length cl], .agg #[.int .i64 x.p.src, .int .i64 x.p.dst, .int .i64 x.p.kind, .int .i64 x.p.id, .int .i64 x.p.hops, .bool x.p.whole, .int .i64 x.p.off, .bool x.p.more, .slice x.a x.zs.length x.c]] u fun e u' => ∃ now' oa' cl' ss' c, ∃ y : RV, e = .returned (.tuple #[.agg #[.int .i64 now', .slice oa' ss'.length cl'], .agg #[.int .i64 y.p.src, .int .i64 y.p.dst, .int .i64 y.p.kind, .int .i64 y.p.id, .int .i64 y.p.hops, .bool y.p.whole, .int .i64 y.p.off, .bool y.p.more, .slice y.a y.zs.length y.c], .int .i64 c]) ∧ BS w rb M b2 b3 now oa cl ss u' ∧ BT u' w.heap.size oa' ss' ∧ ss'.length ≤ 4 ∧ ss'.length ≤ cl' ∧ cl' ≤ 9223372036854775807 ∧ benchOk now' ss' ∧ Below u.heap.size u u' := by
 refine (specTake_any now oa cl ss x u h.bt.slq (by have := h.len; omega) h.cap h.capM hx).mono ?_
 rintro e u' ⟨now', ks, oa', cl', ts, y, c, rfl, hP, hT, hb⟩
 have hsz := h.gr.size
 refine ⟨now', oa', cl', ts, c, y, rfl, h.below hb hr, (hT.ans.le hsz).bt, hT.len, hT.cap, hT.capM, ?_, hb⟩
 rcases hP with ⟨hB, _⟩ | ⟨_, rfl, e⟩
 ·exact absurd h.nb hB
 ·exact take_ok h.nb (by rw [hT.keys]; exact e)
theorem flatS_set (t : SV) (v : Value) (j : Nat) (hj : j < 3) : ∀ (ts : List SV) (i : Nat) (s : SV), ts[i]? = some s → t.cells = s.cells.set j v → (ts.flatMap SV.cells).set (i * 3 + j) v = (ts.set i t).flatMap SV.cells
 | [], i, s, h, _ => by simp at h
 | y :: r, 0, s, h, ht => by
  simp at h
  subst h
  rw [List.set_cons_zero, List.flatMap_cons, List.flatMap_cons, Nat.zero_mul, Nat.zero_add, List.set_append_left _ _ (by rw [SV.cells_len]; exact hj), ht]
 | y :: r, i + 1, s, h, ht => by
  rw [List.set_cons_succ, List.flatMap_cons, List.flatMap_cons, List.set_append_right _ _ (by rw [SV.cells_len]; omega), SV.cells_len, show (i + 1) * 3 + j - 3 = i * 3 + j by omega, flatS_set t v j hj r i s (by simpa using h) ht]
def AnyBenchPost (rb M : Nat) (w : World) (e : Ending) (w' : World) : Prop :=
 ∃ now oa cl ss, e = .returned (.agg #[.int .i64 now, .slice oa ss.length cl]) ∧ BT w' w.heap.size oa ss ∧ ss.length ≤ 8 ∧ ss.length ≤ cl ∧ cl ≤ 9223372036854775807 ∧ (∀ s ∈ ss, s.xs.length ≤ 1001) ∧ Rdr w' rb M ∧ w.grownBy w' (some rb)
theorem wait_len {s : SV} (h : waits s) : s.xs.length ≤ 1000 := by
 have hw := h.1
 have hal : alikeL (s.xs.map RV.key) = true := by
  cases e2 : alikeL (s.xs.map RV.key) with
  | true => rfl
  | false => have := (join_one _).2 e2; omega
 have h40 := (alike_ok hal).1
 omega
theorem ok_len {now : Int} {ss : List SV} (h : benchOk now ss) : ∀ s ∈ ss, s.xs.length ≤ 1001 := fun s hs => by
 obtain ⟨j, hj⟩ := List.getElem?_of_mem hs
 have := wait_len (h.2.2 j s hj).2.1
 omega
structure SpS (w : World) (rb M lo g c : Nat) (ts : List SV) (u : World) : Prop where
 gr : w.grownBy u (some rb)
 rd : Rdr u rb M
 own : u.ownsRow lo 39 3 (.slice (some ⟨g, 0, none⟩) ts.length c) ts.length (ts.flatMap SV.cells)
 each : ∀ t ∈ ts, SlotB u lo t
 low : w.heap.size ≤ lo
 rbl : rb < w.heap.size
 sm : ∀ t ∈ ts, t.xs.length ≤ 1001
theorem SpS.grown {w : World} {rb M M' lo g c : Nat} {ts : List SV} {u u' : World} (h : SpS w rb M lo g c ts u) (hg : u.grownBy u' (some rb)) (hR : Rdr u' rb M') : SpS w rb M' lo g c ts u' := by
 have h1 := h.low; have h2 := h.rbl
 have hk : ∀ b, lo ≤ b → b < u.heap.size → u'.heap[b]? = u.heap[b]? := fun b hb hl => hg.block b hl (fun e => by have := Option.some.inj e; omega)
 exact ⟨grown_trans h.gr hg, hR, own_kept h.own fun b hb => hk b (own_lt h.own b hb).1 (own_lt h.own b hb).2, fun t ht => (h.each t ht).kept fun b hb => hk b ((h.each t ht).blk b hb).1 ((h.each t ht).blk b hb).2.1, h.low, h.rbl, h.sm⟩
theorem SpS.bt {w : World} {rb M lo g c : Nat} {ts : List SV} {u : World} (h : SpS w rb M lo g c ts u) : BT u w.heap.size (some ⟨g, 0, none⟩) ts :=
 Or.inr ⟨g, rfl, Nat.le_trans h.low (own_lt h.own g rfl).1, RowB.of_own h.own, fun s hs => (h.each s hs).le h.low⟩
theorem SpS.far {w : World} {rb M lo g c r o : Nat} {ts : List SV} {u : World} {cur : Array Value} {t : TypeId} (h : SpS w rb M lo g c ts u) (hr : u.heap[r]? = some (.cells cur t (0, 0))) (ht : t ≠ 39 ∧ t ≠ 5 ∧ t ≠ 29) (hl : w.heap.size ≤ r) (v : Value) : SpS w rb M lo g c ts (u.setCell ⟨r, o, none⟩ v) := by
 have h2 := h.rbl
 have nc : ∀ {b : Nat} {cu : Array Value} {t' : TypeId}, u.heap[b]? = some (.cells cu t' (0, 0)) → t ≠ t' → (u.setCell ⟨r, o, none⟩ v).heap[b]? = u.heap[b]? := fun {b cu t'} hb hn => zHs (fun e => by
  simp only at e
  rw [e, hr] at hb
  cases hb
  exact hn rfl)
 have hs : (u.setCell ⟨r, o, none⟩ v).heap.size = u.heap.size := by simp [World.setCell]
 refine ⟨⟨by rw [show (u.setCell ⟨r, o, none⟩ v).os = u.os by simp [World.setCell]]; exact h.gr.os, by rw [show (u.setCell ⟨r, o, none⟩ v).tape = u.tape by simp [World.setCell]]; exact h.gr.tape, by rw [show (u.setCell ⟨r, o, none⟩ v).output = u.output by simp [World.setCell]]; exact h.gr.output, by rw [hs]; exact h.gr.size, fun b hb hne => (zHs (by simp only; omega)).trans (h.gr.block b hb hne)⟩, h.rd.keep (by omega) fun j hj => zHs (by simp only; omega), own_kept h.own fun b hb => ?_, fun s hs => (h.each s hs).kept fun b hb => ?_, h.low, h.rbl, h.sm⟩
 ·obtain ⟨cu, hc⟩ := own_at h.own b hb
  exact nc hc ht.1
 ·obtain ⟨_, _, cu, t', hc, ht'⟩ := (h.each s hs).blk b hb
  rcases ht' with rfl | rfl
  ·exact nc hc ht.2.1
  ·exact nc hc ht.2.2
theorem SpS.store {w : World} {rb M lo g c i j : Nat} {ts : List SV} {s t : SV} {v : Value} {u : World} (h : SpS w rb M lo g c ts u) (hi : ts[i]? = some s) (hj : j < 3) (ht : t.cells = s.cells.set j v) (hb : SlotB u lo t) (hsm : t.xs.length ≤ 1001) : SpS w rb M lo g c (ts.set i t) (u.setCell ⟨g, i * 3 + j, none⟩ v) := by
 have h1 := h.low; have h2 := h.rbl
 have hg := (own_lt h.own g rfl).1
 obtain ⟨cg, hcg⟩ := own_at h.own g rfl
 have hs : (u.setCell ⟨g, i * 3 + j, none⟩ v).heap.size = u.heap.size := by simp [World.setCell]
 have kp : ∀ {x : SV}, SlotB u lo x → SlotB (u.setCell ⟨g, i * 3 + j, none⟩ v) lo x := fun {x} hx => hx.kept fun b hb => zHs (fun e => by
  simp only at e
  obtain ⟨_, _, cu, t', hc, ht'⟩ := hx.blk b hb
  rw [e, hcg] at hc
  cases hc
  rcases ht' with h | h <;> cases h)
 refine ⟨⟨by rw [show (u.setCell ⟨g, i * 3 + j, none⟩ v).os = u.os by simp [World.setCell]]; exact h.gr.os, by rw [show (u.setCell ⟨g, i * 3 + j, none⟩ v).tape = u.tape by simp [World.setCell]]; exact h.gr.tape, by rw [show (u.setCell ⟨g, i * 3 + j, none⟩ v).output = u.output by simp [World.setCell]]; exact h.gr.output, by rw [hs]; exact h.gr.size, fun b hb hne => (zHs (by simp only; omega)).trans (h.gr.block b hb hne)⟩, h.rd.keep (by omega) fun k hk => zHs (by simp only; omega), ?_, fun x hx => ?_, h.low, h.rbl, fun x hx => ?_⟩
 ·rw [List.length_set, ← flatS_set t v j hj ts i s hi ht]
  exact own_set h.own v
 ·rcases List.mem_or_eq_of_mem_set hx with h3 | h3
  ·exact kp (h.each x h3)
  ·rw [h3]; exact kp hb
 ·rcases List.mem_or_eq_of_mem_set hx with h3 | h3
  ·exact h.sm x h3
  ·rw [h3]; exact hsm
theorem SpS.snoc {w : World} {rb M lo g c g' c' : Nat} {ts : List SV} {t : SV} {u u' : World} (h : SpS w rb M lo g c ts u) (ht : SlotB u lo t) (hsm : t.xs.length ≤ 1001) (ho : u'.ownsRow lo 39 3 (.slice (some ⟨g', 0, none⟩) (ts.length + 1) c') (ts.length + 1) (ts.flatMap SV.cells ++ t.cells)) (hg : u.grownBy u' (some g)) : SpS w rb M lo g' c' (ts ++ [t]) u' := by
 have h1 := h.low; have h2 := h.rbl
 have hgl := (own_lt h.own g rfl).1
 obtain ⟨cg, hcg⟩ := own_at h.own g rfl
 have kp : ∀ {x : SV}, SlotB u lo x → SlotB u' lo x := fun {x} hx => hx.kept fun b hb => hg.block b (hx.blk b hb).2.1 (fun e => by
  obtain ⟨_, _, cu, t', hc, ht'⟩ := hx.blk b hb
  rw [Option.some.inj e, hcg] at hc
  cases hc
  rcases ht' with h | h <;> cases h)
 refine ⟨⟨hg.os.trans h.gr.os, hg.tape.trans h.gr.tape, hg.output.trans h.gr.output, Nat.le_trans h.gr.size hg.size, fun b hb hne => (hg.block b (Nat.lt_of_lt_of_le hb h.gr.size) (fun e => by have := Option.some.inj e; omega)).trans (h.gr.block b hb hne)⟩, h.rd.keep (by have := h.rd.lt; have := hg.size; omega) fun k hk => hg.block k (by have := h.gr.size; omega) (fun e => by have := Option.some.inj e; omega), by rw [List.length_append, List.flatMap_append]; simpa using ho, fun x hx => ?_, h.low, h.rbl, fun x hx => ?_⟩
 ·rcases List.mem_append.1 hx with h3 | h3
  ·exact kp (h.each x h3)
  ·rw [List.mem_singleton.1 h3]; exact kp ht
 ·rcases List.mem_append.1 hx with h3 | h3
  ·exact h.sm x h3
  ·rw [List.mem_singleton.1 h3]; exact hsm
structure SpF (w : World) (rb M lo g c : Nat) (ts : List SV) (u : World) : Prop where
 sp : SpS w rb M lo g c ts u
 fo : Forest u lo ts
 caps : ∀ t ∈ ts, CapS u lo t
theorem SpF.grown {w : World} {rb M M' lo g c : Nat} {ts : List SV} {u u' : World} (h : SpF w rb M lo g c ts u) (hg : u.grownBy u' (some rb)) (hR : Rdr u' rb M') : SpF w rb M' lo g c ts u' := by
 have h1 := h.sp.low; have h2 := h.sp.rbl
 have hk : ∀ b, lo ≤ b → b < u.heap.size → u'.heap[b]? = u.heap[b]? := fun b hb hl => hg.block b hl (fun e => by have := Option.some.inj e; omega)
 exact ⟨h.sp.grown hg hR, h.fo.kept fun b hb => hk b (h.fo.blk b hb).1 (h.fo.blk b hb).2.1, fun t ht => own_kept (h.caps t ht) fun b hb => hk b (own_lt (h.caps t ht) b hb).1 (own_lt (h.caps t ht) b hb).2⟩
theorem SpF.below {w : World} {rb M lo g c : Nat} {ts : List SV} {u u' : World} (h : SpF w rb M lo g c ts u) (hb : Below u.heap.size u u') : SpF w rb M lo g c ts u' := h.grown (grown_of_below hb) (h.sp.rd.below hb)
structure SpW (w : World) (rb M lo g c : Nat) (now : Int) (ts : List SV) (u : World) : Prop where
 sp : SpS w rb M lo g c ts u
 box : u.heap[w.heap.size]? = some (.cells #[.int .i64 now, .slice (some ⟨g, 0, none⟩) ts.length c] 27 (0, 0))
 res : u.heap[w.heap.size + 1]? = some (.cells #[.int .i64 0, .slice none 0 0] 27 (0, 0))
theorem SpW.grown {w : World} {rb M M' lo g c : Nat} {now : Int} {ts : List SV} {u u' : World} (h : SpW w rb M lo g c now ts u) (hg : u.grownBy u' (some rb)) (hR : Rdr u' rb M') : SpW w rb M' lo g c now ts u' := by
 have h2 := h.sp.rbl
 exact ⟨h.sp.grown hg hR, (hg.block _ (lt_of_block h.box) (fun e => by have := Option.some.inj e; omega)).trans h.box, (hg.block _ (lt_of_block h.res) (fun e => by have := Option.some.inj e; omega)).trans h.res⟩
theorem SpW.below {w : World} {rb M lo g c : Nat} {now : Int} {ts : List SV} {u u' : World} (h : SpW w rb M lo g c now ts u) (hb : Below u.heap.size u u') : SpW w rb M lo g c now ts u' := h.grown (grown_of_below hb) (h.sp.rd.below hb)
theorem SpW.store {w : World} {rb M lo g c i j : Nat} {now : Int} {ts : List SV} {s t : SV} {v : Value} {u : World} (h : SpW w rb M lo g c now ts u) (hi : ts[i]? = some s) (hj : j < 3) (ht : t.cells = s.cells.set j v) (hb : SlotB u lo t) (hsm : t.xs.length ≤ 1001) : SpW w rb M lo g c now (ts.set i t) (u.setCell ⟨g, i * 3 + j, none⟩ v) := by
 obtain ⟨cg, hcg⟩ := own_at h.sp.own g rfl
 have ne : ∀ {b : Nat} {cu : Array Value}, u.heap[b]? = some (.cells cu 27 (0, 0)) → (u.setCell ⟨g, i * 3 + j, none⟩ v).heap[b]? = u.heap[b]? := fun {b cu} hb => zHs (fun e => by
  simp only at e
  rw [e, hcg] at hb
  cases hb)
 exact ⟨h.sp.store hi hj ht hb hsm, (ne h.box).trans (by rw [List.length_set]; exact h.box), (ne h.res).trans h.res⟩
theorem SpW.fin {w : World} {rb M M' lo g c : Nat} {now : Int} {ts : List SV} {u : World} (h : SpW w rb M lo g c now ts u) (hl : ts.length ≤ 8) (hM : M ≤ M') : AnyBenchPost rb M' w (.returned (.agg #[.int .i64 now, .slice (some ⟨g, 0, none⟩) ts.length c])) ((u.setCell ⟨w.heap.size + 1, 0, none⟩ (.int .i64 now)).setCell ⟨w.heap.size + 1, 1, none⟩ (.slice (some ⟨g, 0, none⟩) ts.length c)) := by
 have s := (h.sp.far (o := 0) h.res ⟨by decide, by decide, by decide⟩ (by omega) (.int .i64 now)).far (o := 1) (set_at h.res) ⟨by decide, by decide, by decide⟩ (by omega) (.slice (some ⟨g, 0, none⟩) ts.length c)
 have hc := own_caps h.sp.own
 exact ⟨now, _, c, ts, rfl, s.bt, hl, hc.1, hc.2, s.sm, s.rd.mono hM, s.gr⟩
theorem SpW.snoc {w : World} {rb M lo g c g' c' : Nat} {now : Int} {ts : List SV} {t : SV} {u u' : World} (h : SpW w rb M lo g c now ts u) (hlo : w.heap.size + 2 ≤ lo) (ht : SlotB u lo t) (hsm : t.xs.length ≤ 1001) (ho : u'.ownsRow lo 39 3 (.slice (some ⟨g', 0, none⟩) (ts.length + 1) c') (ts.length + 1) (ts.flatMap SV.cells ++ t.cells)) (hg : u.grownBy u' (some g)) :
  SpW w rb M lo g' c' now (ts ++ [t]) (u'.setCell ⟨w.heap.size, 1, none⟩ (.slice (some ⟨g', 0, none⟩) (ts.length + 1) c')) := by
 have hgl := (own_lt h.sp.own g rfl).1
 have bx : u'.heap[w.heap.size]? = some (.cells #[.int .i64 now, .slice (some ⟨g, 0, none⟩) ts.length c] 27 (0, 0)) := (hg.block _ (lt_of_block h.box) (fun e => by have := Option.some.inj e; omega)).trans h.box
 have rs := (hg.block _ (lt_of_block h.res) (fun e => by have := Option.some.inj e; omega)).trans h.res
 refine ⟨(h.sp.snoc ht hsm ho hg).far bx ⟨by decide, by decide, by decide⟩ (Nat.le_refl _) _, ?_, (zHs (by simp only; omega)).trans rs⟩
 rw [set_at bx, List.length_append]
 rfl
theorem each_swap {lo i gL : Nat} {ts : List SV} {s t : SV} {u u' : World} (hf : Forest u lo ts) (hi : ts[i]? = some s) (hgL : gL ∈ s.blks) (hg : u.grownBy u' (some gL)) (ht : SlotB u' lo t) : ∀ x ∈ ts.set i t, SlotB u' lo x := by
 obtain ⟨a, b, e1, e2, _⟩ := set_split hi t
 have nd := hf.nd
 rw [e1, List.flatMap_append, List.flatMap_cons] at nd
 obtain ⟨_, n2, n3⟩ := List.nodup_append.1 nd
 obtain ⟨_, _, n6⟩ := List.nodup_append.1 n2
 have kp : ∀ x ∈ ts, gL ∉ x.blks → SlotB u' lo x := fun x hx hn => (hf.each x hx).kept fun b hb => hg.block b ((hf.each x hx).blk b hb).2.1 (fun e => hn (by rw [← Option.some.inj e]; exact hb))
 intro x hx
 rw [e2] at hx
 rcases List.mem_append.1 hx with h1 | h1
 ·exact kp x (by rw [e1]; exact List.mem_append_left _ h1) (fun hm => n3 gL (List.mem_flatMap.2 ⟨x, h1, hm⟩) gL (List.mem_append_left _ hgL) rfl)
 ·rcases List.mem_cons.1 h1 with rfl | h1
  ·exact ht
  ·exact kp x (by rw [e1]; exact List.mem_append_right _ (List.mem_cons_of_mem _ h1)) (fun hm => n6 gL hgL gL (List.mem_flatMap.2 ⟨x, h1, hm⟩) rfl)
theorem flatS_same {i : Nat} {ts : List SV} {s t : SV} (hi : ts[i]? = some s) (ht : t.cells = s.cells) : (ts.set i t).flatMap SV.cells = ts.flatMap SV.cells := by
 obtain ⟨a, b, e1, e2, _⟩ := set_split hi t
 rw [e2, e1, List.flatMap_append, List.flatMap_append, List.flatMap_cons, List.flatMap_cons, ht]
theorem SpW.swap {w : World} {rb M lo g c i gL : Nat} {now : Int} {ts : List SV} {s t : SV} {u u' : World} (h : SpW w rb M lo g c now ts u) (hlo : w.heap.size + 2 ≤ lo) (hf : Forest u lo ts) (hi : ts[i]? = some s) (hgL : gL ∈ s.blks) (hg : u.grownBy u' (some gL)) (ht : SlotB u' lo t) (hc : t.cells = s.cells) (hsm : t.xs.length ≤ 1001) : SpW w rb M lo g c now (ts.set i t) u' := by
 have h1 := h.sp.low; have h2 := h.sp.rbl
 obtain ⟨hl1, hl2, cu, T, hcu, hT⟩ := (hf.each s (List.mem_of_getElem? hi)).blk gL hgL
 have ng : g ≠ gL := fun e => by
  obtain ⟨cg, hcg⟩ := own_at h.sp.own g rfl
  rw [e, hcu] at hcg
  cases hcg
  rcases hT with h | h <;> cases h
 have kb : ∀ b, b < u.heap.size → b ≠ gL → u'.heap[b]? = u.heap[b]? := fun b hb hn => hg.block b hb (fun e => hn (Option.some.inj e))
 refine ⟨⟨⟨hg.os.trans h.sp.gr.os, hg.tape.trans h.sp.gr.tape, hg.output.trans h.sp.gr.output, Nat.le_trans h.sp.gr.size hg.size, fun b hb hne => (kb b (Nat.lt_of_lt_of_le hb h.sp.gr.size) (by omega)).trans (h.sp.gr.block b hb hne)⟩, h.sp.rd.keep hg.size fun k hk => kb k (by have := h.sp.gr.size; omega) (by omega), ?_, each_swap hf hi hgL hg ht, h.sp.low, h.sp.rbl, fun x hx => ?_⟩, (kb _ (lt_of_block h.box) (by omega)).trans (by rw [List.length_set]; exact h.box), (kb _ (lt_of_block h.res) (by omega)).trans h.res⟩
 ·rw [List.length_set, flatS_same hi hc]
  exact own_kept h.sp.own fun b hb => kb b (own_lt h.sp.own b hb).2 (by rw [← Option.some.inj hb]; exact ng)
 ·rcases List.mem_or_eq_of_mem_set hx with h3 | h3
  ·exact h.sp.sm x h3
  ·rw [h3]; exact hsm
theorem SpW.swapAt {w : World} {rb M lo g c i gL : Nat} {now : Int} {ts : List SV} {s t : SV} {v : Value} {u u' : World} (h : SpW w rb M lo g c now ts u) (hlo : w.heap.size + 2 ≤ lo) (hf : Forest u lo ts) (hi : ts[i]? = some s) (hgL : gL ∈ s.blks) (hg : u.grownBy u' (some gL)) (ht : SlotB u' lo t) (hc : t.cells = s.cells.set 0 v) (hsm : t.xs.length ≤ 1001) : SpW w rb M lo g c now (ts.set i t) (u'.setCell ⟨g, i * 3, none⟩ v) := by
 have h1 := h.sp.low; have h2 := h.sp.rbl
 obtain ⟨hl1, hl2, cu, T, hcu, hT⟩ := (hf.each s (List.mem_of_getElem? hi)).blk gL hgL
 obtain ⟨cg, hcg⟩ := own_at h.sp.own g rfl
 have hgl := (own_lt h.sp.own g rfl).1
 have ng : g ≠ gL := fun e => by
  rw [e, hcu] at hcg
  cases hcg
  rcases hT with h | h <;> cases h
 have kb : ∀ b, b < u.heap.size → b ≠ gL → u'.heap[b]? = u.heap[b]? := fun b hb hn => hg.block b hb (fun e => hn (Option.some.inj e))
 have ks : ∀ b, b ≠ g → (u'.setCell ⟨g, i * 3, none⟩ v).heap[b]? = u'.heap[b]? := fun b hb => zHs hb
 have B : Below g u' (u'.setCell ⟨g, i * 3, none⟩ v) := Below.setCell (Below.refl g u') (by simp only; omega) v
 have own' := own_kept h.sp.own fun b hb => kb b (own_lt h.sp.own b hb).2 (by rw [← Option.some.inj hb]; exact ng)
 have nst : ∀ b, (∃ cu t, u'.heap[b]? = some (.cells cu t (0, 0)) ∧ (t = 5 ∨ t = 29)) → b ≠ g := fun b ⟨cu, t, h1, h2⟩ e => by
  rw [e, (kb g (lt_of_block hcg) ng).trans hcg] at h1
  cases h1
  rcases h2 with h | h <;> cases h
 refine ⟨⟨⟨B.os.trans (hg.os.trans h.sp.gr.os), B.tape.trans (hg.tape.trans h.sp.gr.tape), B.output.trans (hg.output.trans h.sp.gr.output), Nat.le_trans h.sp.gr.size (Nat.le_trans hg.size B.size), fun b hb hne => (ks b (by omega)).trans ((kb b (Nat.lt_of_lt_of_le hb h.sp.gr.size) (by omega)).trans (h.sp.gr.block b hb hne))⟩, h.sp.rd.keep (Nat.le_trans hg.size B.size) fun k hk => (ks k (by omega)).trans (kb k (by have := h.sp.gr.size; omega) (by omega)), ?_, fun x hx => ?_, h.sp.low, h.sp.rbl, fun x hx => ?_⟩, (ks _ (by omega)).trans ((kb _ (lt_of_block h.box) (by omega)).trans (by rw [List.length_set]; exact h.box)), (ks _ (by omega)).trans ((kb _ (lt_of_block h.res) (by omega)).trans h.res)⟩
 ·rw [List.length_set, ← flatS_set t v 0 (by omega) ts i s hi hc]
  exact own_set own' v
 ·have hx' := each_swap hf hi hgL hg ht x hx
  exact hx'.kept fun b hb => ks b (nst b (hx'.blk b hb).2.2)
 ·rcases List.mem_or_eq_of_mem_set hx with h3 | h3
  ·exact h.sp.sm x h3
  ·rw [h3]; exact hsm
theorem RowB.set {w : World} {T : TypeId} {g : Nat} {cs : List Value} (h : RowB w T g cs) (o : Nat) (v : Value) : RowB (w.setCell ⟨g, o, none⟩ v) T g (cs.set o v) := by
 obtain ⟨cur, h1, h2⟩ := h
 refine ⟨cur.setIfInBounds o v, set_at h1, ?_⟩
 rw [List.length_set, Array.toList_setIfInBounds, List.take_set, h2]
end Go.Proofs.YtjbkgmbakjnlhaaGreatDoor
