import Derived.Test.YtjbkgmbakjnlhaaGreatDoorPartBd
import Derived.Test.YtjbkgmbakjnlhaaGreatDoorPartAt
import Derived.Test.YtjbkgmbakjnlhaaGreatDoorSTake
import Derived.Test.YtjbkgmbakjnlhaaGreatDoorPartAx
import Derived.Test.YtjbkgmbakjnlhaaGreatDoorPartBa
import Derived.Test.YtjbkgmbakjnlhaaGreatDoorPartBb
import Derived.Test.YtjbkgmbakjnlhaaGreatDoorPartAb
import Derived.Deep.RegionHeld3
namespace Go.Proofs.YtjbkgmbakjnlhaaGreatDoor
set_option maxRecDepth 100000
open Go.RowKit
theorem disagree_one (x : PB) : disagreeL [x] = false := by
 unfold disagreeL
 simp [against_self]
theorem alike_self {x : PB} (h : okB x.1 x.2.length = true) : alikeB x x = true := (alikeB_iff x x).2 ⟨h, h, rfl, rfl, rfl, rfl⟩
theorem alikeL_one {x : PB} (h : okB x.1 x.2.length = true) : alikeL [x] = true := (alikeL_iff _).2 ⟨by simp, by simp, fun a ha b hb => by
 rw [List.mem_singleton.1 ha, List.mem_singleton.1 hb]
 exact alike_self h⟩
theorem join_piece {x : PB} (h : okB x.1 x.2.length = true) (hc : ¬ (x.1.off = 0 ∧ x.1.more = false)) (h0 : 0 ≤ x.1.off) : (joinL [x]).1 = 3 := by
 cases hm : x.1.more with
 | true =>
  rw [joinL_three (alikeL_one h) (disagree_one x) (by simp [endL, hm])]
 | false =>
  have hoff : x.1.off ≠ 0 := fun e => hc ⟨e, hm⟩
  have he : endL [x] = some (endOf x) := by simp [endL, hm]
  have hb : ∀ n : Nat, 0 < n → bytesL [x] n = none := by
   intro n hn
   induction n with
   | zero => omega
   | succ n ih =>
    unfold bytesL
    by_cases h1 : n = 0
    ·subst h1
     have hh : hasB x ((0 : Nat) : Int) = false := by
      unfold hasB
      rw [Bool.and_eq_false_iff]
      left
      simp
      omega
     simp only [bytesL, List.find?_cons, hh, List.find?_nil]
    ·rw [ih (by omega)]
  have hpos : 0 < (endOf x).toNat := by
   unfold endOf
   omega
  rw [joinL_lack (alikeL_one h) (disagree_one x) he (hb _ hpos)]
theorem okB_off {p : Pk} {n : Nat} (h : okB p n = true) : 0 ≤ p.off := by
 unfold okB offB inB at h
 simp only [Bool.and_eq_true, decide_eq_true_eq] at h
 omega
theorem join_first {x : PB} {r : List PB} (h : (joinL (x :: r)).1 = 3) : okB x.1 x.2.length = true ∧ ¬ (x.1.off = 0 ∧ x.1.more = false) := by
 have ha : alikeL (x :: r) = true := by
  cases e : alikeL (x :: r) with
  | true => rfl
  | false => have := (join_one _).2 e; omega
 have hok := ((alikeB_iff _ _).1 (((alikeL_iff _).1 ha).2.2 x (List.mem_cons_self ..) x (List.mem_cons_self ..))).1
 refine ⟨hok, fun ⟨h0, hm⟩ => ?_⟩
 have hd : disagreeL (x :: r) = false := by
  cases e : disagreeL (x :: r) with
  | false => rfl
  | true => have := (join_two _).2 ⟨ha, e⟩; omega
 have he : endL (x :: r) = some (endOf x) := by simp [endL, hm]
 have hb : ∀ n : Nat, (n : Int) ≤ endOf x → ∃ bs, bytesL (x :: r) n = some bs := by
  intro n
  induction n with
  | zero => intro _; exact ⟨[], rfl⟩
  | succ n ih =>
   intro hn
   obtain ⟨bs, hbs⟩ := ih (by omega)
   have hh : hasB x (n : Int) = true := by
    unfold hasB
    rw [Bool.and_eq_true, decide_eq_true_eq, decide_eq_true_eq]
    omega
   exact ⟨bs ++ [byteAt x n], by unfold bytesL; rw [hbs]; simp only [List.find?_cons, hh]⟩
 obtain ⟨bs, hbs⟩ := hb (endOf x).toNat (by unfold endOf; omega)
 rw [joinL_zero ha hd he hbs] at h
 cases h
theorem waits_first_key {s : SV} (h : waits s) : ∃ x r, s.xs = x :: r ∧ okB x.p x.zs.length = true ∧ ¬ (x.p.off = 0 ∧ x.p.more = false) := by
 obtain ⟨x, hx⟩ := waits_first h
 cases hs : s.xs with
 | nil => rw [hs] at hx; simp at hx
 | cons y r =>
  have h3 := h.1
  rw [hs, List.map_cons] at h3
  obtain ⟨h1, h2⟩ := join_first h3
  exact ⟨y, r, rfl, h1, h2⟩
theorem firstAlike_key {s t s' t' : SV} (hs : s'.xs[0]?.map RV.key = s.xs[0]?.map RV.key) (ht : t'.xs[0]?.map RV.key = t.xs[0]?.map RV.key) (h : firstAlike s' t') : firstAlike s t := by
 obtain ⟨x, y, h1, h2, h3⟩ := h
 rw [h1, Option.map_some] at hs
 rw [h2, Option.map_some] at ht
 cases hx : s.xs[0]? with
 | none => rw [hx] at hs; cases hs
 | some x0 =>
  cases hy : t.xs[0]? with
  | none => rw [hy] at ht; cases ht
  | some y0 =>
   rw [hx, Option.map_some] at hs
   rw [hy, Option.map_some] at ht
   refine ⟨x0, y0, hx, hy, ?_⟩
   rw [← Option.some.inj hs, ← Option.some.inj ht]
   exact h3
theorem benchOk_set {now : Int} {ss : List SV} {i : Nat} {s t : SV} (h : benchOk now ss) (hi : ss[i]? = some s) (hw : waits t) (hs : t.since = s.since) (hf : t.xs[0]?.map RV.key = s.xs[0]?.map RV.key) : benchOk now (ss.set i t) := by
 obtain ⟨h1, h2, h3, h4⟩ := benchOk_pw.1 h
 obtain ⟨hil, hie⟩ := List.getElem?_eq_some_iff.1 hi
 have hp := List.pairwise_iff_getElem.1 h4
 refine benchOk_pw.2 ⟨h1, by rw [List.length_set]; exact h2, fun u hu => ?_, List.pairwise_iff_getElem.2 fun a b ha hb hab => ?_⟩
 ·rcases List.mem_or_eq_of_mem_set hu with hu | hu
  ·exact h3 u hu
  ·rw [hu]
   have h5 := (h3 s (List.mem_of_getElem? hi)).1
   refine ⟨?_, hw⟩
   unfold sinceOk at h5 ⊢
   rw [hs]
   exact h5
 ·rw [List.length_set] at ha hb
  have h5 := hp a b ha hb hab
  have key : ∀ k (hk : k < ss.length), ((ss.set i t)[k]'(by rw [List.length_set]; exact hk)).since = ss[k].since ∧ ((ss.set i t)[k]'(by rw [List.length_set]; exact hk)).xs[0]?.map RV.key = ss[k].xs[0]?.map RV.key := by
   intro k hk
   rw [List.getElem_set]
   split
   ·rename_i e
    subst e
    rw [hie]
    exact ⟨hs, hf⟩
   ·exact ⟨rfl, rfl⟩
  obtain ⟨ka1, ka2⟩ := key a ha
  obtain ⟨kb1, kb2⟩ := key b hb
  exact ⟨by rw [ka1, kb1]; exact h5.1, fun hx => h5.2 (firstAlike_key ka2 kb2 hx)⟩
theorem map_erase' {α β : Type} (f : α → β) : ∀ (l : List α) (i : Nat), (l.eraseIdx i).map f = (l.map f).eraseIdx i
 | [], _ => by simp
 | _ :: _, 0 => rfl
 | a :: r, i + 1 => by
  rw [List.eraseIdx_cons_succ, List.map_cons, List.map_cons, List.eraseIdx_cons_succ, map_erase' f r i]
def rvOf (x : PB) : RV := ⟨x.1, none, 0, x.2⟩
theorem benchOk_erase {now : Int} {ss : List SV} (h : benchOk now ss) (i : Nat) : benchOk now (ss.eraseIdx i) := by
 obtain ⟨h1, h2, h3, h4⟩ := benchOk_pw.1 h
 have hs := List.eraseIdx_sublist ss i
 exact benchOk_pw.2 ⟨h1, Nat.le_trans hs.length_le h2, fun s hm => h3 s (hs.subset hm), h4.sublist hs⟩
theorem spoil_waits {s : SV} (h : waits s) : waits ⟨s.a, s.c, s.xs.take 1, s.since, true⟩ := by
 obtain ⟨x, r, hx, hok, hc⟩ := waits_first_key h
 have e : s.xs.take 1 = [x] := by rw [hx]; rfl
 refine ⟨?_, fun _ => by show (s.xs.take 1).length = 1; rw [e]; rfl⟩
 show (joinL ((s.xs.take 1).map RV.key)).1 = 3
 rw [e]
 exact join_piece (x := x.key) hok hc (okB_off hok)
theorem take_ok {now : Int} {ss ts : List SV} {x y : PB} {c : Int} (h : benchOk now ss) (hk : takeK now (ss.map SV.key) x = (ts.map SV.key, y, c)) : benchOk now ts := by
 have done : ∀ us : List SV, benchOk now us → ts.map SV.key = us.map SV.key → benchOk now ts := fun us hu he => (benchOk_iff he).2 hu
 unfold takeK at hk
 split at hk
 ·rename_i hok
  split at hk
  ·exact done ss h (congrArg Prod.fst hk).symm
  ·rename_i hcut
   unfold pieceK at hk
   split at hk
   ·rename_i hnone
    have hno : ∀ s ∈ ss, keyS s.key ≠ some (k4of x.1) := fun s hs e => by
     have hlt : (ss.map SV.key).findIdx (hitK x) < (ss.map SV.key).length := List.findIdx_lt_length.2 ⟨s.key, List.mem_map.2 ⟨s, hs, rfl⟩, by simp [hitK, e]⟩
     rw [List.getElem?_eq_getElem hlt] at hnone
     cases hnone
    obtain ⟨h1, h2, h3, h4⟩ := benchOk_pw.1 h
    have hroom : ∃ rs : List SV, rs.map SV.key = roomK (ss.map SV.key) ∧ List.Sublist rs ss ∧ rs.length ≤ 3 := by
     unfold roomK
     rw [List.length_map]
     split
     ·exact ⟨ss.tail, by rw [List.map_tail], List.tail_sublist ss, by rw [List.length_tail]; omega⟩
     ·exact ⟨ss, rfl, List.Sublist.refl _, by omega⟩
    obtain ⟨rs, hr1, hr2, hr3⟩ := hroom
    refine done (rs ++ [⟨none, 0, [rvOf x], now, false⟩]) (benchOk_pw.2 ⟨h1, by simp; omega, fun s hs => ?_, List.pairwise_append.2 ⟨h4.sublist hr2, List.pairwise_singleton _ _, fun a ha b hb => ?_⟩⟩) ?_
    ·rcases List.mem_append.1 hs with hs | hs
     ·exact h3 s (hr2.subset hs)
     ·rw [List.mem_singleton.1 hs]
      exact ⟨⟨Int.le_refl _, h1.1, by show now - 6 < now; omega⟩, join_piece hok hcut (okB_off hok), fun hb => by cases hb⟩
    ·rw [List.mem_singleton.1 hb]
     have ham := hr2.subset ha
     refine ⟨(h3 a ham).1.1, fun ⟨u, v, hu, hv, huv⟩ => hno a ham ?_⟩
     have e1 : alikeTo a (rvOf x) := ⟨u, hu, by
      have : v = rvOf x := by simpa using hv.symm
      rw [← this]
      exact huv⟩
     exact (alike_hit (x := rvOf x) (h3 a ham).2 hok).1 e1
    ·refine (congrArg Prod.fst hk).symm.trans ?_
     rw [List.map_append, hr1]
     rfl
   ·rename_i s0 hsome
    obtain ⟨i, hi⟩ : ∃ i, (ss.map SV.key).findIdx (hitK x) = i := ⟨_, rfl⟩
    rw [hi] at hk hsome
    rw [List.getElem?_map] at hsome
    cases hs : ss[i]? with
    | none => rw [hs] at hsome; cases hsome
    | some s =>
     rw [hs] at hsome
     obtain rfl := Option.some.inj hsome
     have hw := ((benchOk_pw.1 h).2.2.1 s (List.mem_of_getElem? hs)).2
     have hspoil : benchOk now (ss.set i ⟨s.a, s.c, s.xs.take 1, s.since, true⟩) := benchOk_set h hs (spoil_waits hw) rfl (by
      show (s.xs.take 1)[0]?.map RV.key = _
      rw [List.getElem?_take_of_lt (by omega)])
     have hspk : (ss.map SV.key).set i (spoilK s.key) = (ss.set i ⟨s.a, s.c, s.xs.take 1, s.since, true⟩).map SV.key := by
      rw [List.map_set]
      congr 1
      simp [spoilK, SV.key, List.map_take]
     unfold putK at hk
     split at hk
     ·exact done ss h (congrArg Prod.fst hk).symm
     ·rename_i hb
      split at hk
      ·exact done ss h (congrArg Prod.fst hk).symm
      ·split at hk
       ·exact done _ hspoil ((congrArg Prod.fst hk).symm.trans hspk)
       ·split at hk
        ·refine done _ (benchOk_erase h i) ((congrArg Prod.fst hk).symm.trans ?_)
         show (ss.map SV.key).eraseIdx i = _
         exact (map_erase' SV.key ss i).symm
        ·split at hk
         ·rename_i hj
          refine done (ss.set i ⟨s.a, s.c, s.xs ++ [rvOf x], s.since, s.bad⟩) (benchOk_set h hs ⟨?_, fun hb' => absurd hb' hb⟩ rfl ?_) ((congrArg Prod.fst hk).symm.trans ?_)
          ·show (joinL ((s.xs ++ [rvOf x]).map RV.key)).1 = 3
           rw [List.map_append]
           exact hj
          ·obtain ⟨u, r, hx, _⟩ := waits_first_key hw
           show (s.xs ++ [rvOf x])[0]?.map RV.key = _
           rw [hx]
           rfl
          ·rw [List.map_set]
           show (ss.map SV.key).set i (s.key.1 ++ [x], s.key.2.1, s.key.2.2) = _
           congr 1
           show _ = ((s.xs ++ [rvOf x]).map RV.key, s.since, s.bad)
           rw [List.map_append]
           rfl
         ·exact done _ hspoil ((congrArg Prod.fst hk).symm.trans hspk)
 ·exact done ss h (congrArg Prod.fst hk).symm
def BT (w : World) (lo : Nat) (oa : Option Addr) (ss : List SV) : Prop := (oa = none ∧ ss = []) ∨ ∃ g, oa = some ⟨g, 0, none⟩ ∧ lo ≤ g ∧ RowB w 39 g (ss.flatMap SV.cells) ∧ ∀ s ∈ ss, SlotB w lo s
theorem BT.kept {w w' : World} {lo : Nat} {oa : Option Addr} {ss : List SV} (h : BT w lo oa ss) (hk : ∀ b, lo ≤ b → b < w.heap.size → w'.heap[b]? = w.heap[b]?) : BT w' lo oa ss := by
 rcases h with h | ⟨g, h1, h2, h3, h4⟩
 ·exact Or.inl h
 ·exact Or.inr ⟨g, h1, h2, h3.kept (hk g h2 h3.lt), fun s hs => (h4 s hs).kept fun b hb => hk b ((h4 s hs).blk b hb).1 ((h4 s hs).blk b hb).2.1⟩
theorem BT.below {w w' : World} {lo : Nat} {oa : Option Addr} {ss : List SV} (h : BT w lo oa ss) (hb : Below w.heap.size w w') : BT w' lo oa ss := h.kept fun b _ hl => hb.block b hl
theorem BT.grown {w w' : World} {lo rb : Nat} {oa : Option Addr} {ss : List SV} (h : BT w lo oa ss) (hg : w.grownBy w' (some rb)) (hr : rb < lo) : BT w' lo oa ss := h.kept fun b h1 h2 => hg.block b h2 (fun e => by have := Option.some.inj e; omega)
theorem BT.le {w : World} {lo lo' : Nat} {oa : Option Addr} {ss : List SV} (h : BT w lo oa ss) (hl : lo' ≤ lo) : BT w lo' oa ss := by
 rcases h with h | ⟨g, h1, h2, h3, h4⟩
 ·exact Or.inl h
 ·exact Or.inr ⟨g, h1, Nat.le_trans hl h2, h3, fun s hs => (h4 s hs).le hl⟩
theorem BT.slq {w : World} {lo : Nat} {oa : Option Addr} {ss : List SV} (h : BT w lo oa ss) : SLq w oa ss := by
 rcases h with ⟨_, h⟩ | ⟨g, h1, h2, h3, h4⟩
 ·exact Or.inl h
 ·refine Or.inr ⟨g, h1, h3.lt, fun k x hx => ?_, fun x hx => (h4 x hx).sok⟩
  have e : ∀ j v, j < 3 → x.cells[j]? = some v → w.cell? ⟨g, k * 3 + j, none⟩ = some v := fun j v hj hv => h3.cell (by rw [flatS_at ss k j x hx hj]; exact hv)
  exact ⟨e 0 _ (by omega) rfl, e 1 _ (by omega) rfl, e 2 _ (by omega) rfl⟩
theorem AnsV.bt {w : World} {lo : Nat} {oa : Option Addr} {ts : List SV} (h : AnsV w lo oa ts) : BT w lo oa ts := by
 rcases h with h | ⟨g, h1, h2⟩
 ·exact Or.inl h
 ·exact Or.inr ⟨g, h1, h2.low, h2.row, h2.forest.each⟩
structure BS (w : World) (rb M b2 b3 : Nat) (now : Int) (oa : Option Addr) (cl : Nat) (ss : List SV) (u : World) : Prop where
 gr : w.grownBy u (some rb)
 rd : Rdr u rb M
 r2 : u.heap[b2]? = some (.cells #[.int .i64 0, .slice none 0 0] 27 (0, 0))
 r3 : u.heap[b3]? = some (.cells #[.int .i64 now, .slice oa ss.length cl] 27 (0, 0))
 bt : BT u w.heap.size oa ss
 len : ss.length ≤ 4
 cap : ss.length ≤ cl
 capM : cl ≤ 9223372036854775807
 l2 : w.heap.size ≤ b2
 l3 : w.heap.size ≤ b3
 ne : b2 ≠ b3
 nb : benchOk now ss
theorem BS.grown {w : World} {rb M M' b2 b3 : Nat} {now : Int} {oa : Option Addr} {cl : Nat} {ss : List SV} {u u' : World} (h : BS w rb M b2 b3 now oa cl ss u) (hg : u.grownBy u' (some rb)) (hR : Rdr u' rb M') (hr : rb < w.heap.size) : BS w rb M' b2 b3 now oa cl ss u' := by
 have h2 := h.l2; have h3 := h.l3
 exact ⟨grown_trans h.gr hg, hR, (hg.block _ (lt_of_block h.r2) (fun e => by have := Option.some.inj e; omega)).trans h.r2, (hg.block _ (lt_of_block h.r3) (fun e => by have := Option.some.inj e; omega)).trans h.r3, h.bt.grown hg hr, h.len, h.cap, h.capM, h.l2, h.l3, h.ne, h.nb⟩
theorem grown_of_below {u u' : World} {r : Option Nat} (hb : Below u.heap.size u u') : u.grownBy u' r := ⟨hb.os, hb.tape, hb.output, hb.size, fun k hk _ => hb.block k hk⟩
theorem BS.below {w : World} {rb M b2 b3 : Nat} {now : Int} {oa : Option Addr} {cl : Nat} {ss : List SV} {u u' : World} (h : BS w rb M b2 b3 now oa cl ss u) (hb : Below u.heap.size u u') (hr : rb < w.heap.size) : BS w rb M b2 b3 now oa cl ss u' := h.grown (grown_of_below hb) (h.rd.below hb) hr
theorem BS.put {w : World} {rb M b2 b3 : Nat} {now now' : Int} {oa oa' : Option Addr} {cl cl' : Nat} {ss ss' : List SV} {u : World} (h : BS w rb M b2 b3 now oa cl ss u) (hb : BT u w.heap.size oa' ss') (hl : ss'.length ≤ 4) (hc : ss'.length ≤ cl') (hm : cl' ≤ 9223372036854775807) (hn : benchOk now' ss') (hr : rb < w.heap.size) :
  BS w rb M b2 b3 now' oa' cl' ss' ((u.setCell ⟨b3, 0, none⟩ (.int .i64 now')).setCell ⟨b3, 1, none⟩ (.slice oa' ss'.length cl')) := by
 have h3 := h.l3
 have hf : ∀ b, b ≠ b3 → ((u.setCell ⟨b3, 0, none⟩ (.int .i64 now')).setCell ⟨b3, 1, none⟩ (.slice oa' ss'.length cl')).heap[b]? = u.heap[b]? := fun b hb => (zHs hb).trans (zHs hb)
 have hs : ((u.setCell ⟨b3, 0, none⟩ (.int .i64 now')).setCell ⟨b3, 1, none⟩ (.slice oa' ss'.length cl')).heap.size = u.heap.size := by simp [World.setCell]
 have nb3 : ∀ (b : Nat) (cu : Array Value) (t : TypeId), u.heap[b]? = some (.cells cu t (0, 0)) → t ≠ 27 → b ≠ b3 := fun b cu t h1 ht e => by
  rw [e, h.r3] at h1
  cases h1
  exact ht rfl
 refine ⟨⟨?_, ?_, ?_, by rw [hs]; exact h.gr.size, fun k hk hne => (hf k (by omega)).trans (h.gr.block k hk hne)⟩, h.rd.keep (by omega) fun j hj => hf j (by omega), (hf _ h.ne).trans h.r2, ?_, ?_, hl, hc, hm, h.l2, h.l3, h.ne, hn⟩
 ·exact Eq.trans (by simp [World.setCell]) h.gr.os
 ·exact Eq.trans (by simp [World.setCell]) h.gr.tape
 ·exact Eq.trans (by simp [World.setCell]) h.gr.output
 ·exact set_at (o := 1) (set_at (o := 0) h.r3)
 ·rcases hb with hb | ⟨g, k1, k2, k3, k4⟩
  ·exact Or.inl hb
  ·obtain ⟨cu, hcu, _⟩ := id k3
   refine Or.inr ⟨g, k1, k2, k3.kept (hf g (nb3 _ _ _ hcu (by decide))), fun s hs => (k4 s hs).kept fun b hb => hf b ?_⟩
   obtain ⟨_, _, cu', t', h5, h6⟩ := (k4 s hs).blk b hb
   exact nb3 _ _ _ h5 (by rcases h6 with rfl | rfl <;> decide)
def TakeDrawn (w : World) (e : Ending) (w' : World) : Prop := ∃ (now : Int) (oa : Option Addr) (cl : Nat) (ss : List SV) (x : RV) (lo : Nat), e = .returned (.tuple #[.agg #[.int .i64 now, .slice oa ss.length cl], .agg #[.int .i64 x.p.src, .int .i64 x.p.dst, .int .i64 x.p.kind, .int .i64 x.p.id, .int .i64 x.p.hops, .bool x.p.whole, .int .i64 x.p.off, .bool x.p.more, .slice x.a x.zs.length x.c]]) ∧ BT w' lo oa ss ∧ ROk w' x ∧ ss.length ≤ 8 ∧ ss.length ≤ cl ∧ cl ≤ 9223372036854775807 ∧ Below w.heap.size w w'
set_option maxHeartbeats 6400000 in
theorem wfList_same (g g' cl cl' : Nat) (xs ys : List RV) (w : World) (hL : RL w g xs) (hL' : RL w g' ys) (hk : ys.map RV.key = xs.map RV.key) (hm : xs.length ≤ 1048576) :
  Calls Tryz.prog 31 #[.slice (some ⟨g, 0, none⟩) xs.length cl, .slice (some ⟨g', 0, none⟩) xs.length cl'] w fun e w' => e = .returned (.bool true) ∧ Below w.heap.size w w' := by
 have HL : Hid (RL w g xs) := hL
 have HL' : Hid (RL w g' ys) := hL'
 have HK : Hid (ys.map RV.key = xs.map RV.key) := hk
 have hne : ((xs.length : Int) != (xs.length : Int)) = false := by simp
 clear hL hL' hk
 go_enter Tryz.func31, Tryz.ntmps31
 go_wp2
 go_loopw [5] (fun i wr => ∃ k : Nat, k ≤ xs.length ∧ i = .int .i64 k ∧ Hid (Below w.heap.size w wr)) (fun i _ => xs.length - (intOf i).toNat)
 case atStart => exact ⟨0, by omega, rfl, Below.refl _ _⟩
 case round =>
  obtain ⟨k, hk, rfl, HB⟩ := hrel
  have hsz := HB.out.size
  by_cases hlt : k < xs.length
  ·obtain ⟨x, hx⟩ := get_of_lt hlt
   have hyl : ys.length = xs.length := by have := congrArg List.length HK.out; simpa using this
   obtain ⟨y, hy⟩ := get_of_lt (show k < ys.length by omega)
   have hkey : y.key = x.key := by
    have h := congrArg (fun l => l[k]?) HK.out
    simp only [List.getElem?_map, hx, hy, Option.map_some] at h
    exact Option.some.inj h
   have hp : y.p = x.p := congrArg Prod.fst hkey
   have hz : y.zs = x.zs := congrArg Prod.snd hkey
   have Lr := HL.out.below HB.out
   have Lr' := HL'.out.below HB.out
   have hi : (k : Int) < (xs.length : Int) := by omega
   obtain ⟨c0, c1, c2, c3, c4, c5, c6, c7, c8⟩ := Lr.elem k x hx
   have Ey := Lr'.elem k y hy
   have RX : Hid (ROk wr x) := Lr.each x (List.mem_of_getElem? hx)
   have RY := (Lr'.each y (List.mem_of_getElem? hy)).rd
   rw [hz] at RY
   have RYH : Hid (RdB wr y.a x.zs.length x.zs) := RY
   obtain ⟨k0, k1, k2, k3, k4, k5, k6, k7, k8⟩ := Ey
   rw [hp] at k0 k1 k2 k3 k4 k5 k6 k7
   rw [hz] at k8
   have hgr := Lr.lt
   have hgr' := Lr'.lt
   have KE : Hid (∀ W : World, Below wr.heap.size wr W → Calls Tryz.prog 12 #[.agg #[.int .i64 x.p.src, .int .i64 x.p.dst, .int .i64 x.p.kind, .int .i64 x.p.id, .int .i64 x.p.hops, .bool x.p.whole, .int .i64 x.p.off, .bool x.p.more, .slice x.a x.zs.length x.c], .agg #[.int .i64 x.p.src, .int .i64 x.p.dst, .int .i64 x.p.kind, .int .i64 x.p.id, .int .i64 x.p.hops, .bool x.p.whole, .int .i64 x.p.off, .bool x.p.more, .slice y.a x.zs.length y.c]] W fun e w' => e = .returned (.bool true) ∧ Below W.heap.size W w') := fun W h => wfSame_same x.p x.a y.a x.zs.length x.c y.c x.zs W (RX.out.rd.below h) (RYH.out.below h) RX.out.len
   clear hx hy Lr Lr' RY hkey hp hz
   go_wp2
   go_region_held3 (fun w' => w'.cell? ⟨g, k * 9, none⟩ = some (.int .i64 x.p.src) ∧ w'.cell? ⟨g, k * 9 + 1, none⟩ = some (.int .i64 x.p.dst) ∧ w'.cell? ⟨g, k * 9 + 2, none⟩ = some (.int .i64 x.p.kind) ∧ w'.cell? ⟨g, k * 9 + 3, none⟩ = some (.int .i64 x.p.id) ∧ w'.cell? ⟨g, k * 9 + 4, none⟩ = some (.int .i64 x.p.hops) ∧ w'.cell? ⟨g, k * 9 + 5, none⟩ = some (.bool x.p.whole) ∧ w'.cell? ⟨g, k * 9 + 6, none⟩ = some (.int .i64 x.p.off) ∧ w'.cell? ⟨g, k * 9 + 7, none⟩ = some (.bool x.p.more) ∧ w'.cell? ⟨g, k * 9 + 8, none⟩ = some (.slice x.a x.zs.length x.c) ∧ w'.cell? ⟨g', k * 9, none⟩ = some (.int .i64 x.p.src) ∧ w'.cell? ⟨g', k * 9 + 1, none⟩ = some (.int .i64 x.p.dst) ∧ w'.cell? ⟨g', k * 9 + 2, none⟩ = some (.int .i64 x.p.kind) ∧ w'.cell? ⟨g', k * 9 + 3, none⟩ = some (.int .i64 x.p.id) ∧ w'.cell? ⟨g', k * 9 + 4, none⟩ = some (.int .i64 x.p.hops) ∧ w'.cell? ⟨g', k * 9 + 5, none⟩ = some (.bool x.p.whole) ∧ w'.cell? ⟨g', k * 9 + 6, none⟩ = some (.int .i64 x.p.off) ∧ w'.cell? ⟨g', k * 9 + 7, none⟩ = some (.bool x.p.more) ∧ w'.cell? ⟨g', k * 9 + 8, none⟩ = some (.slice y.a x.zs.length y.c)) (go_keep)
    (first
     | (go_at_call 12; (with_reducible refine (KE.out _ (draw1 _)).mono ?_); rintro e w1 ⟨rfl, b1⟩; have hc1 : ∀ b o, b < wr.heap.size → w1.cell? ⟨b, o, none⟩ = wr.cell? ⟨b, o, none⟩ := fun b o h => b1.cell (p := ⟨b, o, none⟩) h))
   go_wp2
   go_roundw
   case rel => exact ⟨k + 1, by omega, by go_num, HB.out.drew.trans (b1.mono hsz)⟩
   case measure => simp [intOf]; omega
  ·go_wp2
   go_ret
   exact ⟨rfl, HB.out⟩
end Go.Proofs.YtjbkgmbakjnlhaaGreatDoor
