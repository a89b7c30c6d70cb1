import Derived.Test.YtjbkgmbakjnlhaaGreatDoorPartAs
import Derived.Test.YtjbkgmbakjnlhaaGreatDoorPartAq
import Derived.Test.YtjbkgmbakjnlhaaGreatDoorPartAu
import Derived.Test.YtjbkgmbakjnlhaaGreatDoorPartAa
namespace Go.Proofs.YtjbkgmbakjnlhaaGreatDoor
set_option maxRecDepth 100000
open Go.RowKit
theorem rises_all {ss : List SV} (h : ∀ (j : Nat) s, ss[j]? = some s → rises ss j s) : ∀ (d i : Nat) (r s : SV), ss[i]? = some r → ss[i + d]? = some s → r.since ≤ s.since
 | 0, i, r, s, hr, hs => by
  rw [Nat.add_zero] at hs
  rw [hr] at hs
  obtain rfl := Option.some.inj hs
  exact Int.le_refl _
 | d + 1, i, r, s, hr, hs => by
  have hlt := (List.getElem?_eq_some_iff.1 hs).1
  have hq : ss[i + d]? = some ss[i + d] := List.getElem?_eq_getElem (by omega)
  have h1 := rises_all h d i r _ hr hq
  have h2 := h (i + (d + 1)) s hs ss[i + d] (by omega) (by rw [show i + (d + 1) - 1 = i + d by omega]; exact hq)
  omega
def benchPw (now : Int) (ss : List SV) : Prop := (0 ≤ now ∧ now ≤ 1000000) ∧ ss.length ≤ 4 ∧ (∀ s ∈ ss, sinceOk now s ∧ waits s) ∧ ss.Pairwise fun r s => r.since ≤ s.since ∧ ¬ firstAlike r s
theorem benchOk_pw {now : Int} {ss : List SV} : benchOk now ss ↔ benchPw now ss := by
 constructor
 ·rintro ⟨h1, h2, h3⟩
  refine ⟨h1, h2, fun s hs => ?_, List.pairwise_iff_getElem.2 fun i j hi hj hij => ⟨?_, ?_⟩⟩
  ·obtain ⟨j, hj⟩ := List.getElem?_of_mem hs
   exact ⟨(h3 j s hj).1, (h3 j s hj).2.1⟩
  ·refine rises_all (fun j s hs => (h3 j s hs).2.2.1) (j - i) i _ _ (List.getElem?_eq_getElem hi) ?_
   rw [show i + (j - i) = j by omega]
   exact List.getElem?_eq_getElem hj
  ·exact (h3 j _ (List.getElem?_eq_getElem hj)).2.2.2 i _ hij (List.getElem?_eq_getElem hi)
 ·rintro ⟨h1, h2, h3, h4⟩
  have hp := List.pairwise_iff_getElem.1 h4
  refine ⟨h1, h2, fun j s hs => ?_⟩
  obtain ⟨hj, rfl⟩ := List.getElem?_eq_some_iff.1 hs
  refine ⟨(h3 _ (List.getElem_mem hj)).1, (h3 _ (List.getElem_mem hj)).2, fun r h0 hr => ?_, fun i r hi hr => ?_⟩
  ·obtain ⟨hr1, rfl⟩ := List.getElem?_eq_some_iff.1 hr
   exact (hp (j - 1) j hr1 hj (by omega)).1
  ·obtain ⟨hr1, rfl⟩ := List.getElem?_eq_some_iff.1 hr
   exact (hp i j hr1 hj hi).2
theorem disagree_one (x : PB) : disagreeL [x] = false := by
 unfold disagreeL
 simp [against_self]
theorem alike_self {x : PB} (h : okB x.1 x.2.length = true) : alikeB x x = true := (alikeB_iff x x).2 ⟨h, h, rfl, rfl, rfl, rfl⟩
theorem alikeL_one {x : PB} (h : okB x.1 x.2.length = true) : alikeL [x] = true := (alikeL_iff _).2 ⟨by simp, by simp, fun a ha b hb => by
 rw [List.mem_singleton.1 ha, List.mem_singleton.1 hb]
 exact alike_self h⟩
theorem join_piece {x : PB} (h : okB x.1 x.2.length = true) (hc : ¬ (x.1.off = 0 ∧ x.1.more = false)) (h0 : 0 ≤ x.1.off) : (joinL [x]).1 = 3 := by
 cases hm : x.1.more with
 | true =>
  rw [joinL_three (alikeL_one h) (disagree_one x) (by simp [endL, hm])]
 | false =>
  have hoff : x.1.off ≠ 0 := fun e => hc ⟨e, hm⟩
  have he : endL [x] = some (endOf x) := by simp [endL, hm]
  have hb : ∀ n : Nat, 0 < n → bytesL [x] n = none := by
   intro n hn
   induction n with
   | zero => omega
   | succ n ih =>
    unfold bytesL
    by_cases h1 : n = 0
    ·subst h1
     have hh : hasB x ((0 : Nat) : Int) = false := by
      unfold hasB
      rw [Bool.and_eq_false_iff]
      left
      simp
      omega
     simp only [bytesL, List.find?_cons, hh, List.find?_nil]
    ·rw [ih (by omega)]
  have hpos : 0 < (endOf x).toNat := by
   unfold endOf
   omega
  rw [joinL_lack (alikeL_one h) (disagree_one x) he (hb _ hpos)]
theorem okB_off {p : Pk} {n : Nat} (h : okB p n = true) : 0 ≤ p.off := by
 unfold okB offB inB at h
 simp only [Bool.and_eq_true, decide_eq_true_eq] at h
 omega
theorem join_first {x : PB} {r : List PB} (h : (joinL (x :: r)).1 = 3) : okB x.1 x.2.length = true ∧ ¬ (x.1.off = 0 ∧ x.1.more = false) := by
 have ha : alikeL (x :: r) = true := by
  cases e : alikeL (x :: r) with
  | true => rfl
  | false => have := (join_one _).2 e; omega
 have hok := ((alikeB_iff _ _).1 (((alikeL_iff _).1 ha).2.2 x (List.mem_cons_self ..) x (List.mem_cons_self ..))).1
 refine ⟨hok, fun ⟨h0, hm⟩ => ?_⟩
 have hd : disagreeL (x :: r) = false := by
  cases e : disagreeL (x :: r) with
  | false => rfl
  | true => have := (join_two _).2 ⟨ha, e⟩; omega
 have he : endL (x :: r) = some (endOf x) := by simp [endL, hm]
 have hb : ∀ n : Nat, (n : Int) ≤ endOf x → ∃ bs, bytesL (x :: r) n = some bs := by
  intro n
  induction n with
  | zero => intro _; exact ⟨[], rfl⟩
  | succ n ih =>
   intro hn
   obtain ⟨bs, hbs⟩ := ih (by omega)
   have hh : hasB x (n : Int) = true := by
    unfold hasB
    rw [Bool.and_eq_true, decide_eq_true_eq, decide_eq_true_eq]
    omega
   exact ⟨bs ++ [byteAt x n], by unfold bytesL; rw [hbs]; simp only [List.find?_cons, hh]⟩
 obtain ⟨bs, hbs⟩ := hb (endOf x).toNat (by unfold endOf; omega)
 rw [joinL_zero ha hd he hbs] at h
 cases h
theorem waits_first_key {s : SV} (h : waits s) : ∃ x r, s.xs = x :: r ∧ okB x.p x.zs.length = true ∧ ¬ (x.p.off = 0 ∧ x.p.more = false) := by
 obtain ⟨x, hx⟩ := waits_first h
 cases hs : s.xs with
 | nil => rw [hs] at hx; simp at hx
 | cons y r =>
  have h3 := h.1
  rw [hs, List.map_cons] at h3
  obtain ⟨h1, h2⟩ := join_first h3
  exact ⟨y, r, rfl, h1, h2⟩
theorem firstAlike_key {s t s' t' : SV} (hs : s'.xs[0]?.map RV.key = s.xs[0]?.map RV.key) (ht : t'.xs[0]?.map RV.key = t.xs[0]?.map RV.key) (h : firstAlike s' t') : firstAlike s t := by
 obtain ⟨x, y, h1, h2, h3⟩ := h
 rw [h1, Option.map_some] at hs
 rw [h2, Option.map_some] at ht
 cases hx : s.xs[0]? with
 | none => rw [hx] at hs; cases hs
 | some x0 =>
  cases hy : t.xs[0]? with
  | none => rw [hy] at ht; cases ht
  | some y0 =>
   rw [hx, Option.map_some] at hs
   rw [hy, Option.map_some] at ht
   refine ⟨x0, y0, hx, hy, ?_⟩
   rw [← Option.some.inj hs, ← Option.some.inj ht]
   exact h3
theorem benchOk_set {now : Int} {ss : List SV} {i : Nat} {s t : SV} (h : benchOk now ss) (hi : ss[i]? = some s) (hw : waits t) (hs : t.since = s.since) (hf : t.xs[0]?.map RV.key = s.xs[0]?.map RV.key) : benchOk now (ss.set i t) := by
 obtain ⟨h1, h2, h3, h4⟩ := benchOk_pw.1 h
 obtain ⟨hil, hie⟩ := List.getElem?_eq_some_iff.1 hi
 have hp := List.pairwise_iff_getElem.1 h4
 refine benchOk_pw.2 ⟨h1, by rw [List.length_set]; exact h2, fun u hu => ?_, List.pairwise_iff_getElem.2 fun a b ha hb hab => ?_⟩
 ·rcases List.mem_or_eq_of_mem_set hu with hu | hu
  ·exact h3 u hu
  ·rw [hu]
   have h5 := (h3 s (List.mem_of_getElem? hi)).1
   refine ⟨?_, hw⟩
   unfold sinceOk at h5 ⊢
   rw [hs]
   exact h5
 ·rw [List.length_set] at ha hb
  have h5 := hp a b ha hb hab
  have key : ∀ k (hk : k < ss.length), ((ss.set i t)[k]'(by rw [List.length_set]; exact hk)).since = ss[k].since ∧ ((ss.set i t)[k]'(by rw [List.length_set]; exact hk)).xs[0]?.map RV.key = ss[k].xs[0]?.map RV.key := by
   intro k hk
   rw [List.getElem_set]
   split
   ·rename_i e
    subst e
    rw [hie]
    exact ⟨hs, hf⟩
   ·exact ⟨rfl, rfl⟩
  obtain ⟨ka1, ka2⟩ := key a ha
  obtain ⟨kb1, kb2⟩ := key b hb
  exact ⟨by rw [ka1, kb1]; exact h5.1, fun hx => h5.2 (firstAlike_key ka2 kb2 hx)⟩
theorem map_erase' {α β : Type} (f : α → β) : ∀ (l : List α) (i : Nat), (l.eraseIdx i).map f = (l.map f).eraseIdx i
 | [], _ => by simp
 | _ :: _, 0 => rfl
 | a :: r, i + 1 => by
  rw [List.eraseIdx_cons_succ, List.map_cons, List.map_cons, List.eraseIdx_cons_succ, map_erase' f r i]
def rvOf (x : PB) : RV := ⟨x.1, none, 0, x.2⟩
theorem benchOk_erase {now : Int} {ss : List SV} (h : benchOk now ss) (i : Nat) : benchOk now (ss.eraseIdx i) := by
 obtain ⟨h1, h2, h3, h4⟩ := benchOk_pw.1 h
 have hs := List.eraseIdx_sublist ss i
 exact benchOk_pw.2 ⟨h1, Nat.le_trans hs.length_le h2, fun s hm => h3 s (hs.subset hm), h4.sublist hs⟩
theorem spoil_waits {s : SV} (h : waits s) : waits ⟨s.a, s.c, s.xs.take 1, s.since, true⟩ := by
 obtain ⟨x, r, hx, hok, hc⟩ := waits_first_key h
 have e : s.xs.take 1 = [x] := by rw [hx]; rfl
 refine ⟨?_, fun _ => by show (s.xs.take 1).length = 1; rw [e]; rfl⟩
 show (joinL ((s.xs.take 1).map RV.key)).1 = 3
 rw [e]
 exact join_piece (x := x.key) hok hc (okB_off hok)
theorem take_ok {now : Int} {ss ts : List SV} {x y : PB} {c : Int} (h : benchOk now ss) (hk : takeK now (ss.map SV.key) x = (ts.map SV.key, y, c)) : benchOk now ts := by
 have done : ∀ us : List SV, benchOk now us → ts.map SV.key = us.map SV.key → benchOk now ts := fun us hu he => (benchOk_iff he).2 hu
 unfold takeK at hk
 split at hk
 ·rename_i hok
  split at hk
  ·exact done ss h (congrArg Prod.fst hk).symm
  ·rename_i hcut
   unfold pieceK at hk
   split at hk
   ·rename_i hnone
    have hno : ∀ s ∈ ss, keyS s.key ≠ some (k4of x.1) := fun s hs e => by
     have hlt : (ss.map SV.key).findIdx (hitK x) < (ss.map SV.key).length := List.findIdx_lt_length.2 ⟨s.key, List.mem_map.2 ⟨s, hs, rfl⟩, by simp [hitK, e]⟩
     rw [List.getElem?_eq_getElem hlt] at hnone
     cases hnone
    obtain ⟨h1, h2, h3, h4⟩ := benchOk_pw.1 h
    have hroom : ∃ rs : List SV, rs.map SV.key = roomK (ss.map SV.key) ∧ List.Sublist rs ss ∧ rs.length ≤ 3 := by
     unfold roomK
     rw [List.length_map]
     split
     ·exact ⟨ss.tail, by rw [List.map_tail], List.tail_sublist ss, by rw [List.length_tail]; omega⟩
     ·exact ⟨ss, rfl, List.Sublist.refl _, by omega⟩
    obtain ⟨rs, hr1, hr2, hr3⟩ := hroom
    refine done (rs ++ [⟨none, 0, [rvOf x], now, false⟩]) (benchOk_pw.2 ⟨h1, by simp; omega, fun s hs => ?_, List.pairwise_append.2 ⟨h4.sublist hr2, List.pairwise_singleton _ _, fun a ha b hb => ?_⟩⟩) ?_
    ·rcases List.mem_append.1 hs with hs | hs
     ·exact h3 s (hr2.subset hs)
     ·rw [List.mem_singleton.1 hs]
      exact ⟨⟨Int.le_refl _, h1.1, by show now - 6 < now; omega⟩, join_piece hok hcut (okB_off hok), fun hb => by cases hb⟩
    ·rw [List.mem_singleton.1 hb]
     have ham := hr2.subset ha
     refine ⟨(h3 a ham).1.1, fun ⟨u, v, hu, hv, huv⟩ => hno a ham ?_⟩
     have e1 : alikeTo a (rvOf x) := ⟨u, hu, by
      have : v = rvOf x := by simpa using hv.symm
      rw [← this]
      exact huv⟩
     exact (alike_hit (x := rvOf x) (h3 a ham).2 hok).1 e1
    ·refine (congrArg Prod.fst hk).symm.trans ?_
     rw [List.map_append, hr1]
     rfl
   ·rename_i s0 hsome
    obtain ⟨i, hi⟩ : ∃ i, (ss.map SV.key).findIdx (hitK x) = i := ⟨_, rfl⟩
    rw [hi] at hk hsome
    rw [List.getElem?_map] at hsome
    cases hs : ss[i]? with
    | none => rw [hs] at hsome; cases hsome
    | some s =>
     rw [hs] at hsome
     obtain rfl := Option.some.inj hsome
     have hw := ((benchOk_pw.1 h).2.2.1 s (List.mem_of_getElem? hs)).2
     have hspoil : benchOk now (ss.set i ⟨s.a, s.c, s.xs.take 1, s.since, true⟩) := benchOk_set h hs (spoil_waits hw) rfl (by
      show (s.xs.take 1)[0]?.map RV.key = _
      rw [List.getElem?_take_of_lt (by omega)])
     have hspk : (ss.map SV.key).set i (spoilK s.key) = (ss.set i ⟨s.a, s.c, s.xs.take 1, s.since, true⟩).map SV.key := by
      rw [List.map_set]
      congr 1
      simp [spoilK, SV.key, List.map_take]
     unfold putK at hk
     split at hk
     ·exact done ss h (congrArg Prod.fst hk).symm
     ·rename_i hb
      split at hk
      ·exact done ss h (congrArg Prod.fst hk).symm
      ·split at hk
       ·exact done _ hspoil ((congrArg Prod.fst hk).symm.trans hspk)
       ·split at hk
        ·refine done _ (benchOk_erase h i) ((congrArg Prod.fst hk).symm.trans ?_)
         show (ss.map SV.key).eraseIdx i = _
         exact (map_erase' SV.key ss i).symm
        ·split at hk
         ·rename_i hj
          refine done (ss.set i ⟨s.a, s.c, s.xs ++ [rvOf x], s.since, s.bad⟩) (benchOk_set h hs ⟨?_, fun hb' => absurd hb' hb⟩ rfl ?_) ((congrArg Prod.fst hk).symm.trans ?_)
          ·show (joinL ((s.xs ++ [rvOf x]).map RV.key)).1 = 3
           rw [List.map_append]
           exact hj
          ·obtain ⟨u, r, hx, _⟩ := waits_first_key hw
           show (s.xs ++ [rvOf x])[0]?.map RV.key = _
           rw [hx]
           rfl
          ·rw [List.map_set]
           show (ss.map SV.key).set i (s.key.1 ++ [x], s.key.2.1, s.key.2.2) = _
           congr 1
           show _ = ((s.xs ++ [rvOf x]).map RV.key, s.since, s.bad)
           rw [List.map_append]
           rfl
         ·exact done _ hspoil ((congrArg Prod.fst hk).symm.trans hspk)
 ·exact done ss h (congrArg Prod.fst hk).symm
def BT (w : World) (lo : Nat) (oa : Option Addr) (ss : List SV) : Prop := (oa = none ∧ ss = []) ∨ ∃ g, oa = some ⟨g, 0, none⟩ ∧ lo ≤ g ∧ RowB w 39 g (ss.flatMap SV.cells) ∧ ∀ s ∈ ss, SlotB w lo s
theorem BT.kept {w w' : World} {lo : Nat} {oa : Option Addr} {ss : List SV} (h : BT w lo oa ss) (hk : ∀ b, lo ≤ b → b < w.heap.size → w'.heap[b]? = w.heap[b]?) : BT w' lo oa ss := by
 rcases h with h | ⟨g, h1, h2, h3, h4⟩
 ·exact Or.inl h
 ·exact Or.inr ⟨g, h1, h2, h3.kept (hk g h2 h3.lt), fun s hs => (h4 s hs).kept fun b hb => hk b ((h4 s hs).blk b hb).1 ((h4 s hs).blk b hb).2.1⟩
theorem BT.slq {w : World} {lo : Nat} {oa : Option Addr} {ss : List SV} (h : BT w lo oa ss) : SLq w oa ss := by
 rcases h with ⟨_, h⟩ | ⟨g, h1, h2, h3, h4⟩
 ·exact Or.inl h
 ·refine Or.inr ⟨g, h1, h3.lt, fun k x hx => ?_, fun x hx => (h4 x hx).sok⟩
  have e : ∀ j v, j < 3 → x.cells[j]? = some v → w.cell? ⟨g, k * 3 + j, none⟩ = some v := fun j v hj hv => h3.cell (by rw [flatS_at ss k j x hx hj]; exact hv)
  exact ⟨e 0 _ (by omega) rfl, e 1 _ (by omega) rfl, e 2 _ (by omega) rfl⟩
theorem AnsV.bt {w : World} {lo : Nat} {oa : Option Addr} {ts : List SV} (h : AnsV w lo oa ts) : BT w lo oa ts := by
 rcases h with h | ⟨g, h1, h2⟩
 ·exact Or.inl h
 ·exact Or.inr ⟨g, h1, h2.low, h2.row, h2.forest.each⟩
structure TkD (wr wx : World) (zA zB : Nat) (now1 : Int) (oa1 : Option Addr) (l1 cl1 : Nat) (us : List SV) (y : RV) : Prop where
 bxA : wx.heap[zA]? = some (.cells #[.int .i64 now1, .slice oa1 l1 cl1] 27 (0, 0))
 bxB : wx.heap[zB]? = some (.cells (pcells y.p (.slice y.a y.zs.length y.c)) 29 (0, 0))
 lowA : wr.heap.size ≤ zA
 lowB : wr.heap.size ≤ zB
 be : Below wr.heap.size wr wx
 q : ∀ v : World, (∀ b, wr.heap.size ≤ b → b < wx.heap.size → v.heap[b]? = wx.heap[b]?) → SLq v oa1 us ∧ ROk v y
theorem TkD.below {wr wx wy : World} {zA zB : Nat} {now1 : Int} {oa1 : Option Addr} {l1 cl1 : Nat} {us : List SV} {y : RV} (h : TkD wr wx zA zB now1 oa1 l1 cl1 us y) (hb : Below wx.heap.size wx wy) : TkD wr wy zA zB now1 oa1 l1 cl1 us y :=
 ⟨(hb.block _ (lt_of_block h.bxA)).trans h.bxA, (hb.block _ (lt_of_block h.bxB)).trans h.bxB, h.lowA, h.lowB, h.be.trans (hb.mono h.be.size), fun v hv => h.q v fun b h1 h2 => (hv b h1 (Nat.lt_of_lt_of_le h2 hb.size)).trans (hb.block b h2)⟩
theorem TkD.now {wr wx : World} {zA zB : Nat} {now1 : Int} {oa1 : Option Addr} {l1 cl1 : Nat} {us : List SV} {y : RV} (h : TkD wr wx zA zB now1 oa1 l1 cl1 us y) : SLq wx oa1 us ∧ ROk wx y := h.q wx fun _ _ _ => rfl
theorem TkD.of {wr u0 u' u : World} {zA zB : Nat} {now1 : Int} {oa1 : Option Addr} {l1 cl1 : Nat} {us : List SV} {y : RV} {oA oB : Array Value} (h0 : Below wr.heap.size wr u0) (T : BT u' u0.heap.size oa1 us) (D : DataB u' u0.heap.size y) (h1 : Below u0.heap.size u0 u') (h2 : Below u'.heap.size u' u)
  (hA : u.heap[zA]? = some (.cells oA 27 (0, 0))) (hB : u.heap[zB]? = some (.cells oB 29 (0, 0))) (pA : wr.heap.size ≤ zA) (pB : wr.heap.size ≤ zB) (nA : zA < u0.heap.size ∨ u'.heap.size ≤ zA) (nB : zB < u0.heap.size ∨ u'.heap.size ≤ zB) :
  TkD wr ((u.setRow zA #[.int .i64 now1, .slice oa1 l1 cl1]).setRow zB (pcells y.p (.slice y.a y.zs.length y.c))) zA zB now1 oa1 l1 cl1 us y := by
 have ne : zB ≠ zA := fun e => by
  rw [e, hA] at hB
  cases hB
 have s0 := h0.size; have s1 := h1.size; have s2 := h2.size
 have kv : ∀ b, b ≠ zA → (u.setRow zA #[.int .i64 now1, .slice oa1 l1 cl1]).heap[b]? = u.heap[b]? := fun b hb => setRow_other _ _ _ _ hb
 have ku : ∀ b, b ≠ zB → ((u.setRow zA #[.int .i64 now1, .slice oa1 l1 cl1]).setRow zB (pcells y.p (.slice y.a y.zs.length y.c))).heap[b]? = (u.setRow zA #[.int .i64 now1, .slice oa1 l1 cl1]).heap[b]? := fun b hb => setRow_other _ _ _ _ hb
 have hB' := (kv zB ne).trans hB
 have C := below_setRow (below_setRow (Below.refl wr.heap.size u) pA #[.int .i64 now1, .slice oa1 l1 cl1]) pB (pcells y.p (.slice y.a y.zs.length y.c))
 have B := below_setRow (below_setRow ((h0.trans (h1.mono s0)).trans (h2.mono (by omega))) pA #[.int .i64 now1, .slice oa1 l1 cl1]) pB (pcells y.p (.slice y.a y.zs.length y.c))
 have hsz := C.size
 refine ⟨(ku zA (fun e => ne e.symm)).trans (setRow_heap _ _ _ _ _ _ hA), setRow_heap _ _ _ _ _ _ hB', pA, pB, B, fun v hv => ⟨?_, ?_⟩⟩
 ·exact (T.kept fun b hb1 hb2 => (hv b (by omega) (by omega)).trans ((ku b (by omega)).trans ((kv b (by omega)).trans (h2.block b hb2)))).slq
 ·exact (D.kept fun b hb => by
   obtain ⟨d1, d2, _⟩ := D.blk b hb
   exact (hv b (by omega) (by omega)).trans ((ku b (by omega)).trans ((kv b (by omega)).trans (h2.block b d2)))).rok
theorem pcells_all1 (p : Pk) (a : Option Addr) (n c : Nat) : (pcells p (.slice a n c)).all (·.oneCell') = true := by simp [pcells, Value.oneCell']
theorem bcells_all (z : Int) (a : Option Addr) (n c : Nat) : (#[.int .i64 z, .slice a n c] : Array Value).all (·.oneCell') = true := by simp [Value.oneCell']
theorem info9' : (Tryz.prog.info? 29).map (·.size) = some 9 := by kernel_rfl
theorem info2' : (Tryz.prog.info? 27).map (·.size) = some 2 := by kernel_rfl
def PanicOk (Q : Exit → Act → World → Prop) : Prop := ∀ (c : List PanicEntry) (d : Option Tmp) (v : Value) (a : Act) (w : World), Q (.panic c) (a.put d v) w → Q (.panic c) a w
theorem PanicOk.then {Q : Exit → Act → World → Prop} (R : Act → World → Prop) (h : PanicOk Q) : PanicOk (Exit.then R Q) := fun c d v a w => h c d v a w
theorem PanicOk.blk {Q : Exit → Act → World → Prop} (i : Nat) (h : PanicOk Q) : PanicOk (Exit.inBlock i Q) := fun c d v a w => h c d v a w
def X9 (u : World) (g o : Nat) (x : RV) : Prop := u.cell? ⟨g, o, none⟩ = some (.int .i64 x.p.src) ∧ u.cell? ⟨g, o + 1, none⟩ = some (.int .i64 x.p.dst) ∧ u.cell? ⟨g, o + 2, none⟩ = some (.int .i64 x.p.kind) ∧ u.cell? ⟨g, o + 3, none⟩ = some (.int .i64 x.p.id) ∧ u.cell? ⟨g, o + 4, none⟩ = some (.int .i64 x.p.hops) ∧ u.cell? ⟨g, o + 5, none⟩ = some (.bool x.p.whole) ∧ u.cell? ⟨g, o + 6, none⟩ = some (.int .i64 x.p.off) ∧ u.cell? ⟨g, o + 7, none⟩ = some (.bool x.p.more) ∧ u.cell? ⟨g, o + 8, none⟩ = some (.slice x.a x.zs.length x.c)
structure LCx (w1 : World) (gl n : Nat) (xs : List RV) : Prop where
 len : Hid (xs.length = n)
 lt : gl < w1.heap.size
 at_ : Hid (∀ (u : World) (i : Nat) (x : RV), Below w1.heap.size w1 u → xs[i]? = some x → ROk u x ∧ X9 u gl (i * 9) x)
 good : Hid (∀ u, Below w1.heap.size w1 u → GoodErr u)
theorem zTq {P : Program} {md : Region.Mode} {ops : Array Oper} {Q : Exit → Act → World → Prop} (hP : PanicOk Q) {S : World → Prop} {fuel : Nat} {listed : Array Bool} {a : Act} {w : World} {oi : Oper} (i d : Nat) (v : Value) (hi : ops[i]? = some oi) (hy : ∀ w, S w → (execOp a.eval oi).run P w = .ok (.value v) w) (hS : S w)
  (h : wpAnyH P md ops Q S fuel (listed.setIfInBounds i true) (a.put (some d) v) w) (hd : oi.dst = some d := by rfl) (hs : Region.noSelect ops = true := by kernel_rfl) (hf : Region.free md ops listed i = true := by kernel_rfl) (hr : (Region.ready md ops listed).contains i = true := by kernel_rfl)
  (hw : Region.wanted oi (yielded ops a.tmps) = true := by rfl) : wpAnyH P md ops Q S (fuel + 1) listed a w := take_held i (some d) v hi hd hs hf hr (fun c a w h => hP c _ _ a w h) hw hy hS h
def bx2 (dA dB : Tmp) (a : Act) (bA bB : Bool) (zA zB : Nat) : Act := pf bA dA (.pointer (some ⟨zA, 0, none⟩)) (pf bB dB (.pointer (some ⟨zB, 0, none⟩)) a)
theorem bx2_put {dA dB d : Tmp} {a : Act} {bA bB : Bool} {zA zB : Nat} {v : Value} (h1 : dA ≠ d) (h2 : dB ≠ d) : (bx2 dA dB a bA bB zA zB).put (some d) v = bx2 dA dB (a.put (some d) v) bA bB zA zB := by
 unfold bx2
 rw [pf_put h1, pf_put h2]
theorem bx2_eval {dA dB d : Tmp} {a : Act} {bA bB : Bool} {zA zB : Nat} (h1 : dA ≠ d) (h2 : dB ≠ d) : (bx2 dA dB a bA bB zA zB).eval (.tmp d) = a.eval (.tmp d) := by
 unfold bx2
 rw [pf_other h1, pf_other h2]
structure BxS (W u : World) (cA cB : Array Value) (tA tB : TypeId) (bA bB : Bool) (zA zB : Nat) : Prop where
 below : Below W.heap.size W u
 boxA : bA = true → u.heap[zA]? = some (.cells cA tA (0, 0)) ∧ W.heap.size ≤ zA
 boxB : bB = true → u.heap[zB]? = some (.cells cB tB (0, 0)) ∧ W.heap.size ≤ zB
theorem BxS.mono {W u u' : World} {cA cB : Array Value} {tA tB : TypeId} {bA bB : Bool} {zA zB : Nat} (s : BxS W u cA cB tA tB bA bB zA zB) (hb : Below u.heap.size u u') : BxS W u' cA cB tA tB bA bB zA zB :=
 ⟨s.below.trans (hb.mono s.below.size), fun h => ⟨(hb.block _ (lt_of_block (s.boxA h).1)).trans (s.boxA h).1, (s.boxA h).2⟩, fun h => ⟨(hb.block _ (lt_of_block (s.boxB h).1)).trans (s.boxB h).1, (s.boxB h).2⟩⟩
theorem BxS.addA {W u : World} {cA cB : Array Value} {tA tB : TypeId} {bB : Bool} {zA zB : Nat} (s : BxS W u cA cB tA tB false bB zA zB) : BxS W (u.alloc (.cells cA tA)) cA cB tA tB true bB u.heap.size zB :=
 have s' := s.mono (zBa u (.cells cA tA))
 ⟨s'.below, fun _ => ⟨heap_new _ _ _ rfl, s.below.size⟩, s'.boxB⟩
theorem BxS.addB {W u : World} {cA cB : Array Value} {tA tB : TypeId} {bA : Bool} {zA zB : Nat} (s : BxS W u cA cB tA tB bA false zA zB) : BxS W (u.alloc (.cells cB tB)) cA cB tA tB bA true zA u.heap.size :=
 have s' := s.mono (zBa u (.cells cB tB))
 ⟨s'.below, s'.boxA, fun _ => ⟨heap_new _ _ _ rfl, s.below.size⟩⟩
def ext (r : Value) (i : Nat) : Value := match r with
 | .tuple vs => vs.getD i undef
 | _ => undef
theorem run_move {P : Program} {w : World} {ev : Operand → Value} {o : Oper} {s : Operand} {v : Value} (ho : o.op = .move s) (h : ev s = v) : (execOp ev o).run P w = .ok (.value v) w := by
 unfold execOp
 simp [ho, h]
theorem run_extract {P : Program} {w : World} {ev : Operand → Value} {o : Oper} {s : Operand} {i : Nat} {vs : Array Value} {v : Value} (ho : o.op = .extract s i) (h : ev s = .tuple vs) (hv : vs[i]? = some v) : (execOp ev o).run P w = .ok (.value v) w := by
 unfold execOp
 simp [ho, h, hv, Instr.extract]
section call1
variable {P : Program} {ops : Array Oper} {Q : Exit → Act → World → Prop} {md : Region.Mode} {S : World → Prop} {W : World} {cA cB : Array Value} {tA tB : TypeId} {iA iB : Nat} {dA dB : Tmp}
theorem wpAnyH_step {f : Nat} {l : Array Bool} {a : Act} {w : World} (hr : Region.ready md ops l ≠ []) (h : ∀ i ∈ Region.ready md ops l, wpOp P ops Q i (fun a' w' => S w' ∧ wpAnyH P md ops Q S f (l.setIfInBounds i true) a' w') a w) : wpAnyH P md ops Q S (f + 1) l a w :=
 ⟨fun e => absurd e hr, h⟩
theorem boxes_left (hS : ∀ u, Below W.heap.size W u → S u) (LC : Bool → Bool → Array Bool)
  (hset : ∀ bA bB, (LC bA bB).setIfInBounds iA true = LC true bB ∧ (LC bA bB).setIfInBounds iB true = LC bA true)
  (hTF : Region.ready md ops (LC true false) = [iB]) (hFT : Region.ready md ops (LC false true) = [iA]) (hFF : Region.ready md ops (LC false false) = [iA, iB]) (hne : dA ≠ dB)
  (HA : ∀ a w K, K (a.put (some dA) (.pointer (some ⟨w.heap.size, 0, none⟩))) (w.alloc (.cells cA tA)) → wpOp P ops Q iA K a w)
  (HB : ∀ a w K, K (a.put (some dB) (.pointer (some ⟨w.heap.size, 0, none⟩))) (w.alloc (.cells cB tB)) → wpOp P ops Q iB K a w)
  (a : Act) (u' : World) (s0 fx : Nat)
  (X : ∀ zA zB u, BxS W u cA cB tA tB true true zA zB → Below u'.heap.size u' u → (zA < s0 ∨ u'.heap.size ≤ zA) → (zB < s0 ∨ u'.heap.size ≤ zB) → wpAnyH P md ops Q S fx (LC true true) (bx2 dA dB a true true zA zB) u) :
  ∀ bA bB zA zB u, BxS W u cA cB tA tB bA bB zA zB → Below u'.heap.size u' u → (bA = true → zA < s0 ∨ u'.heap.size ≤ zA) → (bB = true → zB < s0 ∨ u'.heap.size ≤ zB) → wpAnyH P md ops Q S (fx + 2 - bA.toNat - bB.toNat) (LC bA bB) (bx2 dA dB a bA bB zA zB) u := by
 have XA : ∀ zA zB u, BxS W u cA cB tA tB false true zA zB → Below u'.heap.size u' u → (zB < s0 ∨ u'.heap.size ≤ zB) → wpAnyH P md ops Q S (fx + 1) (LC false true) (bx2 dA dB a false true zA zB) u := fun zA zB u s hb pB => by
  refine wpAnyH_step (by rw [hFT]; simp) fun i hi => ?_
  rw [hFT] at hi
  obtain rfl := List.mem_singleton.1 hi
  refine HA _ _ _ ⟨hS _ s.addA.below, ?_⟩
  rw [(hset false true).1]
  exact X u.heap.size zB _ s.addA (hb.trans ((zBa _ _).mono hb.size)) (Or.inr hb.size) pB
 have XB : ∀ zA zB u, BxS W u cA cB tA tB true false zA zB → Below u'.heap.size u' u → (zA < s0 ∨ u'.heap.size ≤ zA) → wpAnyH P md ops Q S (fx + 1) (LC true false) (bx2 dA dB a true false zA zB) u := fun zA zB u s hb pA => by
  refine wpAnyH_step (by rw [hTF]; simp) fun i hi => ?_
  rw [hTF] at hi
  obtain rfl := List.mem_singleton.1 hi
  refine HB _ _ _ ⟨hS _ s.addB.below, ?_⟩
  rw [(hset true false).2]
  have e : (bx2 dA dB a true false zA zB).put (some dB) (.pointer (some ⟨u.heap.size, 0, none⟩)) = bx2 dA dB a true true zA u.heap.size := by
   unfold bx2
   rw [pf_put hne]
   rfl
  rw [e]
  exact X zA u.heap.size _ s.addB (hb.trans ((zBa _ _).mono hb.size)) pA (Or.inr hb.size)
 intro bA bB zA zB u s hb pA pB
 cases bA <;> cases bB
 ·refine wpAnyH_step (by rw [hFF]; simp) fun i hi => ?_
  rw [hFF] at hi
  rcases List.mem_cons.1 hi with rfl | hi
  ·refine HA _ _ _ ⟨hS _ s.addA.below, ?_⟩
   rw [(hset false false).1]
   exact XB u.heap.size zB _ s.addA (hb.trans ((zBa _ _).mono hb.size)) (Or.inr hb.size)
  ·obtain rfl := List.mem_singleton.1 hi
   refine HB _ _ _ ⟨hS _ s.addB.below, ?_⟩
   rw [(hset false false).2]
   exact XA zA u.heap.size _ s.addB (hb.trans ((zBa _ _).mono hb.size)) (Or.inr hb.size)
 ·exact XA zA zB u s hb (pB rfl)
 ·exact XB zA zB u s hb (pA rfl)
 ·exact X zA zB u s hb (pA rfl) (pB rfl)
theorem bx_take {f : Nat} {l : Array Bool} {a : Act} {w : World} {oi : Oper} {bA bB : Bool} {zA zB : Nat} (i d : Nat) (v : Value) (hi : ops[i]? = some oi) (hd : oi.dst = some d) (hg : oi.guard = none) (hs : Region.noSelect ops = true) (hf : (Region.free md ops l i && (Region.ready md ops l).contains i) = true)
  (hQ : ∀ c a w, Q (.panic c) (a.put (some d) v) w → Q (.panic c) a w) (n1 : dA ≠ d) (n2 : dB ≠ d) (hy : ∀ w, (execOp (bx2 dA dB a bA bB zA zB).eval oi).run P w = .ok (.value v) w) (hS : S w) (h : wpAnyH P md ops Q S f (l.setIfInBounds i true) (bx2 dA dB (a.put (some d) v) bA bB zA zB) w) : wpAnyH P md ops Q S (f + 1) l (bx2 dA dB a bA bB zA zB) w := by
 rw [Bool.and_eq_true] at hf
 refine take_held i (some d) v hi hd hs hf.1 hf.2 hQ (by simp [Region.wanted, hg]) (fun w _ => hy w) hS ?_
 rw [bx2_put n1 n2]
 exact h
theorem call1_region {i1 : Nat} {d1 sx sy : Tmp} {f1 : FuncId} {vx vy : Value} {GOOD : World → Value → World → Prop} (hS : ∀ u, Below W.heap.size W u → S u) (a0 : Act) (upd : Act → Value → Act) (LA L1 LC : Bool → Bool → Array Bool)
  (hset : ∀ bA bB, (LC bA bB).setIfInBounds iA true = LC true bB ∧ (LC bA bB).setIfInBounds iB true = LC bA true)
  (hsetA : ∀ bA bB, (LA bA bB).setIfInBounds iA true = LA true bB ∧ (LA bA bB).setIfInBounds iB true = LA bA true ∧ (LA bA bB).setIfInBounds i1 true = L1 bA bB)
  (hTF : Region.ready md ops (LC true false) = [iB]) (hFT : Region.ready md ops (LC false true) = [iA]) (hFF : Region.ready md ops (LC false false) = [iA, iB])
  (rTT : Region.ready md ops (LA true true) = [i1]) (rTF : Region.ready md ops (LA true false) = [i1, iB]) (rFT : Region.ready md ops (LA false true) = [i1, iA]) (rFF : Region.ready md ops (LA false false) = [i1, iA, iB])
  (hne : dA ≠ dB) (nA1 : dA ≠ d1) (nB1 : dB ≠ d1) (nAx : dA ≠ sx) (nBx : dB ≠ sx) (nAy : dA ≠ sy) (nBy : dB ≠ sy) (hx : a0.eval (.tmp sx) = vx) (hy : a0.eval (.tmp sy) = vy)
  (H1 : ∀ a w K, a.eval (.tmp sx) = vx → a.eval (.tmp sy) = vy → Calls P f1 #[vx, vy] w (fun e w' => ∃ r, e = .returned r ∧ K (a.put (some d1) r) w') → wpOp P ops Q i1 K a w)
  (HA : ∀ a w K, K (a.put (some dA) (.pointer (some ⟨w.heap.size, 0, none⟩))) (w.alloc (.cells cA tA)) → wpOp P ops Q iA K a w)
  (HB : ∀ a w K, K (a.put (some dB) (.pointer (some ⟨w.heap.size, 0, none⟩))) (w.alloc (.cells cB tB)) → wpOp P ops Q iB K a w)
  (c1 : ∀ u, Below W.heap.size W u → Calls P f1 #[vx, vy] u (fun e w' => ∃ r, e = .returned r ∧ GOOD u r w' ∧ Below u.heap.size u w'))
  (fx : Nat)
  (HP : ∀ u0 r u' bA bB zA zB u f, GOOD u0 r u' → Below W.heap.size W u → wpAnyH P md ops Q S f (LC bA bB) (bx2 dA dB (upd a0 r) bA bB zA zB) u → wpAnyH P md ops Q S (f + 4) (L1 bA bB) (bx2 dA dB (a0.put (some d1) r) bA bB zA zB) u)
  (X : ∀ u0 r u' zA zB u, Below W.heap.size W u0 → Below u0.heap.size u0 u' → GOOD u0 r u' → BxS W u cA cB tA tB true true zA zB → Below u'.heap.size u' u → (zA < u0.heap.size ∨ u'.heap.size ≤ zA) → (zB < u0.heap.size ∨ u'.heap.size ≤ zB) → wpAnyH P md ops Q S fx (LC true true) (bx2 dA dB (upd a0 r) true true zA zB) u)
  (u : World) (hu : Below W.heap.size W u) (l : Array Bool) (hl : l = LA false false) (f : Nat) (hf : f = fx + 7) : wpAnyH P md ops Q S f l a0 u := by
 subst hl hf
 have C : ∀ bA bB zA zB u K, BxS W u cA cB tA tB bA bB zA zB → (∀ a w, S w ∧ wpAnyH P md ops Q S (fx + 2 - bA.toNat - bB.toNat + 4) (L1 bA bB) a w → K a w) → wpOp P ops Q i1 K (bx2 dA dB a0 bA bB zA zB) u := fun bA bB zA zB u K s hK => by
  refine H1 _ _ _ ((bx2_eval nAx nBx).trans hx) ((bx2_eval nAy nBy).trans hy) ((c1 u s.below).mono ?_)
  rintro e u' ⟨r, rfl, hg, hb⟩
  have s' := s.mono hb
  refine ⟨r, rfl, hK _ _ ⟨hS _ s'.below, ?_⟩⟩
  rw [bx2_put nA1 nB1]
  refine HP u r u' bA bB zA zB u' _ hg s'.below ?_
  exact boxes_left hS LC hset hTF hFT hFF hne HA HB (upd a0 r) u' u.heap.size fx (fun zA zB v sv hbv pA pB => X u r u' zA zB v s.below hb hg sv hbv pA pB) bA bB zA zB u' s' (Below.refl _ _) (fun h => Or.inl (lt_of_block (s.boxA h).1)) (fun h => Or.inl (lt_of_block (s.boxB h).1))
 have TT : ∀ zA zB u, BxS W u cA cB tA tB true true zA zB → wpAnyH P md ops Q S (fx + 5) (LA true true) (bx2 dA dB a0 true true zA zB) u := fun zA zB u s => by
  refine wpAnyH_step (by rw [rTT]; simp) fun i hi => ?_
  rw [rTT] at hi
  obtain rfl := List.mem_singleton.1 hi
  refine C true true zA zB u _ s fun a w h => ?_
  rw [(hsetA true true).2.2]
  exact h
 have TF : ∀ zA zB u, BxS W u cA cB tA tB true false zA zB → wpAnyH P md ops Q S (fx + 6) (LA true false) (bx2 dA dB a0 true false zA zB) u := fun zA zB u s => by
  refine wpAnyH_step (by rw [rTF]; simp) fun i hi => ?_
  rw [rTF] at hi
  rcases List.mem_cons.1 hi with rfl | hi
  ·refine C true false zA zB u _ s fun a w h => ?_
   rw [(hsetA true false).2.2]
   exact h
  ·obtain rfl := List.mem_singleton.1 hi
   refine HB _ _ _ ⟨hS _ s.addB.below, ?_⟩
   rw [(hsetA true false).2.1]
   have e : (bx2 dA dB a0 true false zA zB).put (some dB) (.pointer (some ⟨u.heap.size, 0, none⟩)) = bx2 dA dB a0 true true zA u.heap.size := by
    unfold bx2
    rw [pf_put hne]
    rfl
   rw [e]
   exact TT _ _ _ s.addB
 have FT : ∀ zA zB u, BxS W u cA cB tA tB false true zA zB → wpAnyH P md ops Q S (fx + 6) (LA false true) (bx2 dA dB a0 false true zA zB) u := fun zA zB u s => by
  refine wpAnyH_step (by rw [rFT]; simp) fun i hi => ?_
  rw [rFT] at hi
  rcases List.mem_cons.1 hi with rfl | hi
  ·refine C false true zA zB u _ s fun a w h => ?_
   rw [(hsetA false true).2.2]
   exact h
  ·obtain rfl := List.mem_singleton.1 hi
   refine HA _ _ _ ⟨hS _ s.addA.below, ?_⟩
   rw [(hsetA false true).1]
   exact TT _ _ _ s.addA
 have s0 : BxS W u cA cB tA tB false false 0 0 := ⟨hu, (fun h => by cases h), (fun h => by cases h)⟩
 refine wpAnyH_step (by rw [rFF]; simp) fun i hi => ?_
 rw [rFF] at hi
 rcases List.mem_cons.1 hi with rfl | hi
 ·refine C false false 0 0 u _ s0 fun a w h => ?_
  rw [(hsetA false false).2.2]
  exact h
 ·rcases List.mem_cons.1 hi with rfl | hi
  ·refine HA _ _ _ ⟨hS _ s0.addA.below, ?_⟩
   rw [(hsetA false false).1]
   exact TF _ _ _ s0.addA
  ·obtain rfl := List.mem_singleton.1 hi
   refine HB _ _ _ ⟨hS _ s0.addB.below, ?_⟩
   rw [(hsetA false false).2.1]
   exact FT _ _ _ s0.addB
end call1
end Go.Proofs.YtjbkgmbakjnlhaaGreatDoor
