import Derived.Test.YtjbkgmbakjnlhaaGreatDoorPartBd
import Derived.Test.YtjbkgmbakjnlhaaGreatDoorPartAt
import Derived.Test.YtjbkgmbakjnlhaaGreatDoorSTake
import Derived.Test.YtjbkgmbakjnlhaaGreatDoorPartAx
import Derived.Test.YtjbkgmbakjnlhaaGreatDoorPartBa
import Derived.Test.YtjbkgmbakjnlhaaGreatDoorPartBb
import Derived.Test.YtjbkgmbakjnlhaaGreatDoorPartAa
namespace Go.Proofs.YtjbkgmbakjnlhaaGreatDoor
set_option maxRecDepth 100000
open Go.RowKit
theorem disagree_one (x : PB) : disagreeL [x] = false := by
 unfold disagreeL
 simp [against_self]
theorem alike_self {x : PB} (h : okB x.1 x.2.length = true) : alikeB x x = true := (alikeB_iff x x).2 ⟨h, h, rfl, rfl, rfl, rfl⟩
theorem alikeL_one {x : PB} (h : okB x.1 x.2.length = true) : alikeL [x] = true := (alikeL_iff _).2 ⟨by simp, by simp, fun a ha b hb => by
 rw [List.mem_singleton.1 ha, List.mem_singleton.1 hb]
 exact alike_self h⟩
theorem join_piece {x : PB} (h : okB x.1 x.2.length = true) (hc : ¬ (x.1.off = 0 ∧ x.1.more = false)) (h0 : 0 ≤ x.1.off) : (joinL [x]).1 = 3 := by
 cases hm : x.1.more with
 | true =>
  rw [joinL_three (alikeL_one h) (disagree_one x) (by simp [endL, hm])]
 | false =>
  have hoff : x.1.off ≠ 0 := fun e => hc ⟨e, hm⟩
  have he : endL [x] = some (endOf x) := by simp [endL, hm]
  have hb : ∀ n : Nat, 0 < n → bytesL [x] n = none := by
   intro n hn
   induction n with
   | zero => omega
   | succ n ih =>
    unfold bytesL
    by_cases h1 : n = 0
    ·subst h1
     have hh : hasB x ((0 : Nat) : Int) = false := by
      unfold hasB
      rw [Bool.and_eq_false_iff]
      left
      simp
      omega
     simp only [bytesL, List.find?_cons, hh, List.find?_nil]
    ·rw [ih (by omega)]
  have hpos : 0 < (endOf x).toNat := by
   unfold endOf
   omega
  rw [joinL_lack (alikeL_one h) (disagree_one x) he (hb _ hpos)]
theorem okB_off {p : Pk} {n : Nat} (h : okB p n = true) : 0 ≤ p.off := by
 unfold okB offB inB at h
 simp only [Bool.and_eq_true, decide_eq_true_eq] at h
 omega
theorem join_first {x : PB} {r : List PB} (h : (joinL (x :: r)).1 = 3) : okB x.1 x.2.length = true ∧ ¬ (x.1.off = 0 ∧ x.1.more = false) := by
 have ha : alikeL (x :: r) = true := by
  cases e : alikeL (x :: r) with
  | true => rfl
  | false => have := (join_one _).2 e; omega
 have hok := ((alikeB_iff _ _).1 (((alikeL_iff _).1 ha).2.2 x (List.mem_cons_self ..) x (List.mem_cons_self ..))).1
 refine ⟨hok, fun ⟨h0, hm⟩ => ?_⟩
 have hd : disagreeL (x :: r) = false := by
  cases e : disagreeL (x :: r) with
  | false => rfl
  | true => have := (join_two _).2 ⟨ha, e⟩; omega
 have he : endL (x :: r) = some (endOf x) := by simp [endL, hm]
 have hb : ∀ n : Nat, (n : Int) ≤ endOf x → ∃ bs, bytesL (x :: r) n = some bs := by
  intro n
  induction n with
  | zero => intro _; exact ⟨[], rfl⟩
  | succ n ih =>
   intro hn
   obtain ⟨bs, hbs⟩ := ih (by omega)
   have hh : hasB x (n : Int) = true := by
    unfold hasB
    rw [Bool.and_eq_true, decide_eq_true_eq, decide_eq_true_eq]
    omega
   exact ⟨bs ++ [byteAt x n], by unfold bytesL; rw [hbs]; simp only [List.find?_cons, hh]⟩
 obtain ⟨bs, hbs⟩ := hb (endOf x).toNat (by unfold endOf; omega)
 rw [joinL_zero ha hd he hbs] at h
 cases h
theorem waits_first_key {s : SV} (h : waits s) : ∃ x r, s.xs = x :: r ∧ okB x.p x.zs.length = true ∧ ¬ (x.p.off = 0 ∧ x.p.more = false) := by
 obtain ⟨x, hx⟩ := waits_first h
 cases hs : s.xs with
 | nil => rw [hs] at hx; simp at hx
 | cons y r =>
  have h3 := h.1
  rw [hs, List.map_cons] at h3
  obtain ⟨h1, h2⟩ := join_first h3
  exact ⟨y, r, rfl, h1, h2⟩
theorem firstAlike_key {s t s' t' : SV} (hs : s'.xs[0]?.map RV.key = s.xs[0]?.map RV.key) (ht : t'.xs[0]?.map RV.key = t.xs[0]?.map RV.key) (h : firstAlike s' t') : firstAlike s t := by
 obtain ⟨x, y, h1, h2, h3⟩ := h
 rw [h1, Option.map_some] at hs
 rw [h2, Option.map_some] at ht
 cases hx : s.xs[0]? with
 | none => rw [hx] at hs; cases hs
 | some x0 =>
  cases hy : t.xs[0]? with
  | none => rw [hy] at ht; cases ht
  | some y0 =>
   rw [hx, Option.map_some] at hs
   rw [hy, Option.map_some] at ht
   refine ⟨x0, y0, hx, hy, ?_⟩
   rw [← Option.some.inj hs, ← Option.some.inj ht]
   exact h3
theorem benchOk_set {now : Int} {ss : List SV} {i : Nat} {s t : SV} (h : benchOk now ss) (hi : ss[i]? = some s) (hw : waits t) (hs : t.since = s.since) (hf : t.xs[0]?.map RV.key = s.xs[0]?.map RV.key) : benchOk now (ss.set i t) := by
 obtain ⟨h1, h2, h3, h4⟩ := benchOk_pw.1 h
 obtain ⟨hil, hie⟩ := List.getElem?_eq_some_iff.1 hi
 have hp := List.pairwise_iff_getElem.1 h4
 refine benchOk_pw.2 ⟨h1, by rw [List.length_set]; exact h2, fun u hu => ?_, List.pairwise_iff_getElem.2 fun a b ha hb hab => ?_⟩
 ·rcases List.mem_or_eq_of_mem_set hu with hu | hu
  ·exact h3 u hu
  ·rw [hu]
   have h5 := (h3 s (List.mem_of_getElem? hi)).1
   refine ⟨?_, hw⟩
   unfold sinceOk at h5 ⊢
   rw [hs]
   exact h5
 ·rw [List.length_set] at ha hb
  have h5 := hp a b ha hb hab
  have key : ∀ k (hk : k < ss.length), ((ss.set i t)[k]'(by rw [List.length_set]; exact hk)).since = ss[k].since ∧ ((ss.set i t)[k]'(by rw [List.length_set]; exact hk)).xs[0]?.map RV.key = ss[k].xs[0]?.map RV.key := by
   intro k hk
   rw [List.getElem_set]
   split
   ·rename_i e
    subst e
    rw [hie]
    exact ⟨hs, hf⟩
   ·exact ⟨rfl, rfl⟩
  obtain ⟨ka1, ka2⟩ := key a ha
  obtain ⟨kb1, kb2⟩ := key b hb
  exact ⟨by rw [ka1, kb1]; exact h5.1, fun hx => h5.2 (firstAlike_key ka2 kb2 hx)⟩
theorem map_erase' {α β : Type} (f : α → β) : ∀ (l : List α) (i : Nat), (l.eraseIdx i).map f = (l.map f).eraseIdx i
 | [], _ => by simp
 | _ :: _, 0 => rfl
 | a :: r, i + 1 => by
  rw [List.eraseIdx_cons_succ, List.map_cons, List.map_cons, List.eraseIdx_cons_succ, map_erase' f r i]
def rvOf (x : PB) : RV := ⟨x.1, none, 0, x.2⟩
theorem benchOk_erase {now : Int} {ss : List SV} (h : benchOk now ss) (i : Nat) : benchOk now (ss.eraseIdx i) := by
 obtain ⟨h1, h2, h3, h4⟩ := benchOk_pw.1 h
 have hs := List.eraseIdx_sublist ss i
 exact benchOk_pw.2 ⟨h1, Nat.le_trans hs.length_le h2, fun s hm => h3 s (hs.subset hm), h4.sublist hs⟩
theorem spoil_waits {s : SV} (h : waits s) : waits ⟨s.a, s.c, s.xs.take 1, s.since, true⟩ := by
 obtain ⟨x, r, hx, hok, hc⟩ := waits_first_key h
 have e : s.xs.take 1 = [x] := by rw [hx]; rfl
 refine ⟨?_, fun _ => by show (s.xs.take 1).length = 1; rw [e]; rfl⟩
 show (joinL ((s.xs.take 1).map RV.key)).1 = 3
 rw [e]
 exact join_piece (x := x.key) hok hc (okB_off hok)
theorem take_ok {now : Int} {ss ts : List SV} {x y : PB} {c : Int} (h : benchOk now ss) (hk : takeK now (ss.map SV.key) x = (ts.map SV.key, y, c)) : benchOk now ts := by
 have done : ∀ us : List SV, benchOk now us → ts.map SV.key = us.map SV.key → benchOk now ts := fun us hu he => (benchOk_iff he).2 hu
 unfold takeK at hk
 split at hk
 ·rename_i hok
  split at hk
  ·exact done ss h (congrArg Prod.fst hk).symm
  ·rename_i hcut
   unfold pieceK at hk
   split at hk
   ·rename_i hnone
    have hno : ∀ s ∈ ss, keyS s.key ≠ some (k4of x.1) := fun s hs e => by
     have hlt : (ss.map SV.key).findIdx (hitK x) < (ss.map SV.key).length := List.findIdx_lt_length.2 ⟨s.key, List.mem_map.2 ⟨s, hs, rfl⟩, by simp [hitK, e]⟩
     rw [List.getElem?_eq_getElem hlt] at hnone
     cases hnone
    obtain ⟨h1, h2, h3, h4⟩ := benchOk_pw.1 h
    have hroom : ∃ rs : List SV, rs.map SV.key = roomK (ss.map SV.key) ∧ List.Sublist rs ss ∧ rs.length ≤ 3 := by
     unfold roomK
     rw [List.length_map]
     split
     ·exact ⟨ss.tail, by rw [List.map_tail], List.tail_sublist ss, by rw [List.length_tail]; omega⟩
     ·exact ⟨ss, rfl, List.Sublist.refl _, by omega⟩
    obtain ⟨rs, hr1, hr2, hr3⟩ := hroom
    refine done (rs ++ [⟨none, 0, [rvOf x], now, false⟩]) (benchOk_pw.2 ⟨h1, by simp; omega, fun s hs => ?_, List.pairwise_append.2 ⟨h4.sublist hr2, List.pairwise_singleton _ _, fun a ha b hb => ?_⟩⟩) ?_
    ·rcases List.mem_append.1 hs with hs | hs
     ·exact h3 s (hr2.subset hs)
     ·rw [List.mem_singleton.1 hs]
      exact ⟨⟨Int.le_refl _, h1.1, by show now - 6 < now; omega⟩, join_piece hok hcut (okB_off hok), fun hb => by cases hb⟩
    ·rw [List.mem_singleton.1 hb]
     have ham := hr2.subset ha
     refine ⟨(h3 a ham).1.1, fun ⟨u, v, hu, hv, huv⟩ => hno a ham ?_⟩
     have e1 : alikeTo a (rvOf x) := ⟨u, hu, by
      have : v = rvOf x := by simpa using hv.symm
      rw [← this]
      exact huv⟩
     exact (alike_hit (x := rvOf x) (h3 a ham).2 hok).1 e1
    ·refine (congrArg Prod.fst hk).symm.trans ?_
     rw [List.map_append, hr1]
     rfl
   ·rename_i s0 hsome
    obtain ⟨i, hi⟩ : ∃ i, (ss.map SV.key).findIdx (hitK x) = i := ⟨_, rfl⟩
    rw [hi] at hk hsome
    rw [List.getElem?_map] at hsome
    cases hs : ss[i]? with
    | none => rw [hs] at hsome; cases hsome
    | some s =>
     rw [hs] at hsome
     obtain rfl := Option.some.inj hsome
     have hw := ((benchOk_pw.1 h).2.2.1 s (List.mem_of_getElem? hs)).2
     have hspoil : benchOk now (ss.set i ⟨s.a, s.c, s.xs.take 1, s.since, true⟩) := benchOk_set h hs (spoil_waits hw) rfl (by
      show (s.xs.take 1)[0]?.map RV.key = _
      rw [List.getElem?_take_of_lt (by omega)])
     have hspk : (ss.map SV.key).set i (spoilK s.key) = (ss.set i ⟨s.a, s.c, s.xs.take 1, s.since, true⟩).map SV.key := by
      rw [List.map_set]
      congr 1
      simp [spoilK, SV.key, List.map_take]
     unfold putK at hk
     split at hk
     ·exact done ss h (congrArg Prod.fst hk).symm
     ·rename_i hb
      split at hk
      ·exact done ss h (congrArg Prod.fst hk).symm
      ·split at hk
       ·exact done _ hspoil ((congrArg Prod.fst hk).symm.trans hspk)
       ·split at hk
        ·refine done _ (benchOk_erase h i) ((congrArg Prod.fst hk).symm.trans ?_)
         show (ss.map SV.key).eraseIdx i = _
         exact (map_erase' SV.key ss i).symm
        ·split at hk
         ·rename_i hj
          refine done (ss.set i ⟨s.a, s.c, s.xs ++ [rvOf x], s.since, s.bad⟩) (benchOk_set h hs ⟨?_, fun hb' => absurd hb' hb⟩ rfl ?_) ((congrArg Prod.fst hk).symm.trans ?_)
          ·show (joinL ((s.xs ++ [rvOf x]).map RV.key)).1 = 3
           rw [List.map_append]
           exact hj
          ·obtain ⟨u, r, hx, _⟩ := waits_first_key hw
           show (s.xs ++ [rvOf x])[0]?.map RV.key = _
           rw [hx]
           rfl
          ·rw [List.map_set]
           show (ss.map SV.key).set i (s.key.1 ++ [x], s.key.2.1, s.key.2.2) = _
           congr 1
           show _ = ((s.xs ++ [rvOf x]).map RV.key, s.since, s.bad)
           rw [List.map_append]
           rfl
         ·exact done _ hspoil ((congrArg Prod.fst hk).symm.trans hspk)
 ·exact done ss h (congrArg Prod.fst hk).symm
def BT (w : World) (lo : Nat) (oa : Option Addr) (ss : List SV) : Prop := (oa = none ∧ ss = []) ∨ ∃ g, oa = some ⟨g, 0, none⟩ ∧ lo ≤ g ∧ RowB w 39 g (ss.flatMap SV.cells) ∧ ∀ s ∈ ss, SlotB w lo s
theorem BT.kept {w w' : World} {lo : Nat} {oa : Option Addr} {ss : List SV} (h : BT w lo oa ss) (hk : ∀ b, lo ≤ b → b < w.heap.size → w'.heap[b]? = w.heap[b]?) : BT w' lo oa ss := by
 rcases h with h | ⟨g, h1, h2, h3, h4⟩
 ·exact Or.inl h
 ·exact Or.inr ⟨g, h1, h2, h3.kept (hk g h2 h3.lt), fun s hs => (h4 s hs).kept fun b hb => hk b ((h4 s hs).blk b hb).1 ((h4 s hs).blk b hb).2.1⟩
theorem BT.below {w w' : World} {lo : Nat} {oa : Option Addr} {ss : List SV} (h : BT w lo oa ss) (hb : Below w.heap.size w w') : BT w' lo oa ss := h.kept fun b _ hl => hb.block b hl
theorem BT.slq {w : World} {lo : Nat} {oa : Option Addr} {ss : List SV} (h : BT w lo oa ss) : SLq w oa ss := by
 rcases h with ⟨_, h⟩ | ⟨g, h1, h2, h3, h4⟩
 ·exact Or.inl h
 ·refine Or.inr ⟨g, h1, h3.lt, fun k x hx => ?_, fun x hx => (h4 x hx).sok⟩
  have e : ∀ j v, j < 3 → x.cells[j]? = some v → w.cell? ⟨g, k * 3 + j, none⟩ = some v := fun j v hj hv => h3.cell (by rw [flatS_at ss k j x hx hj]; exact hv)
  exact ⟨e 0 _ (by omega) rfl, e 1 _ (by omega) rfl, e 2 _ (by omega) rfl⟩
theorem AnsV.bt {w : World} {lo : Nat} {oa : Option Addr} {ts : List SV} (h : AnsV w lo oa ts) : BT w lo oa ts := by
 rcases h with h | ⟨g, h1, h2⟩
 ·exact Or.inl h
 ·exact Or.inr ⟨g, h1, h2.low, h2.row, h2.forest.each⟩
structure TkD (wr wx : World) (zA zB : Nat) (now1 : Int) (oa1 : Option Addr) (l1 cl1 : Nat) (us : List SV) (y : RV) : Prop where
 bxA : wx.heap[zA]? = some (.cells #[.int .i64 now1, .slice oa1 l1 cl1] 27 (0, 0))
 bxB : wx.heap[zB]? = some (.cells (pcells y.p (.slice y.a y.zs.length y.c)) 29 (0, 0))
 lowA : wr.heap.size ≤ zA
 lowB : wr.heap.size ≤ zB
 be : Below wr.heap.size wr wx
 q : ∀ v : World, (∀ b, wr.heap.size ≤ b → b < wx.heap.size → v.heap[b]? = wx.heap[b]?) → SLq v oa1 us ∧ ROk v y
theorem TkD.below {wr wx wy : World} {zA zB : Nat} {now1 : Int} {oa1 : Option Addr} {l1 cl1 : Nat} {us : List SV} {y : RV} (h : TkD wr wx zA zB now1 oa1 l1 cl1 us y) (hb : Below wx.heap.size wx wy) : TkD wr wy zA zB now1 oa1 l1 cl1 us y :=
 ⟨(hb.block _ (lt_of_block h.bxA)).trans h.bxA, (hb.block _ (lt_of_block h.bxB)).trans h.bxB, h.lowA, h.lowB, h.be.trans (hb.mono h.be.size), fun v hv => h.q v fun b h1 h2 => (hv b h1 (Nat.lt_of_lt_of_le h2 hb.size)).trans (hb.block b h2)⟩
theorem TkD.now {wr wx : World} {zA zB : Nat} {now1 : Int} {oa1 : Option Addr} {l1 cl1 : Nat} {us : List SV} {y : RV} (h : TkD wr wx zA zB now1 oa1 l1 cl1 us y) : SLq wx oa1 us ∧ ROk wx y := h.q wx fun _ _ _ => rfl
theorem TkD.of {wr u0 u' u : World} {zA zB : Nat} {now1 : Int} {oa1 : Option Addr} {l1 cl1 : Nat} {us : List SV} {y : RV} {oA oB : Array Value} (h0 : Below wr.heap.size wr u0) (T : BT u' u0.heap.size oa1 us) (D : DataB u' u0.heap.size y) (h1 : Below u0.heap.size u0 u') (h2 : Below u'.heap.size u' u)
  (hA : u.heap[zA]? = some (.cells oA 27 (0, 0))) (hB : u.heap[zB]? = some (.cells oB 29 (0, 0))) (pA : wr.heap.size ≤ zA) (pB : wr.heap.size ≤ zB) (nA : zA < u0.heap.size ∨ u'.heap.size ≤ zA) (nB : zB < u0.heap.size ∨ u'.heap.size ≤ zB) :
  TkD wr ((u.setRow zA #[.int .i64 now1, .slice oa1 l1 cl1]).setRow zB (pcells y.p (.slice y.a y.zs.length y.c))) zA zB now1 oa1 l1 cl1 us y := by
 have ne : zB ≠ zA := fun e => by
  rw [e, hA] at hB
  cases hB
 have s0 := h0.size; have s1 := h1.size; have s2 := h2.size
 have kv : ∀ b, b ≠ zA → (u.setRow zA #[.int .i64 now1, .slice oa1 l1 cl1]).heap[b]? = u.heap[b]? := fun b hb => setRow_other _ _ _ _ hb
 have ku : ∀ b, b ≠ zB → ((u.setRow zA #[.int .i64 now1, .slice oa1 l1 cl1]).setRow zB (pcells y.p (.slice y.a y.zs.length y.c))).heap[b]? = (u.setRow zA #[.int .i64 now1, .slice oa1 l1 cl1]).heap[b]? := fun b hb => setRow_other _ _ _ _ hb
 have hB' := (kv zB ne).trans hB
 have C := below_setRow (below_setRow (Below.refl wr.heap.size u) pA #[.int .i64 now1, .slice oa1 l1 cl1]) pB (pcells y.p (.slice y.a y.zs.length y.c))
 have B := below_setRow (below_setRow ((h0.trans (h1.mono s0)).trans (h2.mono (by omega))) pA #[.int .i64 now1, .slice oa1 l1 cl1]) pB (pcells y.p (.slice y.a y.zs.length y.c))
 have hsz := C.size
 refine ⟨(ku zA (fun e => ne e.symm)).trans (setRow_heap _ _ _ _ _ _ hA), setRow_heap _ _ _ _ _ _ hB', pA, pB, B, fun v hv => ⟨?_, ?_⟩⟩
 ·exact (T.kept fun b hb1 hb2 => (hv b (by omega) (by omega)).trans ((ku b (by omega)).trans ((kv b (by omega)).trans (h2.block b hb2)))).slq
 ·exact (D.kept fun b hb => by
   obtain ⟨d1, d2, _⟩ := D.blk b hb
   exact (hv b (by omega) (by omega)).trans ((ku b (by omega)).trans ((kv b (by omega)).trans (h2.block b d2)))).rok
theorem pcells_all1 (p : Pk) (a : Option Addr) (n c : Nat) : (pcells p (.slice a n c)).all (·.oneCell') = true := by simp [pcells, Value.oneCell']
theorem bcells_all (z : Int) (a : Option Addr) (n c : Nat) : (#[.int .i64 z, .slice a n c] : Array Value).all (·.oneCell') = true := by simp [Value.oneCell']
theorem info9' : (Tryz.prog.info? 29).map (·.size) = some 9 := by kernel_rfl
theorem info2' : (Tryz.prog.info? 27).map (·.size) = some 2 := by kernel_rfl
theorem take_stays {now : Int} {ss : List SV} {ks : List SK} {x : RV} {y : PB} {c : Int} {k : Nat} {s : SV} (h : benchOk now ss) (hk : takeK now (ss.map SV.key) x.key = (ks, y, c)) (hs : ss[k]? = some s) (hna : ¬ alikeTo s x) : s.key ∈ ks ∨ (k = 0 ∧ ss.length = 4) := by
 have hm : s.key ∈ ss.map SV.key := List.mem_map.2 ⟨s, List.mem_of_getElem? hs, rfl⟩
 have via : ∀ l : List SK, l = ks → s.key ∈ l → s.key ∈ ks := fun l e h => e ▸ h
 have same : ss.map SV.key = ks → s.key ∈ ks := fun e => e ▸ hm
 unfold takeK at hk
 split at hk
 ·rename_i hok
  split at hk
  ·exact Or.inl (same (congrArg Prod.fst hk))
  ·unfold pieceK at hk
   split at hk
   ·have e := congrArg Prod.fst hk
    simp only at e
    unfold roomK at e
    rw [List.length_map] at e
    split at e
    ·rename_i h4
     cases k with
     | zero => exact Or.inr ⟨rfl, h4⟩
     | succ k =>
      left
      rw [← e]
      refine List.mem_append_left _ ?_
      rw [← List.map_tail]
      refine List.mem_map.2 ⟨s, ?_, rfl⟩
      have h5 : ss.tail[k]? = some s := by rw [List.getElem?_tail]; exact hs
      exact List.mem_of_getElem? h5
    ·exact Or.inl (by rw [← e]; exact List.mem_append_left _ hm)
   ·rename_i s0 hsome
    obtain ⟨i, hi⟩ : ∃ i, (ss.map SV.key).findIdx (hitK x.key) = i := ⟨_, rfl⟩
    have hlt : i < (ss.map SV.key).length := by
     rw [hi] at hsome
     exact (List.getElem?_eq_some_iff.1 hsome).1
    have hhit : keyS s0 = some (k4of x.p) := by
     have h1 := List.findIdx_getElem (p := hitK x.key) (xs := ss.map SV.key) (w := by rw [hi]; exact hlt)
     rw [hi] at hsome
     have h2 := (List.getElem?_eq_some_iff.1 hsome).2
     have h3 : hitK x.key s0 = true := by
      rw [← h2]
      have h4 : (ss.map SV.key)[i] = (ss.map SV.key)[(ss.map SV.key).findIdx (hitK x.key)]'(by rw [hi]; exact hlt) := by congr 1; exact hi.symm
      rw [h4]
      exact h1
     exact of_decide_eq_true h3
    rw [hi] at hk hsome
    have hki : k ≠ i := fun e => by
     subst e
     rw [List.getElem?_map, hs] at hsome
     obtain rfl := Option.some.inj hsome
     exact hna ((alike_hit ((benchOk_pw.1 h).2.2.1 s (List.mem_of_getElem? hs)).2 hok).2 hhit)
    have hsk : (ss.map SV.key)[k]? = some s.key := by rw [List.getElem?_map, hs]; rfl
    have hset : ∀ z, s.key ∈ (ss.map SV.key).set i z := fun z => List.mem_of_getElem? (i := k) (by rw [List.getElem?_set_ne (fun e => hki e.symm)]; exact hsk)
    left
    unfold putK at hk
    split at hk
    ·exact same (congrArg Prod.fst hk)
    ·split at hk
     ·exact same (congrArg Prod.fst hk)
     ·split at hk
      ·exact via _ (congrArg Prod.fst hk) (hset _)
      ·split at hk
       ·exact via _ (congrArg Prod.fst hk) (List.mem_eraseIdx_iff_getElem?.2 ⟨k, hki, hsk⟩)
       ·split at hk
        ·exact via _ (congrArg Prod.fst hk) (hset _)
        ·exact via _ (congrArg Prod.fst hk) (hset _)
 ·exact Or.inl (same (congrArg Prod.fst hk))
theorem found_again {now : Int} {s : SV} {q : RV} {ts : List SV} (hw : waits s) (hq : s.xs[0]? = some q) (ht : benchOk now ts) (hm : s.key ∈ ts.map SV.key) : ∃ t ∈ ts, alikeTo t q := by
 obtain ⟨t, ht1, ht2⟩ := List.mem_map.1 hm
 have hok := okB_of_waits hw hq
 have hwt := ((benchOk_pw.1 ht).2.2.1 t ht1).2
 have h1 : alikeTo s q := ⟨q, hq, alike_self hok⟩
 exact ⟨t, ht1, (alike_hit hwt hok).2 (by rw [ht2]; exact (alike_hit hw hok).1 h1)⟩
theorem take_told {now : Int} {ss : List SV} {ks : List SK} {x : RV} {y : PB} (h : benchOk now ss) (hk : takeK now (ss.map SV.key) x.key = (ks, y, 0)) (hne : y ≠ x.key) :
  ∃ i s, ss[i]? = some s ∧ alikeTo s x ∧ (∀ (j : Nat) r, j < i → ss[j]? = some r → ¬ alikeTo r x) ∧ s.bad = false ∧ joinL (s.key.1 ++ [x.key]) = (0, y) ∧ s.xs.length < 40 ∧ ks = (ss.map SV.key).eraseIdx i ∧ okB x.p x.zs.length = true ∧ ¬ (x.p.off = 0 ∧ x.p.more = false) := by
 unfold takeK at hk
 split at hk
 ·rename_i hok
  split at hk
  ·exact absurd (congrArg (fun t => t.2.1) hk).symm hne
  ·rename_i hcut
   unfold pieceK at hk
   split at hk
   ·have := congrArg (fun t => t.2.2) hk
    simp at this
   ·rename_i s0 hsome
    obtain ⟨i, hi⟩ : ∃ i, (ss.map SV.key).findIdx (hitK x.key) = i := ⟨_, rfl⟩
    have hlt : i < (ss.map SV.key).length := by
     rw [hi] at hsome
     exact (List.getElem?_eq_some_iff.1 hsome).1
    have hhit : keyS s0 = some (k4of x.p) := by
     have h1 := List.findIdx_getElem (p := hitK x.key) (xs := ss.map SV.key) (w := by rw [hi]; exact hlt)
     rw [hi] at hsome
     have h2 := (List.getElem?_eq_some_iff.1 hsome).2
     have h3 : hitK x.key s0 = true := by
      rw [← h2]
      have h4 : (ss.map SV.key)[i] = (ss.map SV.key)[(ss.map SV.key).findIdx (hitK x.key)]'(by rw [hi]; exact hlt) := by congr 1; exact hi.symm
      rw [h4]
      exact h1
     exact of_decide_eq_true h3
    have hfirst : ∀ (j : Nat) r, j < i → ss[j]? = some r → keyS r.key ≠ some (k4of x.p) := fun j r hj hr e => by
     have h1 := List.not_of_lt_findIdx (p := hitK x.key) (xs := ss.map SV.key) (i := j) (by rw [hi]; exact hj)
     have h2 : (ss.map SV.key)[j]'(by omega) = r.key := by
      have : (ss.map SV.key)[j]? = some r.key := by rw [List.getElem?_map, hr]; rfl
      exact (List.getElem?_eq_some_iff.1 this).2
     rw [h2] at h1
     simp [hitK] at h1
     exact h1 e
    rw [hi] at hk hsome
    rw [List.getElem?_map] at hsome
    cases hs : ss[i]? with
    | none => rw [hs] at hsome; cases hsome
    | some s =>
     rw [hs] at hsome
     obtain rfl := Option.some.inj hsome
     have hws : ∀ r ∈ ss, waits r := fun r hr => ((benchOk_pw.1 h).2.2.1 r hr).2
     have hw := hws s (List.mem_of_getElem? hs)
     have hal := (alike_hit hw hok).2 hhit
     unfold putK at hk
     split at hk
     ·have := congrArg (fun t => t.2.2) hk; simp at this
     ·rename_i hb
      split at hk
      ·have := congrArg (fun t => t.2.2) hk; simp at this
      ·split at hk
       ·have := congrArg (fun t => t.2.2) hk; simp at this
       ·rename_i h40
        split at hk
        ·rename_i hj
         have e1 := congrArg Prod.fst hk
         have e2 := congrArg (fun t => t.2.1) hk
         simp only at e1 e2
         refine ⟨i, s, hs, hal, fun j r hj' hr ha => hfirst j r hj' hr ((alike_hit (hws r (List.mem_of_getElem? hr)) hok).1 ha), (show s.key.2.2 = false by simpa using hb), ?_, ?_, e1.symm, hok, hcut⟩
         ·rw [← e2, ← hj]
         ·have h5 := (put_code hw hal h40).1
          simpa [SV.key] using h5
        ·split at hk
         ·have := congrArg (fun t => t.2.2) hk; simp at this
         ·have := congrArg (fun t => t.2.2) hk; simp at this
 ·have := congrArg (fun t => t.2.2) hk
  simp at this
theorem told_off {L : List PB} {y : PB} (h : joinL L = (0, y)) : y.1.off = 0 ∧ y.1.more = false := by
 obtain ⟨e, bs, _, _, _, h4⟩ := join_parts (congrArg Prod.fst h)
 have e1 : y = (headL L, bs) := congrArg Prod.snd (h.symm.trans h4)
 rw [e1]
 unfold headL
 cases L <;> exact ⟨rfl, rfl⟩
theorem told_gone {now : Int} {ss ts : List SV} {x : RV} {i : Nat} {s : SV} (h : benchOk now ss) (ht : benchOk now ts) (hs : ss[i]? = some s) (hal : alikeTo s x) (hok : okB x.p x.zs.length = true) (hk : ts.map SV.key = (ss.map SV.key).eraseIdx i) : ∀ t ∈ ts, ¬ alikeTo t x := by
 intro t ht1 ha
 obtain ⟨_, _, h3, h4⟩ := benchOk_pw.1 h
 have hwt := ((benchOk_pw.1 ht).2.2.1 t ht1).2
 have hm : t.key ∈ (ss.map SV.key).eraseIdx i := by rw [← hk]; exact List.mem_map.2 ⟨t, ht1, rfl⟩
 obtain ⟨j, hji, hj⟩ := List.mem_eraseIdx_iff_getElem?.1 hm
 rw [List.getElem?_map] at hj
 cases hr : ss[j]? with
 | none => rw [hr] at hj; cases hj
 | some r =>
  rw [hr] at hj
  have hrk : r.key = t.key := Option.some.inj hj
  have hwr := (h3 r (List.mem_of_getElem? hr)).2
  have hra : alikeTo r x := (alike_hit hwr hok).2 (by rw [hrk]; exact (alike_hit hwt hok).1 ha)
  obtain ⟨u, hu, hux⟩ := hra
  obtain ⟨v, hv, hvx⟩ := hal
  have h5 := (alikeB_iff _ _).1 hux
  have h6 := (alikeB_iff _ _).1 hvx
  have huv : alikeB u.key v.key = true := (alikeB_iff _ _).2 ⟨h5.1, h6.1, h5.2.2.1.trans h6.2.2.1.symm, h5.2.2.2.1.trans h6.2.2.2.1.symm, h5.2.2.2.2.1.trans h6.2.2.2.2.1.symm, h5.2.2.2.2.2.trans h6.2.2.2.2.2.symm⟩
  have hp := List.pairwise_iff_getElem.1 h4
  obtain ⟨hi1, rfl⟩ := List.getElem?_eq_some_iff.1 hs
  obtain ⟨hj1, rfl⟩ := List.getElem?_eq_some_iff.1 hr
  rcases Nat.lt_or_ge i j with hlt | hge
  ·exact (hp i j hi1 hj1 hlt).2 (firstAlike_symm ⟨u, v, hu, hv, huv⟩)
  ·exact (hp j i hj1 hi1 (by omega)).2 ⟨u, v, hu, hv, huv⟩
def PanicOk (Q : Exit → Act → World → Prop) : Prop := ∀ (c : List PanicEntry) (d : Option Tmp) (v : Value) (a : Act) (w : World), Q (.panic c) (a.put d v) w → Q (.panic c) a w
theorem PanicOk.then {Q : Exit → Act → World → Prop} (R : Act → World → Prop) (h : PanicOk Q) : PanicOk (Exit.then R Q) := fun c d v a w => h c d v a w
theorem PanicOk.blk {Q : Exit → Act → World → Prop} (i : Nat) (h : PanicOk Q) : PanicOk (Exit.inBlock i Q) := fun c d v a w => h c d v a w
def X9 (u : World) (g o : Nat) (x : RV) : Prop := u.cell? ⟨g, o, none⟩ = some (.int .i64 x.p.src) ∧ u.cell? ⟨g, o + 1, none⟩ = some (.int .i64 x.p.dst) ∧ u.cell? ⟨g, o + 2, none⟩ = some (.int .i64 x.p.kind) ∧ u.cell? ⟨g, o + 3, none⟩ = some (.int .i64 x.p.id) ∧ u.cell? ⟨g, o + 4, none⟩ = some (.int .i64 x.p.hops) ∧ u.cell? ⟨g, o + 5, none⟩ = some (.bool x.p.whole) ∧ u.cell? ⟨g, o + 6, none⟩ = some (.int .i64 x.p.off) ∧ u.cell? ⟨g, o + 7, none⟩ = some (.bool x.p.more) ∧ u.cell? ⟨g, o + 8, none⟩ = some (.slice x.a x.zs.length x.c)
def F6 (w1 w6 : World) (zA zB zC zD l m1 cl1 m2 cl2 cb k2 : Nat) (now1 : Int) (ob oa1 oa2 a2 : Option Addr) (y1 : RV) : Prop := ∀ u, Below w6.heap.size w6 u → (u.cell? ⟨w1.heap.size, 0, none⟩ = some (.int .i64 now1) ∧ u.cell? ⟨w1.heap.size, 1, none⟩ = some (.slice ob l cb)) ∧ (u.cell? ⟨zA, 0, none⟩ = some (.int .i64 now1) ∧ u.cell? ⟨zA, 1, none⟩ = some (.slice oa1 m1 cl1)) ∧ (u.cell? ⟨zC, 0, none⟩ = some (.int .i64 now1) ∧ u.cell? ⟨zC, 1, none⟩ = some (.slice oa2 m2 cl2)) ∧ Boxed u zB y1.p (.slice y1.a y1.zs.length y1.c) ∧ Boxed u zD y1.p (.slice a2 y1.zs.length k2)
structure LCx (w1 : World) (gl n : Nat) (xs : List RV) : Prop where
 len : Hid (xs.length = n)
 lt : gl < w1.heap.size
 at_ : Hid (∀ (u : World) (i : Nat) (x : RV), Below w1.heap.size w1 u → xs[i]? = some x → ROk u x ∧ X9 u gl (i * 9) x)
 good : Hid (∀ u, Below w1.heap.size w1 u → GoodErr u)
structure BSt (w1 wr : World) (k l : Nat) (nw : Int) (ob : Option Addr) (cb : Nat) (ts : List SV) : Prop where
 hl : l ≤ 4
 hlb : l ≤ cb
 hlx : cb ≤ 9223372036854775807
 hnk : nw ≤ k
 len : Hid (ts.length = l)
 ok : Hid (benchOk nw ts)
 q : Hid (∀ u : World, (∀ b, b ≠ w1.heap.size → b < wr.heap.size → u.heap[b]? = wr.heap[b]?) → SLq u ob ts)
 box : Hid (wr.heap[w1.heap.size]? = some (.cells #[.int .i64 nw, .slice ob l cb] 27 (0, 0)))
 be : Hid (Below w1.heap.size w1 wr)
theorem zTq {P : Program} {md : Region.Mode} {ops : Array Oper} {Q : Exit → Act → World → Prop} (hP : PanicOk Q) {S : World → Prop} {fuel : Nat} {listed : Array Bool} {a : Act} {w : World} {oi : Oper} (i d : Nat) (v : Value) (hi : ops[i]? = some oi) (hy : ∀ w, S w → (execOp a.eval oi).run P w = .ok (.value v) w) (hS : S w)
  (h : wpAnyH P md ops Q S fuel (listed.setIfInBounds i true) (a.put (some d) v) w) (hd : oi.dst = some d := by rfl) (hs : Region.noSelect ops = true := by kernel_rfl) (hf : Region.free md ops listed i = true := by kernel_rfl) (hr : (Region.ready md ops listed).contains i = true := by kernel_rfl)
  (hw : Region.wanted oi (yielded ops a.tmps) = true := by rfl) : wpAnyH P md ops Q S (fuel + 1) listed a w := take_held i (some d) v hi hd hs hf hr (fun c a w h => hP c _ _ a w h) hw hy hS h
set_option maxHeartbeats 25600000 in
theorem bn8_no {Q : Exit → Act → World → Prop} {w1 : World} {gl n cl : Nat} {xs : List RV} (C : LCx w1 gl n xs) {wr : World} {k l : Nat} {nw : Int} {ob : Option Addr} {cb : Nat} {ts : List SV} (S : BSt w1 wr k l nw ob cb ts) {x : RV} (hkn : k < n) (hx : xs[k]? = some x) {v0 v1 v2 v6 v7 v8 v9 v10 v11 v12 v13 v14 v15 v16 v17 v18 v19 v20 : Value} {f : Nat → Value} (htick : ¬ (x.p.kind = 0 ∧ x.p.hops = 0)) (hQ : Hid (∀ f, Q .normal (fr v0 v1 v2 (.slice (some ⟨gl, 0, none⟩) n cl) (.pointer (some ⟨w1.heap.size, 0, none⟩)) (.int .i64 k) v6 v7 v8 v9 v10 v11 v12 v13 v14 v15 v16 v17 v18 v19 v20 f) wr)) : (Cd.fst (Cd.inn (Cd.fst (Cd.snd (Cd.inn (Cd.inn (Cd.snd (Cd.fst (Cd.snd (Cd.snd (Cd.snd (Cd.snd (Option.getD Tryz.f3.body .skip))))))))))))).wp Tryz.prog Q (fr v0 v1 v2 (.slice (some ⟨gl, 0, none⟩) n cl) (.pointer (some ⟨w1.heap.size, 0, none⟩)) (.int .i64 k) v6 v7 v8 v9 v10 v11 v12 v13 v14 v15 v16 v17 v18 v19 v20 f) wr := by
 obtain ⟨HXL, hgl, HX, HG⟩ := C
 obtain ⟨hl, hlb, hlx, hnk, HTL, HOK, HQT, HBX, HBE⟩ := S
 have hn0 := HOK.out.1.1
 have j0 : wr.cell? ⟨w1.heap.size, 0, none⟩ = some (.int .i64 nw) := zCr HBX.out
 have j1 : wr.cell? ⟨w1.heap.size, 1, none⟩ = some (.slice ob l cb) := zCr HBX.out
 have lj := lt_of_block HBX.out
 have HSL : Hid (SLq wr ob ts) := HQT.out wr fun b _ _ => rfl
 have hki : (k : Int) < (n : Int) := by omega
 have HXK : Hid (xs[k]? = some x) := hx
 obtain ⟨hxr, c0, c1, c2, c3, c4, c5, c6, c7, c8⟩ := HX.out wr k x HBE.out hx
 have HXR : Hid (ROk wr x) := hxr
 clear hx hxr
 have hglr : gl < wr.heap.size := by have := HBE.out.size; omega
 refine wp_is (c' := .seq _ _) rfl ?_
 unfold fr
 clear HX HG HXL HTL HOK HQT HBX HBE HSL HXR HXK j0 j1
 by_cases hk0 : x.p.kind = 0
 ·have hkz : (x.p.kind == 0) = true := beq_iff_eq.2 hk0
  have hhz : (x.p.hops == 0) = false := beq_eq_false_iff_ne.2 fun h => htick ⟨hk0, h⟩
  clear hk0 htick
  go_wp2
  refine fr_end (C := fun a => Q .normal a _) rfl rfl rfl (fun f => ?_)
  exact hQ.out f
 ·have hkz : (x.p.kind == 0) = false := beq_eq_false_iff_ne.2 hk0
  clear hk0 htick
  go_wp2
  refine fr_end (C := fun a => Q .normal a _) rfl rfl rfl (fun f => ?_)
  exact hQ.out f
end Go.Proofs.YtjbkgmbakjnlhaaGreatDoor
