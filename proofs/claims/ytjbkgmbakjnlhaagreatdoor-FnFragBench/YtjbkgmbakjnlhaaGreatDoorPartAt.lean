import Derived.Test.YtjbkgmbakjnlhaaGreatDoorPartAe
import Derived.Test.YtjbkgmbakjnlhaaGreatDoorPartAs
import Derived.Test.YtjbkgmbakjnlhaaGreatDoorPartAo
import Derived.Test.YtjbkgmbakjnlhaaGreatDoorPartAl
import Derived.Test.YtjbkgmbakjnlhaaGreatDoorPartAr
namespace Go.Proofs.YtjbkgmbakjnlhaaGreatDoor
set_option maxRecDepth 100000
theorem bytes_len {L : List PB} : ∀ (n : Nat) (bs : List Int), bytesL L n = some bs → bs.length = n
 | 0, bs, h => by
  simp only [bytesL, Option.some.injEq] at h
  subst h
  rfl
 | n + 1, bs, h => by
  unfold bytesL at h
  cases h1 : bytesL L n with
  | none => rw [h1] at h; simp at h
  | some cs =>
   cases h2 : L.find? (fun x => hasB x n) with
   | none => rw [h1, h2] at h; simp at h
   | some x =>
    rw [h1, h2] at h
    simp only [Option.some.injEq] at h
    subst h
    rw [List.length_append, bytes_len n cs h1]
    rfl
theorem ok_parts {p : Pk} {len : Nat} (h : okB p len = true) : (0 ≤ p.src ∧ p.src ≤ 65535) ∧ (0 ≤ p.dst ∧ p.dst ≤ 65535) ∧ (1 ≤ p.kind ∧ p.kind ≤ 7) ∧ (0 ≤ p.id ∧ p.id ≤ 255) ∧ (1 ≤ p.hops ∧ p.hops ≤ 64) ∧ 0 ≤ p.off ∧ (len : Int) ≤ 128 - p.off := by
 simp only [okB, headB, offB, inB, Bool.and_eq_true, decide_eq_true_eq] at h
 omega
theorem join_parts {L : List PB} (h : (joinL L).1 = 0) : ∃ e bs, alikeL L = true ∧ endL L = some e ∧ bytesL L e.toNat = some bs ∧ joinL L = (0, (headL L, bs)) := by
 unfold joinL at h ⊢
 cases ha : alikeL L with
 | false => rw [ha] at h; simp at h
 | true =>
  rw [ha, if_pos rfl] at h
  rw [if_pos rfl]
  cases hd : disagreeL L with
  | true => rw [hd] at h; simp at h
  | false =>
   rw [hd, if_neg (by simp)] at h
   rw [if_neg (by simp)]
   cases he : endL L with
   | none => rw [he] at h; simp at h
   | some e =>
    rw [he] at h
    simp only at h ⊢
    cases hb : bytesL L e.toNat with
    | none => rw [hb] at h; simp at h
    | some bs => exact ⟨e, bs, by first | rfl | trivial, by first | rfl | trivial, by first | rfl | exact hb, by first | rfl | rw [hb]⟩
theorem end_le {L : List PB} {e : Int} (ha : alikeL L = true) (h : endL L = some e) : e.toNat ≤ 128 := by
 unfold endL at h
 cases hf : L.find? (fun x => !x.1.more) with
 | none => rw [hf] at h; simp at h
 | some x =>
  rw [hf] at h
  simp only [Option.map_some, Option.some.injEq] at h
  have hx := List.mem_of_find?_eq_some hf
  have hk := ((alikeL_iff L).1 ha).2.2 x hx x hx
  simp only [alikeB, Bool.and_eq_true] at hk
  have := ok_parts hk.1.1.1.1.1
  unfold endOf at h
  omega
theorem join_small (L : List PB) : (joinL L).2.2.length ≤ 128 := by
 by_cases h : (joinL L).1 = 0
 ·obtain ⟨e, bs, ha, he, hb, hj⟩ := join_parts h
  rw [hj, bytes_len _ _ hb]
  exact end_le ha he
 ·unfold joinL at h ⊢
  split
  ·rename_i ha
   rw [if_pos ha] at h
   split
   ·simp
   ·rename_i hd
    rw [if_neg hd] at h
    cases he : endL L with
    | none => simp
    | some e =>
     rw [he] at h
     simp only at h ⊢
     cases hb : bytesL L e.toNat with
     | none => simp
     | some bs => rw [hb] at h; simp at h
  ·simp
theorem join_next {L : List PB} {z : PB} (h : (joinL L).1 ≠ 1) (hz : ∀ x ∈ L, alikeB x z = true) (hl : L.length < 40) :
  ((joinL L).1 = 2 ∧ (joinL (L ++ [z])).1 = 2) ∨ ((joinL L).1 = 3 ∧ ((joinL (L ++ [z])).1 = 0 ∨ (joinL (L ++ [z])).1 = 2 ∨ (joinL (L ++ [z])).1 = 3)) ∨ ((joinL L).1 = 0 ∧ ((joinL (L ++ [z])).1 = 2 ∨ ((joinL (L ++ [z])).1 = 0 ∧ (joinL (L ++ [z])).2.2 = (joinL L).2.2 ∧ (joinL (L ++ [z])).2.1 = ⟨(joinL L).2.1.src, (joinL L).2.1.dst, (joinL L).2.1.kind, (joinL L).2.1.id, (joinL (L ++ [z])).2.1.hops, (joinL (L ++ [z])).2.1.whole, (joinL L).2.1.off, (joinL L).2.1.more⟩))) := by
 have ha : alikeL L = true := by
  cases e : alikeL L with
  | true => rfl
  | false => exact absurd ((join_one L).2 e) h
 have ha' := alike_more ha hz hl
 have h1 : (joinL (L ++ [z])).1 ≠ 1 := fun e => by
  have := (join_one _).1 e
  rw [ha'] at this
  cases this
 rcases join_code L with c | c | c | c
 ·refine Or.inr (Or.inr ⟨c, ?_⟩)
  rcases join_more c hz hl with a | ⟨a, b, d, e⟩
  ·exact Or.inl a
  ·refine Or.inr ⟨a, b, ?_⟩
   rw [d, e]
   obtain ⟨hne, _, _⟩ := (alikeL_iff L).1 ha
   match L, hne with
   | x :: r, _ => rfl
 ·exact absurd c h
 ·exact Or.inl ⟨c, join_lies c hz hl⟩
 ·refine Or.inr (Or.inl ⟨c, ?_⟩)
  rcases join_code (L ++ [z]) with a | a | a | a
  ·exact Or.inl a
  ·exact absurd a h1
  ·exact Or.inr (Or.inl a)
  ·exact Or.inr (Or.inr a)
end Go.Proofs.YtjbkgmbakjnlhaaGreatDoor
namespace Go.Proofs.YtjbkgmbakjnlhaaGreatDoor
set_option maxRecDepth 100000
open Go.RowKit
def zeroPB : PB := (zeroPk, [])
def keyS (s : SK) : Option K4 := s.1.head?.map fun x => k4of x.1
def hitK (x : PB) (s : SK) : Bool := decide (keyS s = some (k4of x.1))
def roomK (ks : List SK) : List SK := if ks.length = 4 then ks.tail else ks
def spoilK (s : SK) : SK := (s.1.take 1, s.2.1, true)
open Classical in
noncomputable def putK (ks : List SK) (i : Nat) (s : SK) (x : PB) : List SK × PB × Int :=
 if s.2.2 = true then (ks, zeroPB, 4)
 else if x ∈ s.1 then (ks, zeroPB, 3)
 else if s.1.length = 40 then (ks.set i (spoilK s), zeroPB, 4)
 else if (joinL (s.1 ++ [x])).1 = 0 then (ks.eraseIdx i, (joinL (s.1 ++ [x])).2, 0)
 else if (joinL (s.1 ++ [x])).1 = 3 then (ks.set i (s.1 ++ [x], s.2.1, s.2.2), zeroPB, 3)
 else (ks.set i (spoilK s), zeroPB, 4)
noncomputable def pieceK (now : Int) (ks : List SK) (x : PB) : List SK × PB × Int :=
 match ks[ks.findIdx (hitK x)]? with
 | none => (roomK ks ++ [([x], now, false)], zeroPB, 3)
 | some s => putK ks (ks.findIdx (hitK x)) s x
noncomputable def takeK (now : Int) (ks : List SK) (x : PB) : List SK × PB × Int :=
 if okB x.1 x.2.length = true then
  if x.1.off = 0 ∧ x.1.more = false then (ks, x, 0) else pieceK now ks x
 else (ks, zeroPB, 2)
theorem piece_none {now : Int} {ks : List SK} {x : PB} (h : ∀ s ∈ ks, keyS s ≠ some (k4of x.1)) : pieceK now ks x = (roomK ks ++ [([x], now, false)], zeroPB, 3) := by
 have e : ks.findIdx (hitK x) = ks.length := List.findIdx_eq_length.2 fun s hs => by
  have := h s hs
  simp [hitK, this]
 unfold pieceK
 rw [e, List.getElem?_eq_none (Nat.le_refl _)]
theorem piece_at {now : Int} {ks : List SK} {x : PB} {i : Nat} {s : SK} (hi : ks[i]? = some s) (hs : keyS s = some (k4of x.1)) (hf : ∀ (j : Nat) t, j < i → ks[j]? = some t → keyS t ≠ some (k4of x.1)) : pieceK now ks x = putK ks i s x := by
 obtain ⟨hl, hg⟩ := List.getElem?_eq_some_iff.1 hi
 have e : ks.findIdx (hitK x) = i := (List.findIdx_eq hl).2 ⟨by rw [hg]; simp [hitK, hs], fun j hj => by
  have := hf j ks[j] hj (List.getElem?_eq_getElem _)
  simp [hitK, this]⟩
 unfold pieceK
 rw [e, hi]
theorem put_bad {ks : List SK} {i : Nat} {s : SK} {x : PB} (h : s.2.2 = true) : putK ks i s x = (ks, zeroPB, 4) := by
 unfold putK
 rw [if_pos h]
theorem put_told {ks : List SK} {i : Nat} {s : SK} {x : PB} (h : s.2.2 = false) (hx : x ∈ s.1) : putK ks i s x = (ks, zeroPB, 3) := by
 unfold putK
 rw [if_neg (by rw [h]; decide), if_pos hx]
theorem put_full {ks : List SK} {i : Nat} {s : SK} {x : PB} (h : s.2.2 = false) (hx : x ∉ s.1) (hl : s.1.length = 40) : putK ks i s x = (ks.set i (spoilK s), zeroPB, 4) := by
 unfold putK
 rw [if_neg (by rw [h]; decide), if_neg hx, if_pos hl]
theorem put_goes {ks : List SK} {i : Nat} {s : SK} {x : PB} (h : s.2.2 = false) (hx : x ∉ s.1) (hl : s.1.length ≠ 40) (hj : (joinL (s.1 ++ [x])).1 = 0) : putK ks i s x = (ks.eraseIdx i, (joinL (s.1 ++ [x])).2, 0) := by
 unfold putK
 rw [if_neg (by rw [h]; decide), if_neg hx, if_neg hl, if_pos hj]
theorem put_grows {ks : List SK} {i : Nat} {s : SK} {x : PB} (h : s.2.2 = false) (hx : x ∉ s.1) (hl : s.1.length ≠ 40) (hj : (joinL (s.1 ++ [x])).1 = 3) : putK ks i s x = (ks.set i (s.1 ++ [x], s.2.1, s.2.2), zeroPB, 3) := by
 unfold putK
 rw [if_neg (by rw [h]; decide), if_neg hx, if_neg hl, if_neg (by omega), if_pos hj]
theorem put_spoils {ks : List SK} {i : Nat} {s : SK} {x : PB} (h : s.2.2 = false) (hx : x ∉ s.1) (hl : s.1.length ≠ 40) (hj : (joinL (s.1 ++ [x])).1 ≠ 0) (hj' : (joinL (s.1 ++ [x])).1 ≠ 3) : putK ks i s x = (ks.set i (spoilK s), zeroPB, 4) := by
 unfold putK
 rw [if_neg (by rw [h]; decide), if_neg hx, if_neg hl, if_neg hj, if_neg hj']
theorem byte_at {x : PB} {j : Int} (hb : ∀ z ∈ x.2, 0 ≤ z ∧ z ≤ 255) : 0 ≤ byteAt x j ∧ byteAt x j ≤ 255 := by
 unfold byteAt
 rw [List.getD_eq_getElem?_getD]
 cases h : x.2[(j - x.1.off).toNat]? with
 | none => simp
 | some z => exact hb z (List.mem_of_getElem? h)
theorem bytes_range {L : List PB} (hb : ∀ x ∈ L, ∀ z ∈ x.2, 0 ≤ z ∧ z ≤ 255) : ∀ (n : Nat) (bs : List Int), bytesL L n = some bs → ∀ z ∈ bs, 0 ≤ z ∧ z ≤ 255
 | 0, bs, h => by
  simp only [bytesL, Option.some.injEq] at h
  subst h
  intro z hz
  cases hz
 | n + 1, bs, h => by
  unfold bytesL at h
  cases h1 : bytesL L n with
  | none => rw [h1] at h; simp at h
  | some cs =>
   cases h2 : L.find? (fun x => hasB x n) with
   | none => rw [h1, h2] at h; simp at h
   | some x =>
    rw [h1, h2] at h
    simp at h
    subst h
    intro z hz
    rcases List.mem_append.1 hz with hz | hz
    ·exact bytes_range hb n cs h1 z hz
    ·rw [List.mem_singleton.1 hz]
     exact byte_at (hb x (List.mem_of_find?_eq_some h2))
theorem join_range {L : List PB} (hb : ∀ x ∈ L, ∀ z ∈ x.2, 0 ≤ z ∧ z ≤ 255) (h0 : (joinL L).1 = 0) : ∀ z ∈ (joinL L).2.2, 0 ≤ z ∧ z ≤ 255 := by
 obtain ⟨e, bs, _, _, h3, h4⟩ := join_parts h0
 rw [h4]
 exact bytes_range hb _ _ h3
theorem filter_erase : ∀ (es : List Ent) (i : Nat) (e0 : Ent), (es.map Ent.k).Nodup → es[i]? = some e0 → (es.filter fun e => decide (e.k ≠ e0.k)) = es.eraseIdx i
 | [], i, e0, _, h => by simp at h
 | x :: r, 0, e0, hn, h => by
  simp at h
  subst h
  rw [drop_first hn]
  rfl
 | x :: r, i + 1, e0, hn, h => by
  rw [List.map_cons, List.nodup_cons] at hn
  have h' : r[i]? = some e0 := by simpa using h
  have hne : x.k ≠ e0.k := fun e => hn.1 (List.mem_map.2 ⟨e0, List.mem_of_getElem? h', e.symm⟩)
  rw [List.filter_cons, if_pos (by simp [hne]), filter_erase r i e0 hn.2 h']
  rfl
end Go.Proofs.YtjbkgmbakjnlhaaGreatDoor
namespace Go.Proofs.YtjbkgmbakjnlhaaGreatDoor
set_option maxRecDepth 100000
open Go.RowKit
theorem k4_eq (p q : Pk) : k4of p = k4of q ↔ p.src = q.src ∧ p.dst = q.dst ∧ p.kind = q.kind ∧ p.id = q.id := by
 unfold k4of
 simp only [Prod.mk.injEq]
theorem alike_hit {s : SV} {x : RV} (hw : waits s) (hok : okB x.p x.zs.length = true) : alikeTo s x ↔ keyS s.key = some (k4of x.p) := by
 obtain ⟨y, hy⟩ := waits_first hw
 have hoy := okB_of_waits hw hy
 have hk : keyS s.key = some (k4of y.p) := by
  unfold keyS SV.key
  simp only
  cases hx : s.xs with
  | nil => rw [hx] at hy; simp at hy
  | cons z r =>
   rw [hx] at hy
   simp at hy
   subst hy
   rfl
 rw [hk, Option.some.injEq, k4_eq]
 constructor
 ·rintro ⟨z, hz, ha⟩
  obtain rfl := Option.some.inj (hy.symm.trans hz)
  exact ((alikeB_iff _ _).1 ha).2.2
 ·intro h
  exact ⟨y, hy, (alikeB_iff _ _).2 ⟨hoy, hok, h⟩⟩
theorem put_code {s : SV} {x : RV} (hw : waits s) (ha : alikeTo s x) (hl : s.key.1.length ≠ 40) : s.key.1.length < 40 ∧ ((joinL (s.key.1 ++ [x.key])).1 = 0 ∨ (joinL (s.key.1 ++ [x.key])).1 = 2 ∨ (joinL (s.key.1 ++ [x.key])).1 = 3) := by
 have h3 : (joinL s.key.1).1 = 3 := hw.1
 have hal : alikeL s.key.1 = true := by
  cases e : alikeL s.key.1 with
  | true => rfl
  | false =>
   have := (join_one s.key.1).2 e
   omega
 obtain ⟨_, h40, hall⟩ := (alikeL_iff _).1 hal
 have hlt : s.key.1.length < 40 := by omega
 obtain ⟨y, hy, hyx⟩ := ha
 have hym : y.key ∈ s.key.1 := List.mem_map.2 ⟨y, List.mem_of_getElem? hy, rfl⟩
 have hz : ∀ z ∈ s.key.1, alikeB z x.key = true := fun z hz => by
  have h1 := (alikeB_iff _ _).1 (hall z hz y.key hym)
  have h2 := (alikeB_iff _ _).1 hyx
  exact (alikeB_iff _ _).2 ⟨h1.1, h2.2.1, h1.2.2.1.trans h2.2.2.1, h1.2.2.2.1.trans h2.2.2.2.1, h1.2.2.2.2.1.trans h2.2.2.2.2.1, h1.2.2.2.2.2.trans h2.2.2.2.2.2⟩
 refine ⟨hlt, ?_⟩
 rcases join_next (by omega) hz hlt with ⟨h, _⟩ | ⟨_, h⟩ | ⟨h, _⟩
 ·omega
 ·exact h
 ·omega
def TakeP (now : Int) (ss : List SV) (x : PB) (now' : Int) (ks : List SK) (y : PB) (c : Int) : Prop :=
 (¬ benchOk now ss ∧ now' = 0 ∧ ks = [] ∧ y = zeroPB ∧ c = 1) ∨ (benchOk now ss ∧ now' = now ∧ takeK now (ss.map SV.key) x = (ks, y, c))
theorem TakeP.same {now : Int} {ss ss' : List SV} {x x' : PB} {a a' : Int} {ks ks' : List SK} {y y' : PB} {c c' : Int} (h : TakeP now ss x a ks y c) (h' : TakeP now ss' x' a' ks' y' c') (hk : ss'.map SV.key = ss.map SV.key) (hx : x' = x) : a = a' ∧ ks = ks' ∧ y = y' ∧ c = c' := by
 have hb := benchOk_iff (now := now) hk
 unfold TakeP at h'
 rw [hb, hk, hx] at h'
 rcases h with ⟨n, h1, h2, h3, h4⟩ | ⟨n, h1, h2⟩ <;> rcases h' with ⟨n', h1', h2', h3', h4'⟩ | ⟨n', h1', h2'⟩
 ·exact ⟨h1.trans h1'.symm, h2.trans h2'.symm, h3.trans h3'.symm, h4.trans h4'.symm⟩
 ·exact absurd n' n
 ·exact absurd n n'
 ·have e := h2.symm.trans h2'
  simp only [Prod.mk.injEq] at e
  exact ⟨h1.trans h1'.symm, e.1, e.2.1, e.2.2⟩
end Go.Proofs.YtjbkgmbakjnlhaaGreatDoor
namespace Go.Proofs.YtjbkgmbakjnlhaaGreatDoor
set_option maxRecDepth 100000
open Go.RowKit
def badS (s : SV) : SV := { a := s.a, c := s.c, xs := s.xs.take 1, since := s.since, bad := true }
theorem badS_key (s : SV) : (badS s).key = spoilK s.key := by
 unfold SV.key badS spoilK
 simp [List.map_take]
theorem SLf.put {w w' : World} {g i : Nat} {ts : List SV} {t : SV} {cur cur' : Array Value} (h : SL w g ts) (hb : w.heap[g]? = some (.cells cur 39 (0, 0))) (hb' : w'.heap[g]? = some (.cells cur' 39 (0, 0)))
  (hf : ∀ o, o / 3 ≠ i → cur'[o]? = cur[o]?) (e0 : cur'[i * 3]? = some (.slice t.a t.xs.length t.c)) (e1 : cur'[i * 3 + 1]? = some (.int .i64 t.since)) (e2 : cur'[i * 3 + 2]? = some (.bool t.bad)) (ho : ∀ s ∈ ts, SOk w' s) (ht : SOk w' t) : SLf w' g 0 (ts.set i t) := by
 refine ⟨lt_of_block hb', fun k x hx => ?_, fun x hx => ?_⟩
 ·have hc : ∀ o, w'.cell? ⟨g, o, none⟩ = cur'[o]? := fun o => zCr hb'
  have hc0 : ∀ o, w.cell? ⟨g, o, none⟩ = cur[o]? := fun o => zCr hb
  by_cases e : i = k
  ·subst e
   have hl : i < ts.length := by
    have := (List.getElem?_eq_some_iff.1 hx).1
    rw [List.length_set] at this
    exact this
   rw [List.getElem?_set_self hl] at hx
   obtain rfl := Option.some.inj hx
   exact ⟨by rw [Nat.zero_add, hc]; exact e0, by rw [Nat.zero_add, hc]; exact e1, by rw [Nat.zero_add, hc]; exact e2⟩
  ·rw [List.getElem?_set_ne e] at hx
   obtain ⟨a, b, c⟩ := h.elem k x hx
   rw [hc0] at a b c
   exact ⟨by rw [Nat.zero_add, hc, hf _ (by omega)]; exact a, by rw [Nat.zero_add, hc, hf _ (by omega)]; exact b, by rw [Nat.zero_add, hc, hf _ (by omega)]; exact c⟩
 ·rcases List.mem_or_eq_of_mem_set hx with h1 | h1
  ·exact ho x h1
  ·rw [h1]; exact ht
theorem SOk.take1 {w : World} {s : SV} (h : SOk w s) : SOk w (badS s) := by
 obtain ⟨gL, h1, h2⟩ := h.at_
 refine ⟨⟨gL, h1, h2.lt, fun k x hx => ?_, fun x hx => h2.each x (List.mem_of_mem_take hx)⟩, ?_, ?_, h.capM⟩
 ·have hx' : (s.xs.take 1)[k]? = some x := hx
  rw [List.getElem?_take] at hx'
  split at hx'
  ·exact h2.elem k x hx'
  ·cases hx'
 ·have := h.len
  show (s.xs.take 1).length ≤ _
  rw [List.length_take]; omega
 ·have := h.cap
  show (s.xs.take 1).length ≤ _
  rw [List.length_take]
  show min 1 s.xs.length ≤ s.c
  omega
theorem CAns.soks {w w' : World} {lo g c : Nat} {ts : List SV} (h : CAns w lo g c ts) (hk : ∀ b, b < w.heap.size → b ≠ g → w'.heap[b]? = w.heap[b]?) : ∀ s ∈ ts, SOk w' s := by
 intro s hs
 have F : Forest w' lo ts := h.forest.kept fun b hb => by
  obtain ⟨_, h2, cur, t, h3, h4⟩ := h.forest.blk b hb
  refine hk b h2 fun e => ?_
  obtain ⟨cu, hcu⟩ := own_at h.own g rfl
  rw [e, hcu] at h3
  cases h3
  rcases h4 with h4 | h4 <;> cases h4
 exact (F.each s hs).sok
theorem CAns.soksB {w w' : World} {lo g c : Nat} {ts : List SV} (h : CAns w lo g c ts) (hk : ∀ b ∈ ts.flatMap SV.blks, w'.heap[b]? = w.heap[b]?) : ∀ s ∈ ts, SOk w' s :=
 fun s hs => ((h.forest.kept hk).each s hs).sok
theorem CAns.noG {w : World} {lo g c : Nat} {ts : List SV} (h : CAns w lo g c ts) : ∀ b ∈ ts.flatMap SV.blks, b ≠ g ∧ b < w.heap.size := fun b hb => by
 obtain ⟨_, h2, cur, t, h3, h4⟩ := h.forest.blk b hb
 refine ⟨fun e => ?_, h2⟩
 obtain ⟨cu, hcu⟩ := own_at h.own g rfl
 rw [e, hcu] at h3
 cases h3
 rcases h4 with h4 | h4 <;> cases h4
set_option maxHeartbeats 6400000 in
theorem l4Bad_any (now : Int) (g c i lo : Nat) (ts : List SV) (s : SV) (w : World) (hC : CAns w lo g c ts) (hi : ts[i]? = some s) (hx : 1 ≤ s.xs.length) (hm : ts.length ≤ 1048576) :
  Calls Tryz.prog 72 #[.agg #[.int .i64 now, .slice (some ⟨g, 0, none⟩) ts.length c], .int .i64 i] w fun e w' => e = .returned (.agg #[.int .i64 now, .slice (some ⟨g, 0, none⟩) ts.length c]) ∧ (∀ W', (∀ b, b = g ∨ b ∈ ts.flatMap SV.blks → W'.heap[b]? = w'.heap[b]?) → SLf W' g 0 (ts.set i (badS s))) ∧ Only (fun b => b = g) w w' := by
 have HC : Hid (CAns w lo g c ts) := hC
 have HI : Hid (ts[i]? = some s) := hi
 have hlt := (List.getElem?_eq_some_iff.1 hi).1
 have hli : (i : Int) < (ts.length : Int) := by omega
 have hm' : i ≤ 1048576 := by omega
 have hS := hC.ans.sl
 obtain ⟨c0, c1, c2⟩ := hS.elem i s hi
 have HSo : Hid (SOk w s) := hS.each s (List.mem_of_getElem? hi)
 obtain ⟨gL, hgL, _⟩ := HSo.out.at_
 have hc1 := HSo.out.cap
 have hc2 := HSo.out.capM
 obtain ⟨n, hn⟩ : ∃ n, s.xs.length = n := ⟨_, rfl⟩
 have HN : Hid (s.xs.length = n) := hn
 have HG : Hid (s.a = some ⟨gL, 0, none⟩) := hgL
 rw [hgL, hn] at c0
 rw [hn] at hc1 hx
 obtain ⟨gz, hgz, _, hcap, hcm, hown⟩ : ∃ cur : Array Value, w.heap[g]? = some (.cells cur 39 (0, 0)) ∧ lo ≤ g ∧ ts.length ≤ c ∧ c ≤ 9223372036854775807 ∧ cur.size = c * 3 := by
  rcases hC.own.2 with ⟨hv, _⟩ | ⟨g', cap, cur, hv, h1, h2, h3, h4, h5, _⟩
  ·cases hv
  ·cases hv
   exact ⟨cur, h2, h1, h3, by unfold maxLen at h4; omega, h5⟩
 have fz : ∀ o, w.frozen? ⟨g, o, none⟩ = false := fun o => zUf hgz o
 have lg := lt_of_block hgz
 have HB : Hid (∀ W', (∀ b ∈ ts.flatMap SV.blks, W'.heap[b]? = w.heap[b]?) → W'.heap[g]? = some (.cells ((gz.setIfInBounds (i * 3 + 2) (.bool true)).setIfInBounds (i * 3) (.slice (some ⟨gL, 0, none⟩) 1 s.c)) 39 (0, 0)) → SLf W' g 0 (ts.set i (badS s))) := fun W' h1 h2 => by
  have hso := HC.out.soksB (w' := W') h1
  have hgs : ∀ o v, w.cell? ⟨g, o, none⟩ = some v → gz[o]? = some v := fun o v hv => (zCr hgz).symm.trans hv
  refine SLf.put hS hgz h2 (fun o ho => ?_) ?_ ?_ ?_ hso (hso s (List.mem_of_getElem? HI.out)).take1
  ·rw [Array.getElem?_setIfInBounds_ne (by omega), Array.getElem?_setIfInBounds_ne (by omega)]
  ·rw [Array.getElem?_setIfInBounds_self_of_lt (by rw [Array.size_setIfInBounds]; omega)]
   show _ = some (Value.slice s.a (s.xs.take 1).length s.c)
   rw [HG.out, List.length_take, HN.out, show min 1 n = 1 by omega]
  ·rw [Array.getElem?_setIfInBounds_ne (by omega), Array.getElem?_setIfInBounds_ne (by omega)]
   exact hgs _ _ c1
  ·rw [Array.getElem?_setIfInBounds_ne (by omega), Array.getElem?_setIfInBounds_self_of_lt (by omega)]
   rfl
 have HGZ : Hid (w.heap[g]? = some (.cells gz 39 (0, 0))) := hgz
 clear hS hC hi hgz hn hgL c1 hown hcap
 obtain ⟨W, hW⟩ : ∃ W, ((w.alloc (.cells #[.int .i64 now, .slice (some ⟨g, 0, none⟩) ts.length c] 27)).alloc (.cells #[.int .i64 0, .slice none 0 0] 27)).setCell ⟨g, i * 3 + 2, none⟩ (.bool true) = W := ⟨_, rfl⟩
 have sW : W.heap.size = w.heap.size + 2 := by rw [← hW]; simp [World.setCell]
 have kW : ∀ b, b ≠ g → b < w.heap.size → W.heap[b]? = w.heap[b]? := fun b hb hl => by
  rw [← hW]
  exact (zHs hb).trans ((Joins.below_alloc2 _ _ _).block b hl)
 have fW : W.os = w.os ∧ W.tape = w.tape ∧ W.output = w.output := by rw [← hW]; exact ⟨rfl, rfl, rfl⟩
 have a0 : W.heap[w.heap.size]? = some (.cells #[.int .i64 now, .slice (some ⟨g, 0, none⟩) ts.length c] 27 (0, 0)) := by
  rw [← hW]
  exact (zHs (by simp only; omega)).trans ((zHa (by simp)).trans (heap_new _ _ _ rfl))
 have a1 : W.heap[w.heap.size + 1]? = some (.cells #[.int .i64 0, .slice none 0 0] 27 (0, 0)) := by
  rw [← hW]
  exact (zHs (by simp only; omega)).trans (heap_new _ _ _ (by simp))
 have ag : W.heap[g]? = some (.cells (gz.setIfInBounds (i * 3 + 2) (.bool true)) 39 (0, 0)) := by
  rw [← hW]
  exact set_at (((Joins.below_alloc2 _ _ _).block g lg).trans HGZ.out)
 have v0 : W.cell? ⟨g, i * 3, none⟩ = some (.slice (some ⟨gL, 0, none⟩) n s.c) := by
  rw [zCr ag, Array.getElem?_setIfInBounds_ne (by omega)]
  exact (zCr HGZ.out).symm.trans c0
 go_enter Tryz.func72, Tryz.ntmps72
 go_upto_region 2 with fail
 (first | rw [hW] | skip)
 clear hW c0 c2 fz
 have SK : Hid (∀ U : World, U.heap[w.heap.size]? = W.heap[w.heap.size]? → U.cell? ⟨w.heap.size, 1, none⟩ = some (.slice (some ⟨g, 0, none⟩) ts.length c)) := fun U h0 => zCr (h0.trans a0)
 refine wp_region_held_drew (S := fun U => U.cell? ⟨w.heap.size, 1, none⟩ = some (.slice (some ⟨g, 0, none⟩) ts.length c)) (by kernel_rfl) (SK.out _ rfl) (fun hH => ?_)
 refine zTk 0 10 (.pointer (some ⟨w.heap.size, 1, none⟩)) rfl (fun w hS => by go_simp) hH ?_; simp only [Act.put, zX, zY, zZ]
 refine zTk 1 11 (.slice (some ⟨g, 0, none⟩) ts.length c) rfl (fun w hS => by have s0 := hS; go_simp) hH ?_; simp only [Act.put, zX, zY, zZ]
 refine zTk 2 12 (.int .i64 i) rfl (fun w hS => by go_simp) hH ?_; simp only [Act.put, zX, zY, zZ]
 refine zTk 3 13 (.pointer (some ⟨w.heap.size, 1, none⟩)) rfl (fun w hS => by go_simp) hH ?_; simp only [Act.put, zX, zY, zZ]
 refine zTk 4 14 (.slice (some ⟨g, 0, none⟩) ts.length c) rfl (fun w hS => by have s0 := hS; go_simp) hH ?_; simp only [Act.put, zX, zY, zZ]
 refine zTk 5 15 (.int .i64 i) rfl (fun w hS => by go_simp) hH ?_; simp only [Act.put, zX, zY, zZ]
 refine zTk 6 16 (.pointer (some ⟨g, i * 3, none⟩)) rfl (fun w hS => by go_simp) hH ?_; simp only [Act.put, zX, zY, zZ]
 refine zTk 7 17 (.pointer (some ⟨g, i * 3, none⟩)) rfl (fun w hS => by go_simp) hH ?_; simp only [Act.put, zX, zY, zZ]
 have vd : W.drew.cell? ⟨g, i * 3, none⟩ = some (.slice (some ⟨gL, 0, none⟩) n s.c) := v0
 refine zRd 8 (by kernel_rfl) rfl (fun K hK => ?_)
 go_simp
 refine hK.out _ _ (SK.out _ rfl) (fun hH => ?_)
 clear hK K
 (first | (simp only [Act.put, zX, zY, zZ]) | skip)
 refine zTk 9 19 (.slice (some ⟨gL, 0, none⟩) 1 s.c) rfl (fun w hS => by go_simp; intro h; omega) hH ?_; simp only [Act.put, zX, zY, zZ]
 refine zTk 10 20 (.pointer (some ⟨g, i * 3, none⟩)) rfl (fun w hS => by go_simp) hH ?_; simp only [Act.put, zX, zY, zZ]
 refine zTk 11 21 (.pointer (some ⟨g, i * 3, none⟩)) rfl (fun w hS => by go_simp) hH ?_; simp only [Act.put, zX, zY, zZ]
 have fzg : ∀ o, W.frozen? ⟨g, o, none⟩ = false := fun o => zUf ag o
 refine zRd 12 (by kernel_rfl) rfl (fun K hK => ?_)
 go_simp
 refine hK.out _ _ (SK.out _ (zHs (by simp only; omega))) (fun hH => ?_)
 clear hK K
 refine wpAnyH_done (by kernel_rfl) ?_ _
 clear hH vd
 obtain ⟨W2, hW2⟩ : ∃ W2, (W.setCell ⟨g, i * 3, none⟩ (.slice (some ⟨gL, 0, none⟩) 1 s.c)).drew = W2 := ⟨_, rfl⟩
 have k2 : ∀ b, b ≠ g → W2.heap[b]? = W.heap[b]? := fun b hb => by rw [← hW2]; exact zHs hb
 have s2 : W2.heap.size = W.heap.size := by rw [← hW2]; simp [World.setCell]
 have f2 : W2.os = W.os ∧ W2.tape = W.tape ∧ W2.output = W.output := by
  have hd := draw1 (W.setCell ⟨g, i * 3, none⟩ (.slice (some ⟨gL, 0, none⟩) 1 s.c))
  rw [← hW2]
  exact ⟨hd.os, hd.tape, hd.output⟩
 have g2 : W2.heap[g]? = some (.cells ((gz.setIfInBounds (i * 3 + 2) (.bool true)).setIfInBounds (i * 3) (.slice (some ⟨gL, 0, none⟩) 1 s.c)) 39 (0, 0)) := by
  rw [← hW2]
  exact set_at ag
 have q0 := (k2 (w.heap.size) (by omega)).trans a0
 have q1 := (k2 (w.heap.size + 1) (by omega)).trans a1
 have z0 : W2.cell? ⟨w.heap.size, 0, none⟩ = some (.int .i64 now) := zCr q0
 have z1 : W2.cell? ⟨w.heap.size, 1, none⟩ = some (.slice (some ⟨g, 0, none⟩) ts.length c) := zCr q0
 have z2 : W2.cell? ⟨w.heap.size + 1, 0, none⟩ = some (.int .i64 0) := zCr q1
 have z3 : W2.cell? ⟨w.heap.size + 1, 1, none⟩ = some (.slice none 0 0) := zCr q1
 have fz2 : ∀ o, W2.frozen? ⟨w.heap.size + 1, o, none⟩ = false := fun o => zUf q1 o
 have FIN : Hid (∀ W', (∀ b, b ≠ w.heap.size + 1 → W'.heap[b]? = W2.heap[b]?) → W'.os = W2.os → W'.tape = W2.tape → W'.output = W2.output → W'.heap.size = W2.heap.size → (∀ W'', (∀ b, b = g ∨ b ∈ ts.flatMap SV.blks → W''.heap[b]? = W'.heap[b]?) → SLf W'' g 0 (ts.set i (badS s))) ∧ Only (fun b => b = g) w W') := fun W' hk h1 h2 h3 h5 => by
  have hk' : ∀ b, b ≠ g → b < w.heap.size → W'.heap[b]? = w.heap[b]? := fun b hb hl => (hk b (by omega)).trans ((k2 b hb).trans (kW b hb hl))
  refine ⟨fun W'' hk2 => HB.out W'' (fun b hb => (hk2 b (Or.inr hb)).trans (hk' b (HC.out.noG b hb).1 (HC.out.noG b hb).2)) ((hk2 g (Or.inl rfl)).trans ((hk g (by omega)).trans g2)), ⟨h1.trans (f2.1.trans fW.1), h2.trans (f2.2.1.trans fW.2.1), h3.trans (f2.2.2.trans fW.2.2), by omega, fun b hb hne => hk' b hne hb⟩⟩
 (first | rw [hW2] | skip)
 clear hW2 HB k2 q0 q1 a0 a1 ag g2 SK v0
 have l1 : w.heap.size + 1 < W2.heap.size := by omega
 go_wp2
 (first | rw [hW2] | skip)
 refine bodyPost_ret (v := .agg #[.int .i64 now, .slice (some ⟨g, 0, none⟩) ts.length c]) (by simp [results, Tryz.results72, go_sem, z2, z3]) rfl ⟨rfl, FIN.out _ (fun b hb => (zHs hb).trans (zHs hb)) ?_ ?_ ?_ ?_⟩
 all_goals simp [World.setCell]
end Go.Proofs.YtjbkgmbakjnlhaaGreatDoor
