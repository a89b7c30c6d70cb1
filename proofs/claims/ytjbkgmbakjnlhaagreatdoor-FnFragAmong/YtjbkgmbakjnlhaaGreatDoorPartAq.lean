import Derived.Test.YtjbkgmbakjnlhaaGreatDoorPartAp
import Derived.Test.YtjbkgmbakjnlhaaGreatDoorPartAl
import Derived.Test.YtjbkgmbakjnlhaaGreatDoorPartAj
import Derived.Test.YtjbkgmbakjnlhaaGreatDoorPartAo
import Derived.Test.YtjbkgmbakjnlhaaGreatDoorPartAb
import Derived.Test.YtjbkgmbakjnlhaaGreatDoorPartAa
namespace Go.Proofs.YtjbkgmbakjnlhaaGreatDoor
set_option maxRecDepth 100000
open Go.RowKit
def zeroPB : PB := (zeroPk, [])
def keyS (s : SK) : Option K4 := s.1.head?.map fun x => k4of x.1
def hitK (x : PB) (s : SK) : Bool := decide (keyS s = some (k4of x.1))
def roomK (ks : List SK) : List SK := if ks.length = 4 then ks.tail else ks
def spoilK (s : SK) : SK := (s.1.take 1, s.2.1, true)
open Classical in
noncomputable def putK (ks : List SK) (i : Nat) (s : SK) (x : PB) : List SK × PB × Int :=
 if s.2.2 = true then (ks, zeroPB, 4)
 else if x ∈ s.1 then (ks, zeroPB, 3)
 else if s.1.length = 40 then (ks.set i (spoilK s), zeroPB, 4)
 else if (joinL (s.1 ++ [x])).1 = 0 then (ks.eraseIdx i, (joinL (s.1 ++ [x])).2, 0)
 else if (joinL (s.1 ++ [x])).1 = 3 then (ks.set i (s.1 ++ [x], s.2.1, s.2.2), zeroPB, 3)
 else (ks.set i (spoilK s), zeroPB, 4)
noncomputable def pieceK (now : Int) (ks : List SK) (x : PB) : List SK × PB × Int :=
 match ks[ks.findIdx (hitK x)]? with
 | none => (roomK ks ++ [([x], now, false)], zeroPB, 3)
 | some s => putK ks (ks.findIdx (hitK x)) s x
noncomputable def takeK (now : Int) (ks : List SK) (x : PB) : List SK × PB × Int :=
 if okB x.1 x.2.length = true then
  if x.1.off = 0 ∧ x.1.more = false then (ks, x, 0) else pieceK now ks x
 else (ks, zeroPB, 2)
theorem piece_none {now : Int} {ks : List SK} {x : PB} (h : ∀ s ∈ ks, keyS s ≠ some (k4of x.1)) : pieceK now ks x = (roomK ks ++ [([x], now, false)], zeroPB, 3) := by
 have e : ks.findIdx (hitK x) = ks.length := List.findIdx_eq_length.2 fun s hs => by
  have := h s hs
  simp [hitK, this]
 unfold pieceK
 rw [e, List.getElem?_eq_none (Nat.le_refl _)]
theorem piece_at {now : Int} {ks : List SK} {x : PB} {i : Nat} {s : SK} (hi : ks[i]? = some s) (hs : keyS s = some (k4of x.1)) (hf : ∀ (j : Nat) t, j < i → ks[j]? = some t → keyS t ≠ some (k4of x.1)) : pieceK now ks x = putK ks i s x := by
 obtain ⟨hl, hg⟩ := List.getElem?_eq_some_iff.1 hi
 have e : ks.findIdx (hitK x) = i := (List.findIdx_eq hl).2 ⟨by rw [hg]; simp [hitK, hs], fun j hj => by
  have := hf j ks[j] hj (List.getElem?_eq_getElem _)
  simp [hitK, this]⟩
 unfold pieceK
 rw [e, hi]
theorem put_bad {ks : List SK} {i : Nat} {s : SK} {x : PB} (h : s.2.2 = true) : putK ks i s x = (ks, zeroPB, 4) := by
 unfold putK
 rw [if_pos h]
theorem put_told {ks : List SK} {i : Nat} {s : SK} {x : PB} (h : s.2.2 = false) (hx : x ∈ s.1) : putK ks i s x = (ks, zeroPB, 3) := by
 unfold putK
 rw [if_neg (by rw [h]; decide), if_pos hx]
theorem put_full {ks : List SK} {i : Nat} {s : SK} {x : PB} (h : s.2.2 = false) (hx : x ∉ s.1) (hl : s.1.length = 40) : putK ks i s x = (ks.set i (spoilK s), zeroPB, 4) := by
 unfold putK
 rw [if_neg (by rw [h]; decide), if_neg hx, if_pos hl]
theorem put_goes {ks : List SK} {i : Nat} {s : SK} {x : PB} (h : s.2.2 = false) (hx : x ∉ s.1) (hl : s.1.length ≠ 40) (hj : (joinL (s.1 ++ [x])).1 = 0) : putK ks i s x = (ks.eraseIdx i, (joinL (s.1 ++ [x])).2, 0) := by
 unfold putK
 rw [if_neg (by rw [h]; decide), if_neg hx, if_neg hl, if_pos hj]
theorem put_grows {ks : List SK} {i : Nat} {s : SK} {x : PB} (h : s.2.2 = false) (hx : x ∉ s.1) (hl : s.1.length ≠ 40) (hj : (joinL (s.1 ++ [x])).1 = 3) : putK ks i s x = (ks.set i (s.1 ++ [x], s.2.1, s.2.2), zeroPB, 3) := by
 unfold putK
 rw [if_neg (by rw [h]; decide), if_neg hx, if_neg hl, if_neg (by omega), if_pos hj]
theorem put_spoils {ks : List SK} {i : Nat} {s : SK} {x : PB} (h : s.2.2 = false) (hx : x ∉ s.1) (hl : s.1.length ≠ 40) (hj : (joinL (s.1 ++ [x])).1 ≠ 0) (hj' : (joinL (s.1 ++ [x])).1 ≠ 3) : putK ks i s x = (ks.set i (spoilK s), zeroPB, 4) := by
 unfold putK
 rw [if_neg (by rw [h]; decide), if_neg hx, if_neg hl, if_neg hj, if_neg hj']
theorem byte_at {x : PB} {j : Int} (hb : ∀ z ∈ x.2, 0 ≤ z ∧ z ≤ 255) : 0 ≤ byteAt x j ∧ byteAt x j ≤ 255 := by
 unfold byteAt
 rw [List.getD_eq_getElem?_getD]
 cases h : x.2[(j - x.1.off).toNat]? with
 | none => simp
 | some z => exact hb z (List.mem_of_getElem? h)
theorem bytes_range {L : List PB} (hb : ∀ x ∈ L, ∀ z ∈ x.2, 0 ≤ z ∧ z ≤ 255) : ∀ (n : Nat) (bs : List Int), bytesL L n = some bs → ∀ z ∈ bs, 0 ≤ z ∧ z ≤ 255
 | 0, bs, h => by
  simp only [bytesL, Option.some.injEq] at h
  subst h
  intro z hz
  cases hz
 | n + 1, bs, h => by
  unfold bytesL at h
  cases h1 : bytesL L n with
  | none => rw [h1] at h; simp at h
  | some cs =>
   cases h2 : L.find? (fun x => hasB x n) with
   | none => rw [h1, h2] at h; simp at h
   | some x =>
    rw [h1, h2] at h
    simp at h
    subst h
    intro z hz
    rcases List.mem_append.1 hz with hz | hz
    ·exact bytes_range hb n cs h1 z hz
    ·rw [List.mem_singleton.1 hz]
     exact byte_at (hb x (List.mem_of_find?_eq_some h2))
theorem join_range {L : List PB} (hb : ∀ x ∈ L, ∀ z ∈ x.2, 0 ≤ z ∧ z ≤ 255) (h0 : (joinL L).1 = 0) : ∀ z ∈ (joinL L).2.2, 0 ≤ z ∧ z ≤ 255 := by
 obtain ⟨e, bs, _, _, h3, h4⟩ := join_parts h0
 rw [h4]
 exact bytes_range hb _ _ h3
theorem filter_erase : ∀ (es : List Ent) (i : Nat) (e0 : Ent), (es.map Ent.k).Nodup → es[i]? = some e0 → (es.filter fun e => decide (e.k ≠ e0.k)) = es.eraseIdx i
 | [], i, e0, _, h => by simp at h
 | x :: r, 0, e0, hn, h => by
  simp at h
  subst h
  rw [drop_first hn]
  rfl
 | x :: r, i + 1, e0, hn, h => by
  rw [List.map_cons, List.nodup_cons] at hn
  have h' : r[i]? = some e0 := by simpa using h
  have hne : x.k ≠ e0.k := fun e => hn.1 (List.mem_map.2 ⟨e0, List.mem_of_getElem? h', e.symm⟩)
  rw [List.filter_cons, if_pos (by simp [hne]), filter_erase r i e0 hn.2 h']
  rfl
theorem k4_eq (p q : Pk) : k4of p = k4of q ↔ p.src = q.src ∧ p.dst = q.dst ∧ p.kind = q.kind ∧ p.id = q.id := by
 unfold k4of
 simp only [Prod.mk.injEq]
theorem alike_hit {s : SV} {x : RV} (hw : waits s) (hok : okB x.p x.zs.length = true) : alikeTo s x ↔ keyS s.key = some (k4of x.p) := by
 obtain ⟨y, hy⟩ := waits_first hw
 have hoy := okB_of_waits hw hy
 have hk : keyS s.key = some (k4of y.p) := by
  unfold keyS SV.key
  simp only
  cases hx : s.xs with
  | nil => rw [hx] at hy; simp at hy
  | cons z r =>
   rw [hx] at hy
   simp at hy
   subst hy
   rfl
 rw [hk, Option.some.injEq, k4_eq]
 constructor
 ·rintro ⟨z, hz, ha⟩
  obtain rfl := Option.some.inj (hy.symm.trans hz)
  exact ((alikeB_iff _ _).1 ha).2.2
 ·intro h
  exact ⟨y, hy, (alikeB_iff _ _).2 ⟨hoy, hok, h⟩⟩
def TakeP (now : Int) (ss : List SV) (x : PB) (now' : Int) (ks : List SK) (y : PB) (c : Int) : Prop :=
 (¬ benchOk now ss ∧ now' = 0 ∧ ks = [] ∧ y = zeroPB ∧ c = 1) ∨ (benchOk now ss ∧ now' = now ∧ takeK now (ss.map SV.key) x = (ks, y, c))
def put29 (w : World) (r q : Nat) (u0 u1 x0 x1 x2 x3 x4 x5 x6 x7 x8 : Value) : World :=
 (((((((((((w.setCell ⟨r, 0, none⟩ u0).setCell ⟨r, 1, none⟩ u1).setCell ⟨q, 0, none⟩ x0).setCell ⟨q, 1, none⟩ x1).setCell ⟨q, 2, none⟩ x2).setCell ⟨q, 3, none⟩ x3).setCell ⟨q, 4, none⟩ x4).setCell ⟨q, 5, none⟩ x5).setCell ⟨q, 6, none⟩ x6).setCell ⟨q, 7, none⟩ x7).setCell ⟨q, 8, none⟩ x8)
theorem put29_far (w : World) (r q b : Nat) (hr : b ≠ r) (hq : b ≠ q) (u0 u1 x0 x1 x2 x3 x4 x5 x6 x7 x8 : Value) : (put29 w r q u0 u1 x0 x1 x2 x3 x4 x5 x6 x7 x8).heap[b]? = w.heap[b]? := by
 unfold put29
 exact (zHs hq).trans ((zHs hq).trans ((zHs hq).trans ((zHs hq).trans ((zHs hq).trans ((zHs hq).trans ((zHs hq).trans ((zHs hq).trans ((zHs hq).trans ((zHs hr).trans (zHs hr))))))))))
theorem put29_size (w : World) (r q : Nat) (u0 u1 x0 x1 x2 x3 x4 x5 x6 x7 x8 : Value) : (put29 w r q u0 u1 x0 x1 x2 x3 x4 x5 x6 x7 x8).heap.size = w.heap.size := by
 unfold put29
 simp [World.setCell]
def RV.val0 (y : RV) : Value := y.p.val (.slice y.a y.zs.length y.c)
def zeroRV : RV := ⟨zeroPk, none, 0, []⟩
theorem zeroRV_data (w : World) (lo : Nat) : DataB w lo zeroRV := ⟨Or.inl ⟨rfl, rfl, rfl⟩, by simp [zeroRV], by intro z hz; cases hz⟩
structure Set1 (x : RV) (W1 : World) (lo ob mb : Nat) (now : Int) (w0 wq : World) (k : K4) (o : Value) (es' : List Ent) (y : RV) (c : Int) : Prop where
 settle : ∀ W, Below wq.heap.size wq W → Calls Tryz.prog 70 #[.pointer (some ⟨ob, 0, none⟩), kval k, o] W (fun e W' => e = .returned y.val0 ∧ ∃ ov', OpenB W' lo ob mb ov' now es' ∧ Only (fun b => lo ≤ b ∧ b < w0.heap.size) W W')
 refuse : ∃ t x f, o = .iface t x ∧ (∀ W, Sem.run Tryz.prog (method 314 t x "loop.example/ternfrag/impl.refused") W = .ok (f, x) W) ∧ (∀ W, Sem.run Tryz.prog (callFunc f #[x]) W = .ok (.enter f #[x]) W) ∧ ∀ W, Calls Tryz.prog f #[x] W (fun e W' => e = .returned (errVal c) ∧ Below W.heap.size W W')
 data : DataB wq lo y
 apart : ∀ b ∈ y.blk, b ∉ (es'.map Ent.s).flatMap SV.blks ∧ w0.heap.size ≤ b
 far : ∀ b ∈ (es'.map Ent.s).flatMap SV.blks, b < w0.heap.size ∨ b ∈ x.blk ∨ W1.heap.size ≤ b
theorem set_blks {es : List Ent} {i : Nat} {e : Ent} {b : Nat} (h : b ∈ ((es.set i e).map Ent.s).flatMap SV.blks) : b ∈ e.s.blks ∨ b ∈ (es.map Ent.s).flatMap SV.blks := by
 obtain ⟨s, hs, hb⟩ := List.mem_flatMap.1 h
 obtain ⟨e1, he1, rfl⟩ := List.mem_map.1 hs
 rcases List.mem_or_eq_of_mem_set he1 with h1 | h1
 ·exact Or.inr (List.mem_flatMap.2 ⟨e1.s, List.mem_map.2 ⟨e1, h1, rfl⟩, hb⟩)
 ·rw [h1] at hb; exact Or.inl hb
theorem OpenB.part_lt {w : World} {lo ob mb : Nat} {ov : Value} {now : Int} {es : List Ent} (h : OpenB w lo ob mb ov now es) : ∀ b, OPart ob mb ov b → lo ≤ b ∧ b < w.heap.size := fun b hb => ⟨h.part b hb, by
 rcases hb with rfl | rfl | hb
 ·exact lt_of_block h.box
 ·exact h.map_.lt
 ·exact (own_lt h.order b hb).2⟩
theorem blk_nodup (y : RV) : y.blk.Nodup := by
 unfold RV.blk
 cases y.a <;> simp
theorem flat_blk_mem {es : List Ent} {e : Ent} (he : e ∈ es) {b : Nat} (hb : b ∈ e.s.blks) : b ∈ (es.map Ent.s).flatMap SV.blks := List.mem_flatMap.2 ⟨e.s, List.mem_map.2 ⟨e, he, rfl⟩, hb⟩
theorem room_map (es : List Ent) : (roomL es).map (fun e => e.s.key) = roomK (es.map fun e => e.s.key) := by
 unfold roomL roomK
 rw [List.length_map]
 split
 ·rw [List.map_tail]
 ·rfl
theorem room_len (es : List Ent) (h : es.length ≤ 4) : (roomL es).length ≤ 3 := by
 unfold roomL
 split
 ·rw [List.length_tail]; omega
 ·omega
theorem map_erase {α β : Type} (f : α → β) : ∀ (l : List α) (i : Nat), (l.eraseIdx i).map f = (l.map f).eraseIdx i
 | [], _ => by simp
 | _ :: _, 0 => rfl
 | a :: r, i + 1 => by
  rw [List.eraseIdx_cons_succ, List.map_cons, List.map_cons, List.eraseIdx_cons_succ, map_erase f r i]
theorem good_key {e : Ent} (h : e.good) : keyS e.s.key = some e.k := by
 obtain ⟨x, h1, h2⟩ := h
 unfold keyS SV.key
 simp only
 cases hx : e.s.xs with
 | nil => rw [hx] at h1; simp at h1
 | cons y r =>
  rw [hx] at h1
  simp at h1
  subst h1
  rw [h2]
  rfl
theorem spoil_key (s : SV) : (spoilS s).key = spoilK s.key := by
 unfold SV.key spoilS spoilK
 simp [List.map_take]
theorem set1_of_out (lo ob mb : Nat) (ov : Value) (now : Int) (es : List Ent) (k : K4) (x : RV) (w0 W1 wq : World) (o : Value) (h : OpenB w0 lo ob mb ov now es) (hg : ∀ e ∈ es, e.good) (hl : es.length ≤ 4) (hk : k = k4of x.p) (hx : DataB W1 w0.heap.size x) (hb : Below w0.heap.size w0 W1) (hll : ∀ e ∈ es, e.s.xs.length ≤ 1000) (ho : OutAt now es k x W1 (.returned o) wq) :
  ∃ es' y c, Set1 x W1 lo ob mb now w0 wq k o es' y c ∧ pieceK now (es.map fun e => e.s.key) x.key = (es'.map (fun e => e.s.key), y.key, c) ∧ es'.length ≤ 4 := by
 obtain ⟨bq, ho⟩ := ho
 have Bq : Below w0.heap.size w0 wq := hb.trans (bq.mono hb.size)
 have hlow := h.low
 have s1 := hb.size
 have hlt : ∀ b ∈ (es.map Ent.s).flatMap SV.blks, b < w0.heap.size := fun b hb' => (h.forest.blk b hb').2.1
 have OW : ∀ W, Below wq.heap.size wq W → OpenB W lo ob mb ov now es := fun W hW => (h.below Bq).below hW
 have hxq : DataB wq w0.heap.size x := hx.below bq
 rcases ho with ⟨hno, sb, gP, ho, hsb, hgP, hbox, hrow⟩ | ⟨e0, he0, hk0, ho⟩
 ·cases ho
  have St : SlotB wq w0.heap.size (newSlot x gP now) := by
   refine ⟨⟨gP, rfl, by omega, ?_⟩, fun y hy => ?_, (show (1 : Nat) ≤ 1048576 by decide), (show (1 : Nat) ≤ 1 by decide), (show (1 : Nat) ≤ 9223372036854775807 by decide)⟩
   ·have e : (newSlot x gP now).xs.flatMap RV.cells = x.cells := by simp [newSlot]
    rw [e]
    exact hrow
   ·have e : y = x := by simpa [newSlot] using hy
    rw [e]
    exact hxq
  have hn : (newSlot x gP now).blks.Nodup := by
   have e : (newSlot x gP now).blks = gP :: x.blk := by simp [SV.blks, newSlot]
   rw [e, List.nodup_cons]
   refine ⟨fun hm => ?_, blk_nodup x⟩
   have := (hx.blk gP hm).2.1
   omega
  have F : Forest wq lo ((es.map Ent.s) ++ [newSlot x gP now]) := (h.below Bq).forest.snoc St hn hlow hlt
  refine ⟨roomL es ++ [⟨k, sb, newSlot x gP now⟩], zeroRV, 3, ⟨fun W hW => ?_, ⟨_, _, _, rfl, mOpens _, cOpens _, fun W => refusedOpens sb W⟩, zeroRV_data _ _, (fun b hb' => by cases hb'), fun b hb' => ?_⟩, ?_, ?_⟩
  ·refine (settleOpens lo ob mb sb ov now es k (newSlot x gP now) W (OW W hW) hno (fun e he hs => ?_) (by omega) ((hW.block _ (lt_of_block hbox)).trans hbox) (by omega) (F.below hW)).mono ?_
   ·have := lt_of_block (h.slot e he)
    omega
   ·rintro e W' ⟨h1, ov', h2, h3⟩
    exact ⟨h1, ov', h2, h3.mono h.part_lt⟩
  ·rw [List.map_append, List.flatMap_append] at hb'
   rcases List.mem_append.1 hb' with h1 | h1
   ·exact Or.inl (hlt b ((sub_flat ((room_sub es).map Ent.s)).subset h1))
   ·have e : b ∈ gP :: x.blk := by simpa [SV.blks, newSlot] using h1
    rcases List.mem_cons.1 e with e | e
    ·exact Or.inr (Or.inr (by omega))
    ·exact Or.inr (Or.inl e)
  ·rw [piece_none (fun s hs hks => ?_)]
   ·rw [List.map_append, room_map]
    rfl
   ·obtain ⟨e, he, rfl⟩ := List.mem_map.1 hs
    rw [good_key (hg e he)] at hks
    exact hno e he ((Option.some.inj hks).trans hk.symm)
  ·have := room_len es hl
   simp
   omega
 ·obtain ⟨i, hi⟩ := List.getElem?_of_mem he0
  have hil := (List.getElem?_eq_some_iff.1 hi).1
  have hik : (es.map fun e => e.s.key)[i]? = some e0.s.key := by rw [List.getElem?_map, hi]; rfl
  have PA : pieceK now (es.map fun e => e.s.key) x.key = putK (es.map fun e => e.s.key) i e0.s.key x.key := by
   refine piece_at hik ?_ fun j t hj ht hkt => ?_
   ·rw [good_key (hg e0 he0), hk0, hk]
    rfl
   ·rw [List.getElem?_map] at ht
    cases hjs : es[j]? with
    | none => rw [hjs] at ht; cases ht
    | some e1 =>
     rw [hjs] at ht
     cases ht
     have he1 := List.mem_of_getElem? hjs
     rw [good_key (hg e1 he1)] at hkt
     have e : e1.k = e0.k := by
      rw [hk0, hk]
      exact Option.some.inj hkt
     have hn := List.pairwise_iff_getElem.1 h.keys j i (by rw [List.length_map]; omega) (by rw [List.length_map]; omega) hj
     rw [List.getElem_map, List.getElem_map, (List.getElem?_eq_some_iff.1 hjs).2, (List.getElem?_eq_some_iff.1 hi).2] at hn
     exact hn e
  have hp0 : e0.s.bad = e0.s.key.2.2 := rfl
  have hmem : (x.key ∈ e0.s.xs.map RV.key) = (x.key ∈ e0.s.key.1) := rfl
  have hln : e0.s.xs.length = e0.s.key.1.length := by simp [SV.key]
  have hcat : (e0.s.xs ++ [x]).map RV.key = e0.s.key.1 ++ [x.key] := by simp [SV.key]
  have h1x : 1 ≤ e0.s.xs.length := by
   obtain ⟨y, hy, _⟩ := hg e0 he0
   have := (List.getElem?_eq_some_iff.1 hy).1
   omega
  have eb0 : lo ≤ e0.b ∧ e0.b < w0.heap.size := ⟨h.lsb e0 he0, lt_of_block (h.slot e0 he0)⟩
  have STAY : ∀ c : Int, c ≠ 0 → o = oStays c → Set1 x W1 lo ob mb now w0 wq k o es zeroRV c := fun c hc ho => by
   subst ho
   refine ⟨fun W hW => ?_, ⟨_, _, _, rfl, mStays _, cStays _, fun W => refusedStays c W hc⟩, zeroRV_data _ _, (fun b hb' => by cases hb'), fun b hb' => Or.inl (hlt b hb')⟩
   refine (settleStays lo ob mb ov now es k c W (OW W hW)).mono ?_
   rintro e W' ⟨h1, h2, h3⟩
   exact ⟨h1, ov, h2, Only.of_below h3⟩
  have SPOIL : o = oSpoils → Set1 x W1 lo ob mb now w0 wq k o (es.set i ⟨e0.k, e0.b, spoilS e0.s⟩) zeroRV 4 := fun ho => by
   subst ho
   refine ⟨fun W hW => ?_, ⟨_, _, _, rfl, mSpoils _, cSpoils _, fun W => refusedSpoils W⟩, zeroRV_data _ _, (fun b hb' => by cases hb'), fun b hb' => Or.inl (by
    rcases set_blks hb' with h1 | h1
    ·exact hlt b (flat_blk_mem he0 ((spoil_blks e0.s).subset h1))
    ·exact hlt b h1)⟩
   refine (settleSpoils lo ob mb i ov now es k e0 W (OW W hW) hi hk0 h1x).mono ?_
   rintro e W' ⟨h1, h2, h3⟩
   exact ⟨h1, ov, h2, h3.mono fun b hb' => by subst hb'; exact eb0⟩
  have SKEY : (es.set i ⟨e0.k, e0.b, spoilS e0.s⟩).map (fun e => e.s.key) = (es.map fun e => e.s.key).set i (spoilK e0.s.key) := by
   rw [List.map_set, ← spoil_key]
  rcases ho with ⟨hbd, ho⟩ | ⟨hbd, hm, ho⟩ | ⟨hbd, hm, h40, ho⟩ | ⟨hbd, hm, h40, g, c, hown, ho⟩
  ·refine ⟨es, zeroRV, 4, STAY 4 (by decide) (by cases ho; rfl), ?_, hl⟩
   rw [PA, put_bad (hp0 ▸ hbd)]
   rfl
  ·refine ⟨es, zeroRV, 3, STAY 3 (by decide) (by cases ho; rfl), ?_, hl⟩
   rw [PA, put_told (hp0 ▸ hbd) (hmem ▸ hm)]
   rfl
  ·refine ⟨_, zeroRV, 4, SPOIL (by cases ho; rfl), ?_, by rw [List.length_set]; exact hl⟩
   rw [PA, put_full (hp0 ▸ hbd) (hmem ▸ hm) (hln ▸ h40), SKEY]
   rfl
  ·rw [hcat] at ho
   have hm' : x.key ∉ e0.s.key.1 := hmem ▸ hm
   rcases ho with ⟨hj, a, n, ho, hrow⟩ | ⟨hj, ho⟩ | ⟨hj, hj', ho⟩
   ·have hrng : ∀ z ∈ (joinL (e0.s.key.1 ++ [x.key])).2.2, 0 ≤ z ∧ z ≤ 255 := by
     refine join_range (fun p hp => ?_) hj
     rcases List.mem_append.1 hp with hp | hp
     ·obtain ⟨y, hy, rfl⟩ := List.mem_map.1 hp
      exact ((h.forest.each e0.s (List.mem_map.2 ⟨e0, he0, rfl⟩)).each y hy).byte
     ·rw [List.mem_singleton.1 hp]
      exact hx.byte
    have hsm := join_small (e0.s.key.1 ++ [x.key])
    have PG := put_goes (ks := es.map fun e => e.s.key) (i := i) (hp0 ▸ hbd) hm' (hln ▸ h40) hj
    have hflt : (es.filter fun e => decide (e.k ≠ k)) = es.eraseIdx i := by
     rw [← hk0]
     exact filter_erase es i e0 h.keys hi
    revert PG hrng hsm ho hrow
    generalize joinL (e0.s.key.1 ++ [x.key]) = J
    intro ho hrow hrng hsm PG
    cases ho
    have hD : DataB wq W1.heap.size ⟨J.2.1, a, n, J.2.2⟩ := by
     refine ⟨?_, by simp only; omega, hrng⟩
     have hml : maxLen = 9223372036854775807 := rfl
     rcases hrow.2 with ⟨hv, hz⟩ | ⟨g', cap, cur, hv, hlo, hh, hcap, hcM, hsz, ht⟩
     ·simp only [Value.slice.injEq] at hv
      exact Or.inl ⟨hv.1, List.eq_nil_of_length_eq_zero hz, hv.2.2⟩
     ·cases hv
      exact Or.inr ⟨g', rfl, hlo, RowB.of_own hrow, (show J.2.2.length ≤ n by omega), (show n ≤ 9223372036854775807 by omega)⟩
    refine ⟨es.eraseIdx i, ⟨J.2.1, a, n, J.2.2⟩, 0, ⟨fun W hW => ?_, ⟨_, _, _, rfl, mGoes _, cGoes _, fun W => refusedGoes J.2.1 a J.2.2.length n W⟩, hD.le (by omega), (fun b hb' => ⟨fun hb2 => ?_, ?_⟩), fun b hb' => Or.inl (hlt b ((sub_flat ((List.eraseIdx_sublist es i).map Ent.s)).subset hb'))⟩, ?_, ?_⟩
    ·refine (settleGoes lo ob mb ov now es k e0 J.2.1 a J.2.2.length n W (OW W hW) he0 hk0 (by omega)).mono ?_
     rintro e W' ⟨h1, ov', h2, h3⟩
     rw [hflt] at h2
     exact ⟨h1, ov', h2, h3.mono h.part_lt⟩
    ·have h1 := (hD.blk b hb').1
     have h2 := hlt b ((sub_flat ((List.eraseIdx_sublist es i).map Ent.s)).subset hb2)
     omega
    ·have h1 := (hD.blk b hb').1
     omega
    ·rw [PA, PG, map_erase]
     rfl
    ·exact Nat.le_trans (List.length_eraseIdx_le _ _) hl
   ·cases ho
    obtain ⟨gz, rfl⟩ : ∃ gz, gz = g := ⟨_, rfl⟩
    have SE := (h.forest.each e0.s (List.mem_map.2 ⟨e0, he0, rfl⟩)).below Bq
    have hgl := own_lt hown gz rfl
    have St : SlotB wq lo { a := some ⟨gz, 0, none⟩, c := c, xs := e0.s.xs ++ [x], since := e0.s.since, bad := e0.s.bad } := by
     have hl1 := hll e0 he0
     have hml : maxLen = 9223372036854775807 := rfl
     rcases hown.2 with ⟨hv, hz⟩ | ⟨g', cap, cur, hv, hlo, hh, hcap, hcM, hsz, ht⟩
     ·cases hv
     ·cases hv
      refine ⟨⟨gz, rfl, by omega, RowB.of_own hown⟩, fun y hy => ?_, by simp; omega, by simp; omega, by simp only; omega⟩
      rcases List.mem_append.1 hy with hy | hy
      ·exact SE.each y hy
      ·rw [List.mem_singleton.1 hy]
       exact hxq.le hlow
    have hbl : ∀ b, b ∈ SV.blks { a := some ⟨gz, 0, none⟩, c := c, xs := e0.s.xs ++ [x], since := e0.s.since, bad := e0.s.bad } → b = gz ∨ b ∈ e0.s.xs.flatMap RV.blk ∨ b ∈ x.blk := fun b hb' => by
     simpa [SV.blks] using hb'
    have hpl : ∀ b ∈ e0.s.xs.flatMap RV.blk, b ∈ e0.s.blks := fun b hb' => List.mem_append_right _ hb'
    have hnd : (SV.blks { a := some ⟨gz, 0, none⟩, c := c, xs := e0.s.xs ++ [x], since := e0.s.since, bad := e0.s.bad }).Nodup := by
     have n0 := nodup_of_mem h.forest.nd (List.mem_map.2 ⟨e0, he0, rfl⟩)
     have n1 : (e0.s.xs.flatMap RV.blk).Nodup := n0.sublist (List.sublist_append_right _ _)
     have e : SV.blks { a := some ⟨gz, 0, none⟩, c := c, xs := e0.s.xs ++ [x], since := e0.s.since, bad := e0.s.bad } = gz :: (e0.s.xs.flatMap RV.blk ++ x.blk) := by simp [SV.blks]
     rw [e, List.nodup_cons, List.nodup_append]
     refine ⟨fun hm2 => ?_, n1, blk_nodup x, fun a ha b hb2 hab => ?_⟩
     ·rcases List.mem_append.1 hm2 with h2 | h2
      ·have := hlt _ (flat_blk_mem he0 (hpl _ h2))
       omega
      ·have := (hx.blk _ h2).2.1
       omega
     ·have h1 := hlt _ (flat_blk_mem he0 (hpl _ ha))
      have h2 := (hx.blk _ hb2).1
      omega
    refine ⟨es.set i ⟨e0.k, e0.b, { a := some ⟨gz, 0, none⟩, c := c, xs := e0.s.xs ++ [x], since := e0.s.since, bad := e0.s.bad }⟩, zeroRV, 3, ⟨fun W hW => ?_, ⟨_, _, _, rfl, mGrows _, cGrows _, fun W => refusedGrows _ W⟩, zeroRV_data _ _, (fun b hb' => by cases hb'), fun b hb' => by
     rcases set_blks hb' with h1 | h1
     ·rcases hbl b h1 with h2 | h2 | h2
      ·exact Or.inr (Or.inr (by omega))
      ·exact Or.inl (hlt b (flat_blk_mem he0 (hpl b h2)))
      ·exact Or.inr (Or.inl h2)
     ·exact Or.inl (hlt b h1)⟩, ?_, by rw [List.length_set]; exact hl⟩
    ·have K := settleGrows lo ob mb i ov now es k e0 { a := some ⟨gz, 0, none⟩, c := c, xs := e0.s.xs ++ [x], since := e0.s.since, bad := e0.s.bad } W (OW W hW) hi hk0 (St.below hW) rfl rfl hnd (fun b hb' => ?_)
     ·simp only [List.length_append, List.length_cons, List.length_nil] at K
      refine K.mono ?_
      rintro e W' ⟨h1, h2, h3⟩
      exact ⟨h1, ov, h2, h3.mono fun b hb' => by subst hb'; exact eb0⟩
     ·rcases hbl b hb' with h2 | h2 | h2
      ·exact Or.inr fun h3 => by have := hlt b h3; omega
      ·exact Or.inl (hpl b h2)
      ·exact Or.inr fun h3 => by
        have := hlt b h3
        have := (hx.blk b h2).1
        omega
    ·rw [PA, put_grows (hp0 ▸ hbd) hm' (hln ▸ h40) hj, List.map_set, ← hcat]
     rfl
   ·refine ⟨_, zeroRV, 4, SPOIL (by cases ho; rfl), ?_, by rw [List.length_set]; exact hl⟩
    rw [PA, put_spoils (hp0 ▸ hbd) hm' (hln ▸ h40) hj hj', SKEY]
    rfl
theorem box_put9 {w : World} {g : Nat} {t : TypeId} {y0 y1 y2 y3 y4 y5 y6 y7 y8 : Value} (x0 x1 x2 x3 x4 x5 x6 x7 x8 : Value) (h : w.heap[g]? = some (.cells #[y0, y1, y2, y3, y4, y5, y6, y7, y8] t (0, 0))) : ((((((((((w.setCell ⟨g, 0, none⟩ x0).setCell ⟨g, 1, none⟩ x1).setCell ⟨g, 2, none⟩ x2).setCell ⟨g, 3, none⟩ x3).setCell ⟨g, 4, none⟩ x4).setCell ⟨g, 5, none⟩ x5).setCell ⟨g, 6, none⟩ x6).setCell ⟨g, 7, none⟩ x7).setCell ⟨g, 8, none⟩ x8)).heap[g]? = some (.cells #[x0, x1, x2, x3, x4, x5, x6, x7, x8] t (0, 0)) := by
 have H := set_at (o := 8) (v := x8) (set_at (o := 7) (v := x7) (set_at (o := 6) (v := x6) (set_at (o := 5) (v := x5) (set_at (o := 4) (v := x4) (set_at (o := 3) (v := x3) (set_at (o := 2) (v := x2) (set_at (o := 1) (v := x1) (set_at (o := 0) (v := x0) h))))))))
 simp only [zX, zY, zZ] at H
 exact H
theorem box_far9 (w : World) (g b : Nat) (hb : b ≠ g) (x0 x1 x2 x3 x4 x5 x6 x7 x8 : Value) : ((((((((((w.setCell ⟨g, 0, none⟩ x0).setCell ⟨g, 1, none⟩ x1).setCell ⟨g, 2, none⟩ x2).setCell ⟨g, 3, none⟩ x3).setCell ⟨g, 4, none⟩ x4).setCell ⟨g, 5, none⟩ x5).setCell ⟨g, 6, none⟩ x6).setCell ⟨g, 7, none⟩ x7).setCell ⟨g, 8, none⟩ x8)).heap[b]? = w.heap[b]? := (zHs hb).trans ((zHs hb).trans ((zHs hb).trans ((zHs hb).trans ((zHs hb).trans ((zHs hb).trans ((zHs hb).trans ((zHs hb).trans (zHs hb))))))))
theorem box_below9 {B : Nat} {a w : World} {g : Nat} (h : Below B a w) (hg : B ≤ g) (x0 x1 x2 x3 x4 x5 x6 x7 x8 : Value) : Below B a ((((((((((w.setCell ⟨g, 0, none⟩ x0).setCell ⟨g, 1, none⟩ x1).setCell ⟨g, 2, none⟩ x2).setCell ⟨g, 3, none⟩ x3).setCell ⟨g, 4, none⟩ x4).setCell ⟨g, 5, none⟩ x5).setCell ⟨g, 6, none⟩ x6).setCell ⟨g, 7, none⟩ x7).setCell ⟨g, 8, none⟩ x8)) := (Below.setCell (Below.setCell (Below.setCell (Below.setCell (Below.setCell (Below.setCell (Below.setCell (Below.setCell (Below.setCell h (by simp only; omega) _) (by simp only; omega) _) (by simp only; omega) _) (by simp only; omega) _) (by simp only; omega) _) (by simp only; omega) _) (by simp only; omega) _) (by simp only; omega) _) (by simp only; omega) _)
theorem box_size9 (w : World) (g : Nat) (x0 x1 x2 x3 x4 x5 x6 x7 x8 : Value) : ((((((((((w.setCell ⟨g, 0, none⟩ x0).setCell ⟨g, 1, none⟩ x1).setCell ⟨g, 2, none⟩ x2).setCell ⟨g, 3, none⟩ x3).setCell ⟨g, 4, none⟩ x4).setCell ⟨g, 5, none⟩ x5).setCell ⟨g, 6, none⟩ x6).setCell ⟨g, 7, none⟩ x7).setCell ⟨g, 8, none⟩ x8)).heap.size = w.heap.size := by simp [World.setCell]
theorem kval_of (p : Pk) : kval (k4of p) = .agg #[.int .i64 p.src, .int .i64 p.dst, .int .i64 p.kind, .int .i64 p.id] := rfl
theorem OutAt.ret {now : Int} {es : List Ent} {k : K4} {x : RV} {w w' : World} {e : Ending} (h : OutAt now es k x w e w') : ∃ o, e = .returned o := by
 obtain ⟨_, h⟩ := h
 rcases h with ⟨_, sb, gP, h, _⟩ | ⟨e0, _, _, ⟨_, h⟩ | ⟨_, _, h⟩ | ⟨_, _, _, h⟩ | ⟨_, _, _, g, c, _, ⟨_, a, n, h, _⟩ | ⟨_, h⟩ | ⟨_, _, h⟩⟩⟩
 all_goals exact ⟨_, h⟩
def TakeQ (lo ob mb : Nat) (now : Int) (es : List Ent) (x : PB) (w : World) (e : Ending) (w' : World) : Prop :=
 ∃ (y : RV) (c : Int) (ov' : Value) (es' : List Ent), e = .returned (.tuple #[y.val0, errVal c]) ∧ takeK now (es.map fun e => e.s.key) x = (es'.map (fun e => e.s.key), y.key, c) ∧ OpenB w' lo ob mb ov' now es' ∧ DataB w' lo y ∧ (∀ b ∈ y.blk, b ∉ (es'.map Ent.s).flatMap SV.blks ∧ w.heap.size ≤ b) ∧ es'.length ≤ 4 ∧ Below lo w w'
set_option maxHeartbeats 6400000 in
theorem take_bad (lo ob mb : Nat) (ov : Value) (now : Int) (es : List Ent) (x : RV) (w : World) (h : OpenB w lo ob mb ov now es) (hx : ROk w x) (_hl : ∀ e ∈ es, e.s.xs.length ≤ 1000) (_hgd : ∀ e ∈ es, e.good) (h4 : es.length ≤ 4) (hok : okB x.p x.zs.length = false) :
  Calls Tryz.prog 32 #[.pointer (some ⟨ob, 0, none⟩), x.p.val (.slice x.a x.zs.length x.c)] w (TakeQ lo ob mb now es x.key w) := by
 have H0 : Hid (OpenB w lo ob mb ov now es) := h
 have HXR : Hid (ROk w x) := hx
 have hlow := h.low
 have KO : Hid (∀ W : World, Calls Tryz.prog 67 #[.agg #[.int .i64 x.p.src, .int .i64 x.p.dst, .int .i64 x.p.kind, .int .i64 x.p.id, .int .i64 x.p.hops, .bool x.p.whole, .int .i64 x.p.off, .bool x.p.more, .slice x.a x.zs.length x.c]] W fun e w' => e = .returned (.bool false) ∧ Below W.heap.size W w') := fun W => by
  have h := implOk_any x.p x.a x.zs.length x.c W hx.len
  unfold Pk.val at h
  rw [hok] at h
  exact h
 have KC : Hid (∀ W : World, Below w.heap.size w W → Calls Tryz.prog 68 #[.agg #[.int .i64 x.p.src, .int .i64 x.p.dst, .int .i64 x.p.kind, .int .i64 x.p.id, .int .i64 x.p.hops, .bool x.p.whole, .int .i64 x.p.off, .bool x.p.more, .slice x.a x.zs.length x.c]] W fun e w' => ∃ z : RV, e = .returned (.agg #[.int .i64 z.p.src, .int .i64 z.p.dst, .int .i64 z.p.kind, .int .i64 z.p.id, .int .i64 z.p.hops, .bool z.p.whole, .int .i64 z.p.off, .bool z.p.more, .slice z.a z.zs.length z.c]) ∧ z.key = x.key ∧ DataB w' W.heap.size z ∧ Below W.heap.size W w') := fun W hW => by
  have h := copyPacket_rv x W (hx.below hW)
  unfold RV.val Pk.val at h
  exact h
 have fld := fld46
 unfold Pk.val
 clear h hx
 go_enter Tryz.func32, Tryz.ntmps32
 go_wp2_with fail
 have bW := Joins.below_alloc2 w (.cells #[.int .i64 x.p.src, .int .i64 x.p.dst, .int .i64 x.p.kind, .int .i64 x.p.id, .int .i64 x.p.hops, .bool x.p.whole, .int .i64 x.p.off, .bool x.p.more, .slice x.a x.zs.length x.c] 29) (.cells #[.int .i64 0, .int .i64 0, .int .i64 0, .int .i64 0, .int .i64 0, .bool false, .int .i64 0, .bool false, .slice none 0 0] 29)
 refine (KO.out _).mono ?_
 rintro e w1 ⟨rfl, b1⟩
 have B1 : Below w.heap.size w w1 := bW.trans (b1.mono (by simp; omega))
 have xb : w1.heap[w.heap.size]? = some (.cells #[.int .i64 x.p.src, .int .i64 x.p.dst, .int .i64 x.p.kind, .int .i64 x.p.id, .int .i64 x.p.hops, .bool x.p.whole, .int .i64 x.p.off, .bool x.p.more, .slice x.a x.zs.length x.c] 29 (0, 0)) := (b1.block _ (by simp; omega)).trans ((zHa (by simp)).trans (heap_new _ _ _ rfl))
 have zb : w1.heap[w.heap.size + 1]? = some (.cells #[.int .i64 0, .int .i64 0, .int .i64 0, .int .i64 0, .int .i64 0, .bool false, .int .i64 0, .bool false, .slice none 0 0] 29 (0, 0)) := (b1.block _ (by simp)).trans (heap_new _ _ _ (by simp))
 have q0 : w1.cell? ⟨w.heap.size + 1, 0, none⟩ = some (.int .i64 0) := zCr zb
 have q1 : w1.cell? ⟨w.heap.size + 1, 1, none⟩ = some (.int .i64 0) := zCr zb
 have q2 : w1.cell? ⟨w.heap.size + 1, 2, none⟩ = some (.int .i64 0) := zCr zb
 have q3 : w1.cell? ⟨w.heap.size + 1, 3, none⟩ = some (.int .i64 0) := zCr zb
 have q4 : w1.cell? ⟨w.heap.size + 1, 4, none⟩ = some (.int .i64 0) := zCr zb
 have q5 : w1.cell? ⟨w.heap.size + 1, 5, none⟩ = some (.bool false) := zCr zb
 have q6 : w1.cell? ⟨w.heap.size + 1, 6, none⟩ = some (.int .i64 0) := zCr zb
 have q7 : w1.cell? ⟨w.heap.size + 1, 7, none⟩ = some (.bool false) := zCr zb
 have q8 : w1.cell? ⟨w.heap.size + 1, 8, none⟩ = some (.slice none 0 0) := zCr zb
 have fz : ∀ o, w1.frozen? ⟨w.heap.size + 1, o, none⟩ = false := fun o => zUf zb o
 have lzb := lt_of_block zb
 have O1 : Hid (OpenB w1 lo ob mb ov now es) := H0.out.below B1
 have FIN : Hid (∀ W', Below w1.heap.size w1 W' → TakeQ lo ob mb now es x.key w (.returned (.tuple #[zeroV, errVal 2])) W') := fun W' hb => ⟨zeroRV, 2, ov, es, rfl, (by unfold takeK; rw [if_neg (by simp only [RV.key]; rw [hok]; decide)]; rfl), O1.out.below hb, zeroRV_data _ _, (fun b h => by cases h), h4, (B1.mono hlow).trans (hb.mono (Nat.le_trans hlow B1.size))⟩
 have FIN2 : Hid (∀ W', (∀ b, b < w1.heap.size → b ≠ w.heap.size + 1 → W'.heap[b]? = w1.heap[b]?) → W'.os = w1.os → W'.tape = w1.tape → W'.output = w1.output → W'.heap.size = w1.heap.size → TakeQ lo ob mb now es x.key w (.returned (.tuple #[zeroV, errVal 2])) W') := fun W' hk h1 h2 h3 h5 => by
  have lt : ∀ b, b < w.heap.size → W'.heap[b]? = w.heap[b]? := fun b hb => (hk b (by omega) (by omega)).trans (B1.block b hb)
  have BW : Below w.heap.size w W' := ⟨h1.trans B1.os, h2.trans B1.tape, h3.trans B1.output, by rw [h5]; exact B1.size, lt⟩
  exact ⟨zeroRV, 2, ov, es, rfl, (by unfold takeK; rw [if_neg (by simp only [RV.key]; rw [hok]; decide)]; rfl), H0.out.below BW, zeroRV_data _ _, (fun b h => by cases h), h4, BW.mono hlow⟩
 clear FIN B1 b1 bW xb zb KC KO hok O1
 go_wp2
 refine bodyPost_ret (v := .tuple #[zeroV, errVal 2]) (by simp [results, Tryz.results32, go_sem, zeroV, errVal, q0, q1, q2, q3, q4, q5, q6, q7, q8]) rfl (FIN2.out _ (fun b _ hb => box_far9 w1 (w.heap.size + 1) b hb _ _ _ _ _ _ _ _ _) ?_ ?_ ?_ (box_size9 w1 _ _ _ _ _ _ _ _ _ _))
 all_goals simp [World.setCell]
end Go.Proofs.YtjbkgmbakjnlhaaGreatDoor
