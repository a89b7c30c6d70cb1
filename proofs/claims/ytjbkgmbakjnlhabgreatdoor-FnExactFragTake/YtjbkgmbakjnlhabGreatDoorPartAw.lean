/- What comes of a piece: it is settled, and refused or not. -/
import Derived.Test.YtjbkgmbakjnlhabGreatDoorPartAv
import Derived.Test.YtjbkgmbakjnlhabGreatDoorPartAq
namespace Go.Proofs.YtjbkgmbakjnlhabGreatDoor
set_option maxRecDepth 100000
open Go.RowKit

def RV.val0 (y : RV) : Value := y.p.val (.slice y.a y.zs.length y.c)
def zeroRV : RV := ⟨zeroPk, none, 0, []⟩
theorem zeroRV_data (w : World) (lo : Nat) : DataB w lo zeroRV := ⟨Or.inl ⟨rfl, rfl, rfl⟩, by simp [zeroRV], by intro z hz; cases hz⟩
/-- what settle and refused make of an outcome -/
structure Set1 (x : RV) (W1 : World) (lo ob mb : Nat) (now : Int) (w0 wq : World) (k : K4) (o : Value) (es' : List Ent) (y : RV) (c : Int) : Prop where
  settle : ∀ W, Below wq.heap.size wq W → Calls Tryz.prog 58 #[.pointer (some ⟨ob, 0, none⟩), kval k, o] W (fun e W' => e = .returned y.val0 ∧ ∃ ov', OpenB W' lo ob mb ov' now es' ∧ Only (fun b => lo ≤ b ∧ b < w0.heap.size) W W')
  refuse : ∃ t x f, o = .iface t x ∧ (∀ W, Sem.run Tryz.prog (method 313 t x "loop.example/ternfrag/impl.refused") W = .ok (f, x) W) ∧ (∀ W, Sem.run Tryz.prog (callFunc f #[x]) W = .ok (.enter f #[x]) W) ∧ ∀ W, Calls Tryz.prog f #[x] W (fun e W' => e = .returned (errVal c) ∧ Below W.heap.size W W')
  data : DataB wq lo y
  apart : ∀ b ∈ y.blk, b ∉ (es'.map Ent.s).flatMap SV.blks ∧ w0.heap.size ≤ b
  far : ∀ b ∈ (es'.map Ent.s).flatMap SV.blks, b < w0.heap.size ∨ b ∈ x.blk ∨ W1.heap.size ≤ b
theorem set_blks {es : List Ent} {i : Nat} {e : Ent} {b : Nat} (h : b ∈ ((es.set i e).map Ent.s).flatMap SV.blks) : b ∈ e.s.blks ∨ b ∈ (es.map Ent.s).flatMap SV.blks := by
  obtain ⟨s, hs, hb⟩ := List.mem_flatMap.1 h
  obtain ⟨e1, he1, rfl⟩ := List.mem_map.1 hs
  rcases List.mem_or_eq_of_mem_set he1 with h1 | h1
  · exact Or.inr (List.mem_flatMap.2 ⟨e1.s, List.mem_map.2 ⟨e1, h1, rfl⟩, hb⟩)
  · rw [h1] at hb; exact Or.inl hb
theorem OpenB.part_lt {w : World} {lo ob mb : Nat} {ov : Value} {now : Int} {es : List Ent} (h : OpenB w lo ob mb ov now es) : ∀ b, OPart ob mb ov b → lo ≤ b ∧ b < w.heap.size := fun b hb => ⟨h.part b hb, by
  rcases hb with rfl | rfl | hb
  · exact lt_of_block h.box
  · exact h.map_.lt
  · exact (own_lt h.order b hb).2⟩
theorem blk_nodup (y : RV) : y.blk.Nodup := by
  unfold RV.blk
  cases y.a <;> simp
theorem flat_blk_mem {es : List Ent} {e : Ent} (he : e ∈ es) {b : Nat} (hb : b ∈ e.s.blks) : b ∈ (es.map Ent.s).flatMap SV.blks := List.mem_flatMap.2 ⟨e.s, List.mem_map.2 ⟨e, he, rfl⟩, hb⟩
theorem room_map (es : List Ent) : (roomL es).map (fun e => e.s.key) = roomK (es.map fun e => e.s.key) := by
  unfold roomL roomK
  rw [List.length_map]
  split
  · rw [List.map_tail]
  · rfl
theorem room_len (es : List Ent) (h : es.length ≤ 4) : (roomL es).length ≤ 3 := by
  unfold roomL
  split
  · rw [List.length_tail]; omega
  · omega
theorem map_erase {α β : Type} (f : α → β) : ∀ (l : List α) (i : Nat), (l.eraseIdx i).map f = (l.map f).eraseIdx i
  | [], _ => by simp
  | _ :: _, 0 => rfl
  | a :: r, i + 1 => by
    rw [List.eraseIdx_cons_succ, List.map_cons, List.map_cons, List.eraseIdx_cons_succ, map_erase f r i]
theorem good_key {e : Ent} (h : e.good) : keyS e.s.key = some e.k := by
  obtain ⟨x, h1, h2⟩ := h
  unfold keyS SV.key
  simp only
  cases hx : e.s.xs with
  | nil => rw [hx] at h1; simp at h1
  | cons y r =>
    rw [hx] at h1
    simp at h1
    subst h1
    rw [h2]
    rfl
theorem spoil_key (s : SV) : (spoilS s).key = spoilK s.key := by
  unfold SV.key spoilS spoilK
  simp [List.map_take]
theorem set1_of_out (lo ob mb : Nat) (ov : Value) (now : Int) (es : List Ent) (k : K4) (x : RV) (w0 W1 wq : World) (o : Value) (h : OpenB w0 lo ob mb ov now es) (hg : ∀ e ∈ es, e.good) (hl : es.length ≤ 4) (hk : k = k4of x.p) (hx : DataB W1 w0.heap.size x) (hb : Below w0.heap.size w0 W1) (hll : ∀ e ∈ es, e.s.xs.length ≤ 1000) (ho : OutAt now es k x W1 (.returned o) wq) :
    ∃ es' y c, Set1 x W1 lo ob mb now w0 wq k o es' y c ∧ pieceK now (es.map fun e => e.s.key) x.key = (es'.map (fun e => e.s.key), y.key, c) ∧ es'.length ≤ 4 := by
  obtain ⟨bq, ho⟩ := ho
  have Bq : Below w0.heap.size w0 wq := hb.trans (bq.mono hb.size)
  have hlow := h.low
  have s1 := hb.size
  have hlt : ∀ b ∈ (es.map Ent.s).flatMap SV.blks, b < w0.heap.size := fun b hb' => (h.forest.blk b hb').2.1
  have OW : ∀ W, Below wq.heap.size wq W → OpenB W lo ob mb ov now es := fun W hW => (h.below Bq).below hW
  have hxq : DataB wq w0.heap.size x := hx.below bq
  rcases ho with ⟨hno, sb, gP, ho, hsb, hgP, hbox, hrow⟩ | ⟨e0, he0, hk0, ho⟩
  · cases ho
    have St : SlotB wq w0.heap.size (newSlot x gP now) := by
      refine ⟨⟨gP, rfl, by omega, ?_⟩, fun y hy => ?_, (show (1 : Nat) ≤ 1048576 by decide), (show (1 : Nat) ≤ 1 by decide), (show (1 : Nat) ≤ 9223372036854775807 by decide)⟩
      · have e : (newSlot x gP now).xs.flatMap RV.cells = x.cells := by simp [newSlot]
        rw [e]
        exact hrow
      · have e : y = x := by simpa [newSlot] using hy
        rw [e]
        exact hxq
    have hn : (newSlot x gP now).blks.Nodup := by
      have e : (newSlot x gP now).blks = gP :: x.blk := by simp [SV.blks, newSlot]
      rw [e, List.nodup_cons]
      refine ⟨fun hm => ?_, blk_nodup x⟩
      have := (hx.blk gP hm).2.1
      omega
    have F : Forest wq lo ((es.map Ent.s) ++ [newSlot x gP now]) := (h.below Bq).forest.snoc St hn hlow hlt
    refine ⟨roomL es ++ [⟨k, sb, newSlot x gP now⟩], zeroRV, 3, ⟨fun W hW => ?_, ⟨_, _, _, rfl, mOpens _, cOpens _, fun W => refusedOpens sb W⟩, zeroRV_data _ _, (fun b hb' => by cases hb'), fun b hb' => ?_⟩, ?_, ?_⟩
    · refine (settleOpens lo ob mb sb ov now es k (newSlot x gP now) W (OW W hW) hno (fun e he hs => ?_) (by omega) ((hW.block _ (lt_of_block hbox)).trans hbox) (by omega) (F.below hW)).mono ?_
      · have := lt_of_block (h.slot e he)
        omega
      · rintro e W' ⟨h1, ov', h2, h3⟩
        exact ⟨h1, ov', h2, h3.mono h.part_lt⟩
    · rw [List.map_append, List.flatMap_append] at hb'
      rcases List.mem_append.1 hb' with h1 | h1
      · exact Or.inl (hlt b ((sub_flat ((room_sub es).map Ent.s)).subset h1))
      · have e : b ∈ gP :: x.blk := by simpa [SV.blks, newSlot] using h1
        rcases List.mem_cons.1 e with e | e
        · exact Or.inr (Or.inr (by omega))
        · exact Or.inr (Or.inl e)
    · rw [piece_none (fun s hs hks => ?_)]
      · rw [List.map_append, room_map]
        rfl
      · obtain ⟨e, he, rfl⟩ := List.mem_map.1 hs
        rw [good_key (hg e he)] at hks
        exact hno e he ((Option.some.inj hks).trans hk.symm)
    · have := room_len es hl
      simp
      omega
  · obtain ⟨i, hi⟩ := List.getElem?_of_mem he0
    have hil := (List.getElem?_eq_some_iff.1 hi).1
    have hik : (es.map fun e => e.s.key)[i]? = some e0.s.key := by rw [List.getElem?_map, hi]; rfl
    have PA : pieceK now (es.map fun e => e.s.key) x.key = putK (es.map fun e => e.s.key) i e0.s.key x.key := by
      refine piece_at hik ?_ fun j t hj ht hkt => ?_
      · rw [good_key (hg e0 he0), hk0, hk]
        rfl
      · rw [List.getElem?_map] at ht
        cases hjs : es[j]? with
        | none => rw [hjs] at ht; cases ht
        | some e1 =>
          rw [hjs] at ht
          cases ht
          have he1 := List.mem_of_getElem? hjs
          rw [good_key (hg e1 he1)] at hkt
          have e : e1.k = e0.k := by
            rw [hk0, hk]
            exact Option.some.inj hkt
          have hn := List.pairwise_iff_getElem.1 h.keys j i (by rw [List.length_map]; omega) (by rw [List.length_map]; omega) hj
          rw [List.getElem_map, List.getElem_map, (List.getElem?_eq_some_iff.1 hjs).2, (List.getElem?_eq_some_iff.1 hi).2] at hn
          exact hn e
    have hp0 : e0.s.bad = e0.s.key.2.2 := rfl
    have hmem : (x.key ∈ e0.s.xs.map RV.key) = (x.key ∈ e0.s.key.1) := rfl
    have hln : e0.s.xs.length = e0.s.key.1.length := by simp [SV.key]
    have hcat : (e0.s.xs ++ [x]).map RV.key = e0.s.key.1 ++ [x.key] := by simp [SV.key]
    have h1x : 1 ≤ e0.s.xs.length := by
      obtain ⟨y, hy, _⟩ := hg e0 he0
      have := (List.getElem?_eq_some_iff.1 hy).1
      omega
    have eb0 : lo ≤ e0.b ∧ e0.b < w0.heap.size := ⟨h.lsb e0 he0, lt_of_block (h.slot e0 he0)⟩
    have STAY : ∀ c : Int, c ≠ 0 → o = oStays c → Set1 x W1 lo ob mb now w0 wq k o es zeroRV c := fun c hc ho => by
      subst ho
      refine ⟨fun W hW => ?_, ⟨_, _, _, rfl, mStays _, cStays _, fun W => refusedStays c W hc⟩, zeroRV_data _ _, (fun b hb' => by cases hb'), fun b hb' => Or.inl (hlt b hb')⟩
      refine (settleStays lo ob mb ov now es k c W (OW W hW)).mono ?_
      rintro e W' ⟨h1, h2, h3⟩
      exact ⟨h1, ov, h2, Only.of_below h3⟩
    have SPOIL : o = oSpoils → Set1 x W1 lo ob mb now w0 wq k o (es.set i ⟨e0.k, e0.b, spoilS e0.s⟩) zeroRV 4 := fun ho => by
      subst ho
      refine ⟨fun W hW => ?_, ⟨_, _, _, rfl, mSpoils _, cSpoils _, fun W => refusedSpoils W⟩, zeroRV_data _ _, (fun b hb' => by cases hb'), fun b hb' => Or.inl (by
        rcases set_blks hb' with h1 | h1
        · exact hlt b (flat_blk_mem he0 ((spoil_blks e0.s).subset h1))
        · exact hlt b h1)⟩
      refine (settleSpoils lo ob mb i ov now es k e0 W (OW W hW) hi hk0 h1x).mono ?_
      rintro e W' ⟨h1, h2, h3⟩
      exact ⟨h1, ov, h2, h3.mono fun b hb' => by subst hb'; exact eb0⟩
    have SKEY : (es.set i ⟨e0.k, e0.b, spoilS e0.s⟩).map (fun e => e.s.key) = (es.map fun e => e.s.key).set i (spoilK e0.s.key) := by
      rw [List.map_set, ← spoil_key]
    rcases ho with ⟨hbd, ho⟩ | ⟨hbd, hm, ho⟩ | ⟨hbd, hm, h40, ho⟩ | ⟨hbd, hm, h40, g, c, hown, ho⟩
    · refine ⟨es, zeroRV, 4, STAY 4 (by decide) (by cases ho; rfl), ?_, hl⟩
      rw [PA, put_bad (hp0 ▸ hbd)]
      rfl
    · refine ⟨es, zeroRV, 3, STAY 3 (by decide) (by cases ho; rfl), ?_, hl⟩
      rw [PA, put_told (hp0 ▸ hbd) (hmem ▸ hm)]
      rfl
    · refine ⟨_, zeroRV, 4, SPOIL (by cases ho; rfl), ?_, by rw [List.length_set]; exact hl⟩
      rw [PA, put_full (hp0 ▸ hbd) (hmem ▸ hm) (hln ▸ h40), SKEY]
      rfl
    · rw [hcat] at ho
      have hm' : x.key ∉ e0.s.key.1 := hmem ▸ hm
      rcases ho with ⟨hj, a, n, ho, hrow⟩ | ⟨hj, ho⟩ | ⟨hj, hj', ho⟩
      · have hrng : ∀ z ∈ (joinL (e0.s.key.1 ++ [x.key])).2.2, 0 ≤ z ∧ z ≤ 255 := by
          refine join_range (fun p hp => ?_) hj
          rcases List.mem_append.1 hp with hp | hp
          · obtain ⟨y, hy, rfl⟩ := List.mem_map.1 hp
            exact ((h.forest.each e0.s (List.mem_map.2 ⟨e0, he0, rfl⟩)).each y hy).byte
          · rw [List.mem_singleton.1 hp]
            exact hx.byte
        have hsm := join_small (e0.s.key.1 ++ [x.key])
        have PG := put_goes (ks := es.map fun e => e.s.key) (i := i) (hp0 ▸ hbd) hm' (hln ▸ h40) hj
        have hflt : (es.filter fun e => decide (e.k ≠ k)) = es.eraseIdx i := by
          rw [← hk0]
          exact filter_erase es i e0 h.keys hi
        revert PG hrng hsm ho hrow
        generalize joinL (e0.s.key.1 ++ [x.key]) = J
        intro ho hrow hrng hsm PG
        cases ho
        have hD : DataB wq W1.heap.size ⟨J.2.1, a, n, J.2.2⟩ := by
          refine ⟨?_, by simp only; omega, hrng⟩
          have hml : maxLen = 9223372036854775807 := rfl
          rcases hrow.2 with ⟨hv, hz⟩ | ⟨g', cap, cur, hv, hlo, hh, hcap, hcM, hsz, ht⟩
          · simp only [Value.slice.injEq] at hv
            exact Or.inl ⟨hv.1, List.eq_nil_of_length_eq_zero hz, hv.2.2⟩
          · cases hv
            exact Or.inr ⟨g', rfl, hlo, RowB.of_own hrow, (show J.2.2.length ≤ n by omega), (show n ≤ 9223372036854775807 by omega)⟩
        refine ⟨es.eraseIdx i, ⟨J.2.1, a, n, J.2.2⟩, 0, ⟨fun W hW => ?_, ⟨_, _, _, rfl, mGoes _, cGoes _, fun W => refusedGoes J.2.1 a J.2.2.length n W⟩, hD.le (by omega), (fun b hb' => ⟨fun hb2 => ?_, ?_⟩), fun b hb' => Or.inl (hlt b ((sub_flat ((List.eraseIdx_sublist es i).map Ent.s)).subset hb'))⟩, ?_, ?_⟩
        · refine (settleGoes lo ob mb ov now es k e0 J.2.1 a J.2.2.length n W (OW W hW) he0 hk0 (by omega)).mono ?_
          rintro e W' ⟨h1, ov', h2, h3⟩
          rw [hflt] at h2
          exact ⟨h1, ov', h2, h3.mono h.part_lt⟩
        · have h1 := (hD.blk b hb').1
          have h2 := hlt b ((sub_flat ((List.eraseIdx_sublist es i).map Ent.s)).subset hb2)
          omega
        · have h1 := (hD.blk b hb').1
          omega
        · rw [PA, PG, map_erase]
          rfl
        · exact Nat.le_trans (List.length_eraseIdx_le _ _) hl
      · cases ho
        obtain ⟨gz, rfl⟩ : ∃ gz, gz = g := ⟨_, rfl⟩
        have SE := (h.forest.each e0.s (List.mem_map.2 ⟨e0, he0, rfl⟩)).below Bq
        have hgl := own_lt hown gz rfl
        have St : SlotB wq lo { a := some ⟨gz, 0, none⟩, c := c, xs := e0.s.xs ++ [x], since := e0.s.since, bad := e0.s.bad } := by
          have hl1 := hll e0 he0
          have hml : maxLen = 9223372036854775807 := rfl
          rcases hown.2 with ⟨hv, hz⟩ | ⟨g', cap, cur, hv, hlo, hh, hcap, hcM, hsz, ht⟩
          · cases hv
          · cases hv
            refine ⟨⟨gz, rfl, by omega, RowB.of_own hown⟩, fun y hy => ?_, by simp; omega, by simp; omega, by simp only; omega⟩
            rcases List.mem_append.1 hy with hy | hy
            · exact SE.each y hy
            · rw [List.mem_singleton.1 hy]
              exact hxq.le hlow
        have hbl : ∀ b, b ∈ SV.blks { a := some ⟨gz, 0, none⟩, c := c, xs := e0.s.xs ++ [x], since := e0.s.since, bad := e0.s.bad } → b = gz ∨ b ∈ e0.s.xs.flatMap RV.blk ∨ b ∈ x.blk := fun b hb' => by
          simpa [SV.blks] using hb'
        have hpl : ∀ b ∈ e0.s.xs.flatMap RV.blk, b ∈ e0.s.blks := fun b hb' => List.mem_append_right _ hb'
        have hnd : (SV.blks { a := some ⟨gz, 0, none⟩, c := c, xs := e0.s.xs ++ [x], since := e0.s.since, bad := e0.s.bad }).Nodup := by
          have n0 := nodup_of_mem h.forest.nd (List.mem_map.2 ⟨e0, he0, rfl⟩)
          have n1 : (e0.s.xs.flatMap RV.blk).Nodup := n0.sublist (List.sublist_append_right _ _)
          have e : SV.blks { a := some ⟨gz, 0, none⟩, c := c, xs := e0.s.xs ++ [x], since := e0.s.since, bad := e0.s.bad } = gz :: (e0.s.xs.flatMap RV.blk ++ x.blk) := by simp [SV.blks]
          rw [e, List.nodup_cons, List.nodup_append]
          refine ⟨fun hm2 => ?_, n1, blk_nodup x, fun a ha b hb2 hab => ?_⟩
          · rcases List.mem_append.1 hm2 with h2 | h2
            · have := hlt _ (flat_blk_mem he0 (hpl _ h2))
              omega
            · have := (hx.blk _ h2).2.1
              omega
          · have h1 := hlt _ (flat_blk_mem he0 (hpl _ ha))
            have h2 := (hx.blk _ hb2).1
            omega
        refine ⟨es.set i ⟨e0.k, e0.b, { a := some ⟨gz, 0, none⟩, c := c, xs := e0.s.xs ++ [x], since := e0.s.since, bad := e0.s.bad }⟩, zeroRV, 3, ⟨fun W hW => ?_, ⟨_, _, _, rfl, mGrows _, cGrows _, fun W => refusedGrows _ W⟩, zeroRV_data _ _, (fun b hb' => by cases hb'), fun b hb' => by
          rcases set_blks hb' with h1 | h1
          · rcases hbl b h1 with h2 | h2 | h2
            · exact Or.inr (Or.inr (by omega))
            · exact Or.inl (hlt b (flat_blk_mem he0 (hpl b h2)))
            · exact Or.inr (Or.inl h2)
          · exact Or.inl (hlt b h1)⟩, ?_, by rw [List.length_set]; exact hl⟩
        · have K := settleGrows lo ob mb i ov now es k e0 { a := some ⟨gz, 0, none⟩, c := c, xs := e0.s.xs ++ [x], since := e0.s.since, bad := e0.s.bad } W (OW W hW) hi hk0 (St.below hW) rfl rfl hnd (fun b hb' => ?_)
          · simp only [List.length_append, List.length_cons, List.length_nil] at K
            refine K.mono ?_
            rintro e W' ⟨h1, h2, h3⟩
            exact ⟨h1, ov, h2, h3.mono fun b hb' => by subst hb'; exact eb0⟩
          · rcases hbl b hb' with h2 | h2 | h2
            · exact Or.inr fun h3 => by have := hlt b h3; omega
            · exact Or.inl (hpl b h2)
            · exact Or.inr fun h3 => by
                have := hlt b h3
                have := (hx.blk b h2).1
                omega
        · rw [PA, put_grows (hp0 ▸ hbd) hm' (hln ▸ h40) hj, List.map_set, ← hcat]
          rfl
      · refine ⟨_, zeroRV, 4, SPOIL (by cases ho; rfl), ?_, by rw [List.length_set]; exact hl⟩
        rw [PA, put_spoils (hp0 ▸ hbd) hm' (hln ▸ h40) hj hj', SKEY]
        rfl
end Go.Proofs.YtjbkgmbakjnlhabGreatDoor

/- Packets of the law FnExactFragTake: taken over, compared, marked, held. -/
namespace Go.Proofs.YtjbkgmbakjnlhabGreatDoor
set_option maxRecDepth 100000
open Go.RowKit

theorem toPacket_rv (x : RV) (w : World) (hr : RdB w x.a x.zs.length x.zs) (hl : x.zs.length ≤ 1048576) (hb : ∀ z ∈ x.zs, 0 ≤ z ∧ z ≤ 255) :
    Calls Tryz.prog 9 #[x.val0] w fun e w' => ∃ z : RV, e = .returned z.val0 ∧ z.key = x.key ∧ DataB w' w.heap.size z ∧ Below w.heap.size w w' := by
  refine (toFragPacket_any x.p x.a x.zs.length x.c x.zs w hr hl).mono ?_
  rintro e w' ⟨g, h1, h2, h3, h4⟩
  refine ⟨⟨x.p, some ⟨g, 0, none⟩, x.zs.length, x.zs⟩, h1, rfl, ⟨Or.inr ⟨g, rfl, h2, ⟨_, h3, ?_⟩, Nat.le_refl _, by simp only; omega⟩, hl, hb⟩, h4⟩
  simp only [cellsOf]
  rw [List.take_of_length_le (by simp)]
theorem eqPacket_rv (x y : RV) (w : World) (hx : ROk w x) (hy : ROk w y) (hk : x.key = y.key) :
    Calls Tryz.prog 12 #[x.val0, y.val0] w fun e w' => e = .returned (.bool true) ∧ Below w.heap.size w w' := by
  obtain ⟨p, a, c, zs⟩ := x
  obtain ⟨p', a', c', zs'⟩ := y
  simp only [RV.key, Prod.mk.injEq] at hk
  obtain ⟨rfl, rfl⟩ := hk
  exact eqFragPacket_same p a a' zs.length c c' zs w hx.rd hy.rd hx.len
def MkP (w : World) (y : RV) (k : Int) : Prop := MkY w y.a y.zs.length k
set_option maxHeartbeats 800000 in
theorem markPacket_rv (y : RV) (k : Int) (w : World) (h : SkY w y.a y.zs.length) (h0 : 0 ≤ k) (h1 : k + y.zs.length ≤ 4611686018427387904) :
    Calls Tryz.prog 14 #[y.val0, .int .i64 k] w fun e w' => e = .returned (.int .i64 (k + y.zs.length)) ∧ Mk (ablk y.a) w w' ∧ MkP w' y k := by
  have KM : Hid (∀ W : World, Below w.heap.size w W → Calls Tryz.prog 37 #[.slice y.a y.zs.length y.c, .int .i64 k] W fun e w' => e = .returned (.int .i64 (k + y.zs.length)) ∧ Mk (ablk y.a) W w' ∧ MkY w' y.a y.zs.length k) := fun W hW => markByteS_raw y.a y.zs.length y.c k W (h.mkd (Mk.below (F := []) hW)) h0 h1
  unfold RV.val0 Pk.val
  clear h
  go_enter Tryz.func14, Tryz.ntmps14
  go_wp2_with fail
  refine (KM.out _ (Joins.below_alloc1 _ _)).mono ?_
  rintro e w1 ⟨rfl, m1, n1⟩
  have M1 : Hid (Mk (ablk y.a) w w1) := (Mk.below (Joins.below_alloc1 _ _)).trans m1 (fun _ h => h) (fun _ h => h)
  have N1 : Hid (MkP w1 y k) := n1
  clear m1 n1
  go_wp2
  go_ret
  exact ⟨rfl, M1.out, N1.out⟩
set_option maxHeartbeats 800000 in
theorem heldPacket_rv (y : RV) (k : Int) (w : World) (h : SkY w y.a y.zs.length) (hm : MkP w y k) (h0 : 0 ≤ k) (h1 : k + y.zs.length ≤ 4611686018427387904) :
    Calls Tryz.prog 16 #[y.val0, .int .i64 k] w fun e w' => e = .returned (.int .i64 (k + y.zs.length)) ∧ Below w.heap.size w w' := by
  have KM : Hid (∀ W : World, Below w.heap.size w W → Calls Tryz.prog 39 #[.slice y.a y.zs.length y.c, .int .i64 k] W fun e w' => e = .returned (.int .i64 (k + y.zs.length)) ∧ w' = W) := fun W hW => heldByteS_raw y.a y.zs.length y.c k W (h.mkd (Mk.below (F := []) hW)) (MkY.kept hm (fun g hg => hW.block g (by
    rcases h with ⟨e, _⟩ | ⟨g', cur, e, hc, _⟩
    · rw [e] at hg; cases hg
    · rw [e] at hg; cases hg; exact lt_of_block hc))) h0 h1
  unfold RV.val0 Pk.val
  clear h hm
  go_enter Tryz.func16, Tryz.ntmps16
  go_wp2_with fail
  refine (KM.out _ (Joins.below_alloc1 _ _)).mono ?_
  rintro e w1 ⟨rfl, rfl⟩
  go_wp2
  go_ret
  exact ⟨rfl, Joins.below_alloc1 _ _⟩
theorem SkY.lt {w : World} {a : Option Addr} {n : Nat} (h : SkY w a n) : ∀ b ∈ ablk a, b < w.heap.size := by
  intro b hb
  rcases h with ⟨e, _⟩ | ⟨g, cur, e, hc, _⟩
  · simp [ablk, e] at hb
  · simp [ablk, e] at hb
    subst hb
    exact lt_of_block hc
theorem MkP.kept {w w' : World} {y : RV} {k : Int} (h : MkP w y k) (hk : ∀ b ∈ ablk y.a, w'.heap[b]? = w.heap[b]?) : MkP w' y k :=
  MkY.kept h fun g hg => hk g (by simp [ablk, hg])
end Go.Proofs.YtjbkgmbakjnlhabGreatDoor

/- What is known of benches on the way of a law. -/
namespace Go.Proofs.YtjbkgmbakjnlhabGreatDoor
set_option maxRecDepth 100000
open Go.RowKit

/-- a bench in a box -/
structure Bx (w : World) (b : Nat) (u v : Value) : Prop where
  lt : b < w.heap.size
  c0 : w.cell? ⟨b, 0, none⟩ = some u
  c1 : w.cell? ⟨b, 1, none⟩ = some v
theorem Bx.below {w w' : World} {b : Nat} {u v : Value} (h : Bx w b u v) (hb : Below w.heap.size w w') : Bx w' b u v :=
  ⟨Nat.lt_of_lt_of_le h.lt hb.size, (cell_kept (hb.block b h.lt)).trans h.c0, (cell_kept (hb.block b h.lt)).trans h.c1⟩
theorem Bx.mkd {F : List Nat} {w w' : World} {b : Nat} {u v : Value} (h : Bx w b u v) (hm : Mk F w w') (hF : b ∉ F) : Bx w' b u v :=
  ⟨Nat.lt_of_lt_of_le h.lt hm.size, (cell_kept (hm.block b h.lt hF)).trans h.c0, (cell_kept (hm.block b h.lt hF)).trans h.c1⟩
theorem Bx.new (w : World) (u v : Value) (t : TypeId) : Bx (w.alloc (.cells #[u, v] t)) w.heap.size u v := ⟨by simp, by go_simp, by go_simp⟩
theorem Below.mkd {B : Nat} {F : List Nat} {a w w' : World} (h : Below B a w) (hm : Mk F w w') (hB : B ≤ w.heap.size) (hF : ∀ b ∈ F, B ≤ b) : Below B a w' :=
  ⟨hm.os.trans h.os, hm.tape.trans h.tape, hm.output.trans h.output, Nat.le_trans h.size hm.size, fun k hk => (hm.block k (by omega) (fun h' => by have := hF k h'; omega)).trans (h.block k hk)⟩
theorem AnsV.rng {w : World} {lo : Nat} {oa : Option Addr} {ts : List SV} (h : AnsV w lo oa ts) : ∀ b ∈ qblk oa ts, lo ≤ b ∧ b < w.heap.size := by
  intro b hb
  rcases h with ⟨rfl, rfl⟩ | ⟨g, rfl, h2⟩
  · simp [qblk, ablk] at hb
  · rcases List.mem_append.1 hb with hb | hb
    · simp [ablk] at hb
      subst hb
      exact ⟨h2.low, h2.row.lt⟩
    · obtain ⟨e1, e2, _⟩ := h2.forest.blk b hb
      exact ⟨e1, e2⟩
theorem AnsV.mkd {F : List Nat} {w w' : World} {lo : Nat} {oa : Option Addr} {ts : List SV} (h : AnsV w lo oa ts) (hm : Mk F w w') (hF : ∀ b ∈ qblk oa ts, b ∉ F) : AnsV w' lo oa ts := by
  have R := h.rng
  rcases h with h | ⟨g, rfl, h2⟩
  · exact Or.inl h
  · have k : ∀ b ∈ qblk (some ⟨g, 0, none⟩) ts, w'.heap[b]? = w.heap[b]? := fun b hb => hm.block b (R b hb).2 (hF b hb)
    refine Or.inr ⟨g, rfl, h2.low, h2.row.kept (k g (by simp [qblk, ablk])), h2.forest.kept fun b hb => k b (List.mem_append_right _ hb)⟩
theorem AnsV.skq {w : World} {lo : Nat} {oa : Option Addr} {ts : List SV} (h : AnsV w lo oa ts) : SkQ w oa ts := by
  refine h.imp id ?_
  rintro ⟨g, h1, h2⟩
  exact ⟨g, h1, h2.sks⟩
theorem AnsV.nd {w : World} {lo : Nat} {oa : Option Addr} {ts : List SV} (h : AnsV w lo oa ts) : (ts.flatMap SV.blks).Nodup := by
  rcases h with ⟨_, rfl⟩ | ⟨g, h1, h2⟩
  · simp
  · exact h2.forest.nd
theorem AnsV.need {w : World} {lo : Nat} {oa : Option Addr} {ts : List SV} (h : AnsV w lo oa ts) (hl : ts.length ≤ 4) : (1 : Int) + (soff ts ts.length : Int) ≤ 4611686018427387904 := by
  rcases h with ⟨_, rfl⟩ | ⟨g, h1, h2⟩
  · simp [soff]
  · exact h2.need (by omega)
theorem LB.rng {w : World} {lo gL n : Nat} {ys : List RV} (h : LB w lo gL n ys) : ∀ b ∈ lblk gL ys, lo ≤ b ∧ b < w.heap.size := by
  intro b hb
  rcases List.mem_cons.1 hb with rfl | hb
  · exact ⟨h.low, h.lt⟩
  · obtain ⟨y, hy, hyb⟩ := List.mem_flatMap.1 hb
    obtain ⟨gy, a1, _, a3, a4, _⟩ := h.each y hy
    simp [ablk, a1] at hyb
    subst hyb
    exact ⟨a3, lt_of_block a4⟩
theorem SB.rng {w : World} {lo gS n : Nat} {ts : List SV} (h : SB w lo gS n ts) : ∀ b ∈ qblk (some ⟨gS, 0, none⟩) ts, lo ≤ b ∧ b < w.heap.size := by
  intro b hb
  rcases List.mem_append.1 hb with hb | hb
  · simp [ablk] at hb
    subst hb
    exact ⟨h.low, h.lt⟩
  · obtain ⟨s, hs, hb⟩ := List.mem_flatMap.1 hb
    obtain ⟨gL, a1, _, a3, _⟩ := h.each s hs
    rw [SV.blks_of a1] at hb
    exact a3.rng b hb
end Go.Proofs.YtjbkgmbakjnlhabGreatDoor

/- Marks, and what they leave of packets and benches. -/
namespace Go.Proofs.YtjbkgmbakjnlhabGreatDoor
set_option maxRecDepth 100000
open Go.RowKit

theorem Boxed.mkd {F : List Nat} {w w' : World} {b : Nat} {p : Pk} {v : Value} (h : Boxed w b p v) (hm : Mk F w w') (hF : b ∉ F) : Boxed w' b p v := h.kept hm.size (hm.block b h.lt hF)
theorem DataB.mkd {F : List Nat} {w w' : World} {lo : Nat} {y : RV} (h : DataB w lo y) (hm : Mk F w w') (hF : ∀ b ∈ y.blk, b ∉ F) : DataB w' lo y := h.kept fun b hb => hm.block b (h.blk b hb).2.1 (hF b hb)
theorem ablk_blk (y : RV) : ablk y.a = y.blk := rfl
theorem DataB.need {w : World} {lo : Nat} {y : RV} (h : DataB w lo y) : y.zs.length ≤ 1048576 := h.len
/-- marks of slots are left where other blocks are written -/
theorem MkQ.mkd {F : List Nat} {w w' : World} {oa : Option Addr} {ss : List SV} (h : MkQ w oa ss) (hm : Mk F w w') (hF : ∀ b ∈ qblk oa ss, b ∉ F) (hl : ∀ b ∈ qblk oa ss, b < w.heap.size) : MkQ w' oa ss := by
  have hk : ∀ b ∈ qblk oa ss, w'.heap[b]? = w.heap[b]? := fun b hb => hm.block b (hl b hb) (hF b hb)
  intro gS e i s hi hs
  obtain ⟨h1, h2, h3⟩ := h gS e i s hi hs
  have hg : gS ∈ qblk oa ss := List.mem_append_left _ (by simp [ablk, e])
  refine ⟨(cell_kept (hk _ hg)).trans h1, (cell_kept (hk _ hg)).trans h2, fun gL ha => (h3 gL ha).kept fun b hb => hk b (List.mem_append_right _ (List.mem_flatMap.2 ⟨s, List.mem_of_getElem? hs, ?_⟩))⟩
  rw [SV.blks_of ha]
  exact hb
end Go.Proofs.YtjbkgmbakjnlhabGreatDoor
