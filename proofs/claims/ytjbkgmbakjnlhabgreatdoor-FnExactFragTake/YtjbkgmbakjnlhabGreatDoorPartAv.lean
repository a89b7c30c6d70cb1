/- The program's settle: a slot that opens. -/
import Derived.Test.YtjbkgmbakjnlhabGreatDoorSettleB
import Derived.Test.YtjbkgmbakjnlhabGreatDoorPartAi
import Derived.Test.YtjbkgmbakjnlhabGreatDoorPartAp
namespace Go.Proofs.YtjbkgmbakjnlhabGreatDoor
set_option maxRecDepth 100000
open Go.RowKit

theorem room_sub (es : List Ent) : List.Sublist (roomL es) es := by
  unfold roomL
  split
  · exact List.tail_sublist es
  · exact List.Sublist.refl _
/-- a block of slots, pieces or bytes is no part of the bench itself -/
theorem OpenB.noPart {w : World} {lo ob mb : Nat} {ov : Value} {now : Int} {es : List Ent} (h : OpenB w lo ob mb ov now es) {b : Nat} {cur : Array Value} {t : TypeId} (hb : w.heap[b]? = some (.cells cur t (0, 0)))
    (ht : t = 71 ∨ t = 5 ∨ t = 33) : ¬ OPart ob mb ov b := by
  rintro (rfl | rfl | h1)
  · rw [h.box] at hb
    cases hb
    rcases ht with h | h | h <;> cases h
  · obtain ⟨l, c, h1, _⟩ := h.map_
    rw [h1] at hb
    cases hb
  · obtain ⟨cu, h2⟩ := h.order_at b h1
    rw [h2] at hb
    cases hb
    rcases ht with h | h | h <;> cases h
set_option maxRecDepth 100000 in
set_option maxHeartbeats 6400000 in
theorem settleOpens (lo ob mb sb : Nat) (ov : Value) (now : Int) (es : List Ent) (k : K4) (t : SV) (w : World) (h : OpenB w lo ob mb ov now es) (hk : ∀ e ∈ es, e.k ≠ k) (hsb : ∀ e ∈ es, e.b ≠ sb) (hl : es.length ≤ 1000) (hs : w.heap[sb]? = some t.box) (hlo : lo ≤ sb) (hf : Forest w lo ((es.map Ent.s) ++ [t])) :
    Calls Tryz.prog 58 #[.pointer (some ⟨ob, 0, none⟩), kval k, oOpens sb] w fun e w' => e = .returned zeroV ∧ ∃ ov', OpenB w' lo ob mb ov' now (roomL es ++ [⟨k, sb, t⟩]) ∧ Only (OPart ob mb ov) w w' := by
  have a1 := asOpensOpens (some ⟨sb, 0, none⟩)
  unfold oOpens kval
  have H0 : Hid (OpenB w lo ob mb ov now es) := h
  have HP : Hid (∀ b, OPart ob mb ov b → b < w.heap.size) := fun b hb => by
    rcases hb with rfl | rfl | hb
    · exact lt_of_block h.box
    · exact h.map_.lt
    · exact (own_lt h.order b hb).2
  have lob := lt_of_block h.box
  have lsb := lt_of_block hs
  obtain ⟨W, hW⟩ : ∃ W, ((w.alloc (.cells #[.int .i64 k.1, .int .i64 k.2.1, .int .i64 k.2.2.1, .int .i64 k.2.2.2] 93)).alloc (.cells #[.int .i64 0, .int .i64 0, .int .i64 0, .int .i64 0, .int .i64 0, .bool false, .int .i64 0, .bool false, .slice none 0 0] 33)).alloc (.cells #[.pointer (some ⟨sb, 0, none⟩)] 135) = W := ⟨_, rfl⟩
  have bW : Below w.heap.size w W := by rw [← hW]; exact Joins.below_alloc3 _ _ _ _
  have sW : W.heap.size = w.heap.size + 3 := by rw [← hW]; simp
  have z0 : W.heap[w.heap.size + 1]? = some (.cells #[.int .i64 0, .int .i64 0, .int .i64 0, .int .i64 0, .int .i64 0, .bool false, .int .i64 0, .bool false, .slice none 0 0] 33 (0, 0)) := by rw [← hW]; exact (Below.heap_alloc _ _ _ (by simp)).trans (heap_new _ _ _ (by simp))
  have g0 : W.heap[w.heap.size + 2]? = some (.cells #[.pointer (some ⟨sb, 0, none⟩)] 135 (0, 0)) := by rw [← hW]; exact heap_new _ _ _ (by simp)
  have KA : KeyAt W w.heap.size k := by
    rw [← hW]
    exact KeyAt.of_block ((Below.heap_alloc _ _ _ (by simp; omega)).trans ((Below.heap_alloc _ _ _ (by simp)).trans (heap_new _ _ _ rfl)))
  have OW : Hid (OpenB W lo ob mb ov now es) := h.below bW
  have KM : Hid (Calls Tryz.prog 85 #[.pointer (some ⟨ob, 0, none⟩)] W (RoomPost lo ob mb ov now (roomL es) W)) := makeRoom_any lo ob mb ov now es W OW.out hl
  have KU : Hid (∀ (U : World) (ov' : Value), OpenB U lo ob mb ov' now (roomL es) → U.heap[sb]? = some t.box → Forest U lo (((roomL es).map Ent.s) ++ [t]) → Calls Tryz.prog 51 #[.pointer (some ⟨ob, 0, none⟩), .agg #[.int .i64 k.1, .int .i64 k.2.1, .int .i64 k.2.2.1, .int .i64 k.2.2.2], .pointer (some ⟨sb, 0, none⟩)] U fun e w' => ∃ ov2, e = .returned (.tuple #[]) ∧ OpenB w' lo ob mb ov2 now (roomL es ++ [⟨k, sb, t⟩]) ∧ Only (OPart ob mb ov') U w') := fun U ov' h1 h2 h3 => putLast_any lo ob mb ov' now (roomL es) k sb t U h1 (fun e he => hk e ((room_sub es).subset he)) (fun e he => hsb e ((room_sub es).subset he)) (Nat.le_trans (room_sub es).length_le hl) h2 hlo h3
  have HF0 : Hid (Forest w lo ((es.map Ent.s) ++ [t])) := hf
  have HF : Hid (Forest W lo ((es.map Ent.s) ++ [t])) := hf.below bW
  have HS : Hid (W.heap[sb]? = some t.box) := (bW.block _ lsb).trans hs
  clear h hk hsb hs hf
  go_enter Tryz.func58, Tryz.ntmps58
  go_wp2_with fail
  (first | rw [hW] | skip)
  refine KM.out.mono ?_
  rintro e w1 ⟨ov', rfl, o1, n1, l1⟩
  clear hW
  have PP : ∀ b, OPart ob mb ov' b → OPart ob mb ov b := fun b hb => by
    rcases hb with h | h | h
    · exact Or.inl h
    · exact Or.inr (Or.inl h)
    · exact Or.inr (Or.inr (l1 b h))
  have far1 : ∀ b, b < W.heap.size → w.heap.size ≤ b → w1.heap[b]? = W.heap[b]? := fun b hb hw => n1.block b hb (fun h => by have := HP.out b h; omega)
  have HS1 : w1.heap[sb]? = some t.box := (n1.block sb (by omega) (OW.out.noPart HS.out (Or.inl rfl))).trans HS.out
  have HF1 : Forest w1 lo (((roomL es).map Ent.s) ++ [t]) := by
    have h2 : Forest w1 lo ((es.map Ent.s) ++ [t]) := HF.out.kept fun b hb => by
      obtain ⟨_, h3, cu, ty, h4, h5⟩ := HF.out.blk b hb
      exact n1.block b h3 (OW.out.noPart h4 (h5.elim (fun h => Or.inr (Or.inl h)) (fun h => Or.inr (Or.inr h))))
    exact h2.sub (List.Sublist.append ((room_sub es).map _) (List.Sublist.refl _))
  have K1 : KeyAt w1 w.heap.size k := KA.kept (far1 _ (by omega) (by omega))
  obtain ⟨k0, k1, k2, k3⟩ := K1
  have g1 : w1.cell? ⟨w.heap.size + 2, 0, none⟩ = some (.pointer (some ⟨sb, 0, none⟩)) := cell_of_row _ _ _ _ _ _ ((far1 _ (by omega) (by omega)).trans g0)
  have z1 : w1.heap[w.heap.size + 1]? = some (.cells #[.int .i64 0, .int .i64 0, .int .i64 0, .int .i64 0, .int .i64 0, .bool false, .int .i64 0, .bool false, .slice none 0 0] 33 (0, 0)) := (far1 _ (by omega) (by omega)).trans z0
  have O1 : Hid (OpenB w1 lo ob mb ov' now (roomL es)) := o1
  have s1 := n1.size
  clear o1 a1
  go_wp2_with fail
  refine (KU.out w1 ov' O1.out HS1 HF1).mono ?_
  rintro e w2 ⟨ov2, rfl, o2, n2⟩
  have n2' : Only (OPart ob mb ov) w1 w2 := n2.mono PP
  have z2 : w2.heap[w.heap.size + 1]? = some (.cells #[.int .i64 0, .int .i64 0, .int .i64 0, .int .i64 0, .int .i64 0, .bool false, .int .i64 0, .bool false, .slice none 0 0] 33 (0, 0)) := (n2'.block _ (by omega) (fun h => by have := HP.out _ h; omega)).trans z1
  have O2 : Hid (OpenB w2 lo ob mb ov2 now (roomL es ++ [⟨k, sb, t⟩])) := o2
  have q0 : w2.cell? ⟨w.heap.size + 1, 0, none⟩ = some (.int .i64 0) := cell_of_row _ _ _ _ _ _ z2
  have q1 : w2.cell? ⟨w.heap.size + 1, 1, none⟩ = some (.int .i64 0) := cell_of_row _ _ _ _ _ _ z2
  have q2 : w2.cell? ⟨w.heap.size + 1, 2, none⟩ = some (.int .i64 0) := cell_of_row _ _ _ _ _ _ z2
  have q3 : w2.cell? ⟨w.heap.size + 1, 3, none⟩ = some (.int .i64 0) := cell_of_row _ _ _ _ _ _ z2
  have q4 : w2.cell? ⟨w.heap.size + 1, 4, none⟩ = some (.int .i64 0) := cell_of_row _ _ _ _ _ _ z2
  have q5 : w2.cell? ⟨w.heap.size + 1, 5, none⟩ = some (.bool false) := cell_of_row _ _ _ _ _ _ z2
  have q6 : w2.cell? ⟨w.heap.size + 1, 6, none⟩ = some (.int .i64 0) := cell_of_row _ _ _ _ _ _ z2
  have q7 : w2.cell? ⟨w.heap.size + 1, 7, none⟩ = some (.bool false) := cell_of_row _ _ _ _ _ _ z2
  have q8 : w2.cell? ⟨w.heap.size + 1, 8, none⟩ = some (.slice none 0 0) := cell_of_row _ _ _ _ _ _ z2
  have fz : ∀ o, w2.frozen? ⟨w.heap.size + 1, o, none⟩ = false := fun o => Joins.unfrozen_of_block z2 o
  have lz : w.heap.size + 1 < w2.heap.size := lt_of_block z2
  have HB : Hid (∀ W', Only (fun b => b = w.heap.size + 1) w2 W' → ∃ ov', OpenB W' lo ob mb ov' now (roomL es ++ [⟨k, sb, t⟩]) ∧ Only (OPart ob mb ov) w W') := fun W' b9 => by
    have nk : ∀ {b : Nat} {ob' : Obj}, w2.heap[b]? = some ob' → b ≠ w.heap.size + 1 → W'.heap[b]? = w2.heap[b]? := fun {b ob'} hb hn => b9.block b (lt_of_block hb) hn
    refine ⟨ov2, o2.kept (nk o2.box (by omega)) ?_ (fun x hx => ?_) (fun e he => nk (o2.slot e he) ?_) (fun b hb => ?_), ?_⟩
    · obtain ⟨l, c, h1, _⟩ := o2.map_
      exact nk h1 (by have := H0.out.map_.lt; omega)
    · obtain ⟨cu, h1⟩ := o2.order_at x hx
      refine nk h1 (fun e => ?_)
      rw [e, z2] at h1
      cases h1
    · intro e1
      have h1 := o2.slot e he
      rw [e1, z2] at h1
      cases h1
    · obtain ⟨_, h1, cu, ty, h2, h3⟩ := o2.forest.blk b hb
      refine nk h2 ?_
      obtain ⟨s, hs, hb'⟩ := List.mem_flatMap.1 hb
      have hs' : s ∈ (es.map Ent.s) ++ [t] := by
        rw [List.map_append] at hs
        rcases List.mem_append.1 hs with h4 | h4
        · exact List.mem_append_left _ (((room_sub es).map _).subset h4)
        · exact List.mem_append_right _ h4
      intro e1
      have h5 := HF0.out.blk b (List.mem_flatMap.2 ⟨s, hs', hb'⟩)
      omega
    · exact ⟨b9.os.trans (n2.os.trans (n1.os.trans bW.os)), b9.tape.trans (n2.tape.trans (n1.tape.trans bW.tape)), b9.output.trans (n2.output.trans (n1.output.trans bW.output)), Nat.le_trans bW.size (Nat.le_trans n1.size (Nat.le_trans n2.size b9.size)), fun b hb hn => (b9.block b (by have := n2.size; omega) (by omega)).trans ((n2'.block b (by omega) hn).trans ((n1.block b (by omega) hn).trans (bW.block b hb)))⟩
  clear z0 z1 z2 g0 g1 k0 k1 k2 k3 HS1 HF1 o2 n2 n2' n1 l1 PP far1 KA
  go_wp2
  refine bodyPost_ret (v := zeroV) (by simp [results, Tryz.results58, go_sem, zeroV, q0, q1, q2, q3, q4, q5, q6, q7, q8]) rfl ⟨rfl, HB.out _ ?_⟩
  have h9 := below_far9 (o := 0) (Below.refl (w.heap.size + 1) w2) (Nat.le_refl _) (.int .i64 0) (.int .i64 0) (.int .i64 0) (.int .i64 0) (.int .i64 0) (.bool false) (.int .i64 0) (.bool false) (.slice none 0 0)
  exact ⟨h9.os, h9.tape, h9.output, h9.size, fun b _ hn => heap_far9 w2 (w.heap.size + 1) 0 b hn _ _ _ _ _ _ _ _ _⟩
end Go.Proofs.YtjbkgmbakjnlhabGreatDoor

/- The program's outcomes: which refused is called. -/
namespace Go.Proofs.YtjbkgmbakjnlhabGreatDoor
set_option maxRecDepth 100000
open Go.RowKit

theorem invOpens (x : Value) (w : World) : (invoke (.fn (.method "loop.example/ternfrag/impl.refused") #[]) #[.iface 135 x]).run Tryz.prog w = .ok (.enter 142 #[x]) w := by kernel_rfl
theorem invStays (x : Value) (w : World) : (invoke (.fn (.method "loop.example/ternfrag/impl.refused") #[]) #[.iface 136 x]).run Tryz.prog w = .ok (.enter 143 #[x]) w := by kernel_rfl
theorem invGrows (x : Value) (w : World) : (invoke (.fn (.method "loop.example/ternfrag/impl.refused") #[]) #[.iface 143 x]).run Tryz.prog w = .ok (.enter 145 #[x]) w := by kernel_rfl
theorem invSpoils (x : Value) (w : World) : (invoke (.fn (.method "loop.example/ternfrag/impl.refused") #[]) #[.iface 139 x]).run Tryz.prog w = .ok (.enter 144 #[x]) w := by kernel_rfl
theorem invGoes (x : Value) (w : World) : (invoke (.fn (.method "loop.example/ternfrag/impl.refused") #[]) #[.iface 146 x]).run Tryz.prog w = .ok (.enter 146 #[x]) w := by kernel_rfl
theorem mOpens (x : Value) (w : World) : Sem.run Tryz.prog (method 313 135 x "loop.example/ternfrag/impl.refused") w = .ok (142, x) w := by kernel_rfl
theorem cOpens (x : Value) (w : World) : Sem.run Tryz.prog (callFunc 142 #[x]) w = .ok (.enter 142 #[x]) w := by kernel_rfl
theorem mStays (x : Value) (w : World) : Sem.run Tryz.prog (method 313 136 x "loop.example/ternfrag/impl.refused") w = .ok (143, x) w := by kernel_rfl
theorem cStays (x : Value) (w : World) : Sem.run Tryz.prog (callFunc 143 #[x]) w = .ok (.enter 143 #[x]) w := by kernel_rfl
theorem mGrows (x : Value) (w : World) : Sem.run Tryz.prog (method 313 143 x "loop.example/ternfrag/impl.refused") w = .ok (145, x) w := by kernel_rfl
theorem cGrows (x : Value) (w : World) : Sem.run Tryz.prog (callFunc 145 #[x]) w = .ok (.enter 145 #[x]) w := by kernel_rfl
theorem mSpoils (x : Value) (w : World) : Sem.run Tryz.prog (method 313 139 x "loop.example/ternfrag/impl.refused") w = .ok (144, x) w := by kernel_rfl
theorem cSpoils (x : Value) (w : World) : Sem.run Tryz.prog (callFunc 144 #[x]) w = .ok (.enter 144 #[x]) w := by kernel_rfl
theorem mGoes (x : Value) (w : World) : Sem.run Tryz.prog (method 313 146 x "loop.example/ternfrag/impl.refused") w = .ok (146, x) w := by kernel_rfl
theorem cGoes (x : Value) (w : World) : Sem.run Tryz.prog (callFunc 146 #[x]) w = .ok (.enter 146 #[x]) w := by kernel_rfl
end Go.Proofs.YtjbkgmbakjnlhabGreatDoor

/- Joining, plain: what is joined is ok; what one more piece makes of it. -/
namespace Go.Proofs.YtjbkgmbakjnlhabGreatDoor
set_option maxRecDepth 100000

theorem bytes_len {L : List PB} : ∀ (n : Nat) (bs : List Int), bytesL L n = some bs → bs.length = n
  | 0, bs, h => by
    simp only [bytesL, Option.some.injEq] at h
    subst h
    rfl
  | n + 1, bs, h => by
    unfold bytesL at h
    cases h1 : bytesL L n with
    | none => rw [h1] at h; simp at h
    | some cs =>
      cases h2 : L.find? (fun x => hasB x n) with
      | none => rw [h1, h2] at h; simp at h
      | some x =>
        rw [h1, h2] at h
        simp only [Option.some.injEq] at h
        subst h
        rw [List.length_append, bytes_len n cs h1]
        rfl
theorem ok_parts {p : Pk} {len : Nat} (h : okB p len = true) : (0 ≤ p.src ∧ p.src ≤ 65535) ∧ (0 ≤ p.dst ∧ p.dst ≤ 65535) ∧ (1 ≤ p.kind ∧ p.kind ≤ 7) ∧ (0 ≤ p.id ∧ p.id ≤ 255) ∧ (1 ≤ p.hops ∧ p.hops ≤ 64) ∧ 0 ≤ p.off ∧ (len : Int) ≤ 128 - p.off := by
  simp only [okB, headB, offB, inB, Bool.and_eq_true, decide_eq_true_eq] at h
  omega
theorem fold_in : ∀ (l : List PB) (h : Int), 1 ≤ h ∧ h ≤ 64 → (∀ y ∈ l, 1 ≤ y.1.hops ∧ y.1.hops ≤ 64) → 1 ≤ l.foldl (fun h y => if y.1.hops < h then y.1.hops else h) h ∧ l.foldl (fun h y => if y.1.hops < h then y.1.hops else h) h ≤ 64
  | [], h, h1, _ => h1
  | y :: r, h, h1, h2 => by
    rw [List.foldl_cons]
    refine fold_in r _ ?_ (fun z hz => h2 z (List.mem_cons_of_mem _ hz))
    have := h2 y (List.mem_cons_self)
    split <;> omega
/-- the parts of a good join -/
theorem join_parts {L : List PB} (h : (joinL L).1 = 0) : ∃ e bs, alikeL L = true ∧ endL L = some e ∧ bytesL L e.toNat = some bs ∧ joinL L = (0, (headL L, bs)) := by
  unfold joinL at h ⊢
  cases ha : alikeL L with
  | false => rw [ha] at h; simp at h
  | true =>
    rw [ha, if_pos rfl] at h
    rw [if_pos rfl]
    cases hd : disagreeL L with
    | true => rw [hd] at h; simp at h
    | false =>
      rw [hd, if_neg (by simp)] at h
      rw [if_neg (by simp)]
      cases he : endL L with
      | none => rw [he] at h; simp at h
      | some e =>
        rw [he] at h
        simp only at h ⊢
        cases hb : bytesL L e.toNat with
        | none => rw [hb] at h; simp at h
        | some bs => exact ⟨e, bs, by first | rfl | trivial, by first | rfl | trivial, by first | rfl | exact hb, by first | rfl | rw [hb]⟩
theorem end_le {L : List PB} {e : Int} (ha : alikeL L = true) (h : endL L = some e) : e.toNat ≤ 128 := by
  unfold endL at h
  cases hf : L.find? (fun x => !x.1.more) with
  | none => rw [hf] at h; simp at h
  | some x =>
    rw [hf] at h
    simp only [Option.map_some, Option.some.injEq] at h
    have hx := List.mem_of_find?_eq_some hf
    have hk := ((alikeL_iff L).1 ha).2.2 x hx x hx
    simp only [alikeB, Bool.and_eq_true] at hk
    have := ok_parts hk.1.1.1.1.1
    unfold endOf at h
    omega
/-- what is joined is ok -/
theorem join_ok {L : List PB} {p : Pk} {ds : List Int} (h : joinL L = (0, (p, ds))) : okB p ds.length = true := by
  obtain ⟨e, bs, ha, he, hb, hj⟩ := join_parts (L := L) (by rw [h])
  rw [h] at hj
  simp only [Prod.mk.injEq, true_and] at hj
  obtain ⟨rfl, rfl⟩ := hj
  have hl := bytes_len _ _ hb
  have h128 := end_le ha he
  obtain ⟨hne, _, hal⟩ := (alikeL_iff L).1 ha
  have oks : ∀ x ∈ L, okB x.1 x.2.length = true := fun x hx => by
    have hk := hal x hx x hx
    simp only [alikeB, Bool.and_eq_true] at hk
    exact hk.1.1.1.1.1
  match L, hne, oks with
  | x :: r, _, oks =>
    have hx := ok_parts (oks x List.mem_cons_self)
    have hh := fold_in (x :: r) x.1.hops hx.2.2.2.2.1 (fun y hy => (ok_parts (oks y hy)).2.2.2.2.1)
    obtain ⟨m, wh, hm, e⟩ : ∃ (m : Int) (wh : Bool), (1 ≤ m ∧ m ≤ 64) ∧ headL (x :: r) = ⟨x.1.src, x.1.dst, x.1.kind, x.1.id, m, wh, 0, false⟩ := ⟨_, _, hh, rfl⟩
    rw [e]
    simp [okB, headB, offB, moreB, wholeB, inB]
    omega
theorem join_small (L : List PB) : (joinL L).2.2.length ≤ 128 := by
  by_cases h : (joinL L).1 = 0
  · obtain ⟨e, bs, ha, he, hb, hj⟩ := join_parts h
    rw [hj, bytes_len _ _ hb]
    exact end_le ha he
  · unfold joinL at h ⊢
    split
    · rename_i ha
      rw [if_pos ha] at h
      split
      · simp
      · rename_i hd
        rw [if_neg hd] at h
        cases he : endL L with
        | none => simp
        | some e =>
          rw [he] at h
          simp only at h ⊢
          cases hb : bytesL L e.toNat with
          | none => simp
          | some bs => rw [hb] at h; simp at h
    · simp
theorem join_many {L : List PB} (h : 40 < L.length) : joinL L = (1, (zeroPk, [])) := by
  have ha : alikeL L = false := by
    cases e : alikeL L with
    | false => rfl
    | true => have := ((alikeL_iff L).1 e).2.1; omega
  unfold joinL
  rw [ha]
  rfl
theorem join_rev (L : List PB) : joinL L.reverse = joinL L := by
  by_cases h : 40 < L.length
  · rw [join_many h, join_many (by rw [List.length_reverse]; exact h)]
  · exact join_same (fun y hy => List.mem_reverse.1 hy) (fun y hy => List.mem_reverse.2 hy) (by rw [List.length_reverse]; omega) (by omega)
theorem join_twice {L : List PB} {z : PB} (hz : z ∈ L) (hl : L.length < 40) : joinL (L ++ [z]) = joinL L :=
  join_same (fun y hy => by
    rcases List.mem_append.1 hy with a | a
    · exact a
    · obtain rfl := List.mem_singleton.1 a
      exact hz) (fun y hy => List.mem_append_left _ hy) (by simp; omega) (by omega)
/-- one more piece that is alike -/
theorem join_next {L : List PB} {z : PB} (h : (joinL L).1 ≠ 1) (hz : ∀ x ∈ L, alikeB x z = true) (hl : L.length < 40) :
    ((joinL L).1 = 2 ∧ (joinL (L ++ [z])).1 = 2) ∨ ((joinL L).1 = 3 ∧ ((joinL (L ++ [z])).1 = 0 ∨ (joinL (L ++ [z])).1 = 2 ∨ (joinL (L ++ [z])).1 = 3)) ∨ ((joinL L).1 = 0 ∧ ((joinL (L ++ [z])).1 = 2 ∨ ((joinL (L ++ [z])).1 = 0 ∧ (joinL (L ++ [z])).2.2 = (joinL L).2.2 ∧ (joinL (L ++ [z])).2.1 = ⟨(joinL L).2.1.src, (joinL L).2.1.dst, (joinL L).2.1.kind, (joinL L).2.1.id, (joinL (L ++ [z])).2.1.hops, (joinL (L ++ [z])).2.1.whole, (joinL L).2.1.off, (joinL L).2.1.more⟩))) := by
  have ha : alikeL L = true := by
    cases e : alikeL L with
    | true => rfl
    | false => exact absurd ((join_one L).2 e) h
  have ha' := alike_more ha hz hl
  have h1 : (joinL (L ++ [z])).1 ≠ 1 := fun e => by
    have := (join_one _).1 e
    rw [ha'] at this
    cases this
  rcases join_code L with c | c | c | c
  · refine Or.inr (Or.inr ⟨c, ?_⟩)
    rcases join_more c hz hl with a | ⟨a, b, d, e⟩
    · exact Or.inl a
    · refine Or.inr ⟨a, b, ?_⟩
      rw [d, e]
      obtain ⟨hne, _, _⟩ := (alikeL_iff L).1 ha
      match L, hne with
      | x :: r, _ => rfl
  · exact absurd c h
  · exact Or.inl ⟨c, join_lies c hz hl⟩
  · refine Or.inr (Or.inl ⟨c, ?_⟩)
    rcases join_code (L ++ [z]) with a | a | a | a
    · exact Or.inl a
    · exact absurd a h1
    · exact Or.inr (Or.inl a)
    · exact Or.inr (Or.inr a)
theorem alike_first {x0 z : PB} {r : List PB} (ha : alikeL (x0 :: r) = true) (hz : okB z.1 z.2.length = true) (h1 : z.1.src = x0.1.src) (h2 : z.1.dst = x0.1.dst) (h3 : z.1.kind = x0.1.kind) (h4 : z.1.id = x0.1.id) : ∀ x ∈ x0 :: r, alikeB x z = true := fun x hx => by
  have hk := ((alikeL_iff _).1 ha).2.2 x hx x0 List.mem_cons_self
  simp only [alikeB, Bool.and_eq_true, beq_iff_eq] at hk ⊢
  rw [h1, h2, h3, h4]
  exact ⟨⟨⟨⟨⟨hk.1.1.1.1.1, hz⟩, hk.1.1.1.2⟩, hk.1.1.2⟩, hk.1.2⟩, hk.2⟩
end Go.Proofs.YtjbkgmbakjnlhabGreatDoor

/- FragTake, plain: what becomes of a bench's slots when a piece comes. -/
namespace Go.Proofs.YtjbkgmbakjnlhabGreatDoor
set_option maxRecDepth 100000
open Go.RowKit

def zeroPB : PB := (zeroPk, [])
/-- the key of a slot's first piece -/
def keyS (s : SK) : Option K4 := s.1.head?.map fun x => k4of x.1
def hitK (x : PB) (s : SK) : Bool := decide (keyS s = some (k4of x.1))
def roomK (ks : List SK) : List SK := if ks.length = 4 then ks.tail else ks
def spoilK (s : SK) : SK := (s.1.take 1, s.2.1, true)
open Classical in
/-- a piece comes to its slot -/
noncomputable def putK (ks : List SK) (i : Nat) (s : SK) (x : PB) : List SK × PB × Int :=
  if s.2.2 = true then (ks, zeroPB, 4)
  else if x ∈ s.1 then (ks, zeroPB, 3)
  else if s.1.length = 40 then (ks.set i (spoilK s), zeroPB, 4)
  else if (joinL (s.1 ++ [x])).1 = 0 then (ks.eraseIdx i, (joinL (s.1 ++ [x])).2, 0)
  else if (joinL (s.1 ++ [x])).1 = 3 then (ks.set i (s.1 ++ [x], s.2.1, s.2.2), zeroPB, 3)
  else (ks.set i (spoilK s), zeroPB, 4)
/-- a piece comes -/
noncomputable def pieceK (now : Int) (ks : List SK) (x : PB) : List SK × PB × Int :=
  match ks[ks.findIdx (hitK x)]? with
  | none => (roomK ks ++ [([x], now, false)], zeroPB, 3)
  | some s => putK ks (ks.findIdx (hitK x)) s x
/-- a packet comes -/
noncomputable def takeK (now : Int) (ks : List SK) (x : PB) : List SK × PB × Int :=
  if okB x.1 x.2.length = true then
    if x.1.off = 0 ∧ x.1.more = false then (ks, x, 0) else pieceK now ks x
  else (ks, zeroPB, 2)
theorem piece_none {now : Int} {ks : List SK} {x : PB} (h : ∀ s ∈ ks, keyS s ≠ some (k4of x.1)) : pieceK now ks x = (roomK ks ++ [([x], now, false)], zeroPB, 3) := by
  have e : ks.findIdx (hitK x) = ks.length := List.findIdx_eq_length.2 fun s hs => by
    have := h s hs
    simp [hitK, this]
  unfold pieceK
  rw [e, List.getElem?_eq_none (Nat.le_refl _)]
theorem piece_at {now : Int} {ks : List SK} {x : PB} {i : Nat} {s : SK} (hi : ks[i]? = some s) (hs : keyS s = some (k4of x.1)) (hf : ∀ (j : Nat) t, j < i → ks[j]? = some t → keyS t ≠ some (k4of x.1)) : pieceK now ks x = putK ks i s x := by
  obtain ⟨hl, hg⟩ := List.getElem?_eq_some_iff.1 hi
  have e : ks.findIdx (hitK x) = i := (List.findIdx_eq hl).2 ⟨by rw [hg]; simp [hitK, hs], fun j hj => by
    have := hf j ks[j] hj (List.getElem?_eq_getElem _)
    simp [hitK, this]⟩
  unfold pieceK
  rw [e, hi]
theorem put_bad {ks : List SK} {i : Nat} {s : SK} {x : PB} (h : s.2.2 = true) : putK ks i s x = (ks, zeroPB, 4) := by
  unfold putK
  rw [if_pos h]
theorem put_told {ks : List SK} {i : Nat} {s : SK} {x : PB} (h : s.2.2 = false) (hx : x ∈ s.1) : putK ks i s x = (ks, zeroPB, 3) := by
  unfold putK
  rw [if_neg (by rw [h]; decide), if_pos hx]
theorem put_full {ks : List SK} {i : Nat} {s : SK} {x : PB} (h : s.2.2 = false) (hx : x ∉ s.1) (hl : s.1.length = 40) : putK ks i s x = (ks.set i (spoilK s), zeroPB, 4) := by
  unfold putK
  rw [if_neg (by rw [h]; decide), if_neg hx, if_pos hl]
theorem put_goes {ks : List SK} {i : Nat} {s : SK} {x : PB} (h : s.2.2 = false) (hx : x ∉ s.1) (hl : s.1.length ≠ 40) (hj : (joinL (s.1 ++ [x])).1 = 0) : putK ks i s x = (ks.eraseIdx i, (joinL (s.1 ++ [x])).2, 0) := by
  unfold putK
  rw [if_neg (by rw [h]; decide), if_neg hx, if_neg hl, if_pos hj]
theorem put_grows {ks : List SK} {i : Nat} {s : SK} {x : PB} (h : s.2.2 = false) (hx : x ∉ s.1) (hl : s.1.length ≠ 40) (hj : (joinL (s.1 ++ [x])).1 = 3) : putK ks i s x = (ks.set i (s.1 ++ [x], s.2.1, s.2.2), zeroPB, 3) := by
  unfold putK
  rw [if_neg (by rw [h]; decide), if_neg hx, if_neg hl, if_neg (by omega), if_pos hj]
theorem put_spoils {ks : List SK} {i : Nat} {s : SK} {x : PB} (h : s.2.2 = false) (hx : x ∉ s.1) (hl : s.1.length ≠ 40) (hj : (joinL (s.1 ++ [x])).1 ≠ 0) (hj' : (joinL (s.1 ++ [x])).1 ≠ 3) : putK ks i s x = (ks.set i (spoilK s), zeroPB, 4) := by
  unfold putK
  rw [if_neg (by rw [h]; decide), if_neg hx, if_neg hl, if_neg hj, if_neg hj']
theorem byte_at {x : PB} {j : Int} (hb : ∀ z ∈ x.2, 0 ≤ z ∧ z ≤ 255) : 0 ≤ byteAt x j ∧ byteAt x j ≤ 255 := by
  unfold byteAt
  rw [List.getD_eq_getElem?_getD]
  cases h : x.2[(j - x.1.off).toNat]? with
  | none => simp
  | some z => exact hb z (List.mem_of_getElem? h)
theorem bytes_range {L : List PB} (hb : ∀ x ∈ L, ∀ z ∈ x.2, 0 ≤ z ∧ z ≤ 255) : ∀ (n : Nat) (bs : List Int), bytesL L n = some bs → ∀ z ∈ bs, 0 ≤ z ∧ z ≤ 255
  | 0, bs, h => by
    simp only [bytesL, Option.some.injEq] at h
    subst h
    intro z hz
    cases hz
  | n + 1, bs, h => by
    unfold bytesL at h
    cases h1 : bytesL L n with
    | none => rw [h1] at h; simp at h
    | some cs =>
      cases h2 : L.find? (fun x => hasB x n) with
      | none => rw [h1, h2] at h; simp at h
      | some x =>
        rw [h1, h2] at h
        simp at h
        subst h
        intro z hz
        rcases List.mem_append.1 hz with hz | hz
        · exact bytes_range hb n cs h1 z hz
        · rw [List.mem_singleton.1 hz]
          exact byte_at (hb x (List.mem_of_find?_eq_some h2))
theorem join_range {L : List PB} (hb : ∀ x ∈ L, ∀ z ∈ x.2, 0 ≤ z ∧ z ≤ 255) (h0 : (joinL L).1 = 0) : ∀ z ∈ (joinL L).2.2, 0 ≤ z ∧ z ≤ 255 := by
  obtain ⟨e, bs, _, _, h3, h4⟩ := join_parts h0
  rw [h4]
  exact bytes_range hb _ _ h3
/-- what is dropped by its key is dropped by its place -/
theorem filter_erase : ∀ (es : List Ent) (i : Nat) (e0 : Ent), (es.map Ent.k).Nodup → es[i]? = some e0 → (es.filter fun e => decide (e.k ≠ e0.k)) = es.eraseIdx i
  | [], i, e0, _, h => by simp at h
  | x :: r, 0, e0, hn, h => by
    simp at h
    subst h
    rw [drop_first hn]
    rfl
  | x :: r, i + 1, e0, hn, h => by
    rw [List.map_cons, List.nodup_cons] at hn
    have h' : r[i]? = some e0 := by simpa using h
    have hne : x.k ≠ e0.k := fun e => hn.1 (List.mem_map.2 ⟨e0, List.mem_of_getElem? h', e.symm⟩)
    rw [List.filter_cons, if_pos (by simp [hne]), filter_erase r i e0 hn.2 h']
    rfl
end Go.Proofs.YtjbkgmbakjnlhabGreatDoor
