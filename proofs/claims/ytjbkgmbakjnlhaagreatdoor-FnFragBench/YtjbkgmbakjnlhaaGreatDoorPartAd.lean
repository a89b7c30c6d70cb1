import Derived.Test.YtjbkgmbakjnlhaaGreatDoorPartAb
import Derived.Test.YtjbkgmbakjnlhaaGreatDoorPartAc
import Derived.Test.YtjbkgmbakjnlhaaGreatDoorPartAa
import Derived.Maps.Keyed
namespace Go.Proofs.YtjbkgmbakjnlhaaGreatDoor
set_option maxRecDepth 100000
open Go.RowKit
def RowB (w : World) (T : TypeId) (g : Nat) (cs : List Value) : Prop := ∃ cur : Array Value, w.heap[g]? = some (.cells cur T (0, 0)) ∧ cur.toList.take cs.length = cs
theorem RowB.kept {w w' : World} {T : TypeId} {g : Nat} {cs : List Value} (h : RowB w T g cs) (hk : w'.heap[g]? = w.heap[g]?) : RowB w' T g cs := by
 obtain ⟨cur, h1, h2⟩ := h
 exact ⟨cur, hk.trans h1, h2⟩
theorem RowB.lt {w : World} {T : TypeId} {g : Nat} {cs : List Value} (h : RowB w T g cs) : g < w.heap.size := by
 obtain ⟨cur, h1, _⟩ := h
 exact lt_of_block h1
theorem RowB.cell {w : World} {T : TypeId} {g : Nat} {cs : List Value} (h : RowB w T g cs) {k : Nat} {v : Value} (hk : cs[k]? = some v) : w.cell? ⟨g, k, none⟩ = some v := by
 obtain ⟨cur, h1, h2⟩ := h
 rw [zCr h1]
 have hl := (List.getElem?_eq_some_iff.1 hk).1
 rw [← h2, List.getElem?_take_of_lt hl, Array.getElem?_toList] at hk
 exact hk
theorem RowB.unfrozen {w : World} {T : TypeId} {g : Nat} {cs : List Value} (h : RowB w T g cs) (o : Nat) : w.frozen? ⟨g, o, none⟩ = false := by
 obtain ⟨cur, h1, _⟩ := h
 exact zUf h1 o
theorem RowB.less {w : World} {T : TypeId} {g : Nat} {cs : List Value} (h : RowB w T g cs) (n : Nat) : RowB w T g (cs.take n) := by
 obtain ⟨cur, h1, h2⟩ := h
 refine ⟨cur, h1, ?_⟩
 have e : cs.take n = cur.toList.take (min n cs.length) := by
  rw [← List.take_take, h2]
 rw [List.length_take, ← e]
theorem RowB.of_own {w : World} {lo size n : Nat} {T : TypeId} {g c : Nat} {xs : List Value} (h : w.ownsRow lo T size (.slice (some ⟨g, 0, none⟩) n c) n xs) : RowB w T g xs := by
 rcases h.2 with ⟨hv, _⟩ | ⟨g', cap, cur, hv, _, hh, _, _, _, ht⟩
 ·cases hv
 ·cases hv
  exact ⟨cur, hh, by rw [h.1]; exact ht⟩
def RV.cells (y : RV) : List Value := (pcells y.p (.slice y.a y.zs.length y.c)).toList
theorem RV.cells_len (y : RV) : y.cells.length = 9 := rfl
def RV.blk (y : RV) : List Nat := (y.a.map (·.block)).toList
structure DataB (w : World) (lo : Nat) (y : RV) : Prop where
 at_ : (y.a = none ∧ y.zs = [] ∧ y.c = 0) ∨ ∃ g, y.a = some ⟨g, 0, none⟩ ∧ lo ≤ g ∧ RowB w 5 g (y.zs.map (.int .u8)) ∧ y.zs.length ≤ y.c ∧ y.c ≤ 9223372036854775807
 len : y.zs.length ≤ 1048576
 byte : ∀ z ∈ y.zs, 0 ≤ z ∧ z ≤ 255
theorem DataB.kept {w w' : World} {lo : Nat} {y : RV} (h : DataB w lo y) (hk : ∀ b ∈ y.blk, w'.heap[b]? = w.heap[b]?) : DataB w' lo y := by
 refine ⟨h.at_.imp id ?_, h.len, h.byte⟩
 rintro ⟨g, h1, h2, h3, h4⟩
 exact ⟨g, h1, h2, h3.kept (hk g (by simp [RV.blk, h1])), h4⟩
theorem DataB.le {w : World} {lo lo' : Nat} {y : RV} (h : DataB w lo y) (hl : lo' ≤ lo) : DataB w lo' y := by
 refine ⟨h.at_.imp id ?_, h.len, h.byte⟩
 rintro ⟨g, h1, h2, h3⟩
 exact ⟨g, h1, Nat.le_trans hl h2, h3⟩
theorem DataB.blk {w : World} {lo : Nat} {y : RV} (h : DataB w lo y) : ∀ b ∈ y.blk, lo ≤ b ∧ b < w.heap.size ∧ ∃ cur, w.heap[b]? = some (.cells cur 5 (0, 0)) := by
 intro b hb
 rcases h.at_ with ⟨h1, _⟩ | ⟨g, h1, h2, h3, _⟩
 ·simp [RV.blk, h1] at hb
 ·simp [RV.blk, h1] at hb
  subst hb
  obtain ⟨cur, hc, _⟩ := id h3
  exact ⟨h2, h3.lt, cur, hc⟩
theorem DataB.below {w w' : World} {lo : Nat} {y : RV} (h : DataB w lo y) (hb : Below w.heap.size w w') : DataB w' lo y := h.kept fun b h' => hb.block b (h.blk b h').2.1
theorem DataB.rok {w : World} {lo : Nat} {y : RV} (h : DataB w lo y) : ROk w y := by
 rcases h.at_ with ⟨h1, h2, h3⟩ | ⟨g, h1, _, h3, h4, h5⟩
 ·exact ⟨by rw [h1, h2]; exact ⟨rfl, Or.inl rfl⟩, h.len, by rw [h2]; simp, by omega, h.byte⟩
 ·refine ⟨?_, h.len, h4, h5, h.byte⟩
  rw [h1]
  refine ⟨rfl, Or.inr ⟨g, 0, rfl, h3.lt, fun k hk => ?_⟩⟩
  rw [Nat.zero_add]
  refine h3.cell ?_
  rw [List.getElem?_map]
  simp [List.getD, List.getElem?_eq_getElem hk]
theorem flatR_len (ps : List RV) : (ps.flatMap RV.cells).length = ps.length * 9 := by
 induction ps with
 | nil => rfl
 | cons x r ih => simp only [List.flatMap_cons, List.length_append, ih, RV.cells_len, List.length_cons]; omega
theorem flatR_at : ∀ (ps : List RV) (i j : Nat) (y : RV), ps[i]? = some y → j < 9 → (ps.flatMap RV.cells)[i * 9 + j]? = y.cells[j]?
 | [], i, j, y, hi, _ => by simp at hi
 | x :: r, 0, j, y, hi, hj => by
  simp at hi
  subst hi
  rw [List.flatMap_cons, Nat.zero_mul, Nat.zero_add, List.getElem?_append_left (by rw [RV.cells_len]; exact hj)]
 | x :: r, i + 1, j, y, hi, hj => by
  rw [List.flatMap_cons, List.getElem?_append_right (by rw [RV.cells_len]; omega), RV.cells_len, show (i + 1) * 9 + j - 9 = i * 9 + j by omega]
  exact flatR_at r i j y (by simpa using hi) hj
def SV.blks (s : SV) : List Nat := (s.a.map (·.block)).toList ++ s.xs.flatMap RV.blk
structure SlotB (w : World) (lo : Nat) (s : SV) : Prop where
 at_ : ∃ gL, s.a = some ⟨gL, 0, none⟩ ∧ lo ≤ gL ∧ RowB w 29 gL (s.xs.flatMap RV.cells)
 each : ∀ y ∈ s.xs, DataB w lo y
 len : s.xs.length ≤ 1048576
 cap : s.xs.length ≤ s.c
 capM : s.c ≤ 9223372036854775807
theorem SlotB.kept {w w' : World} {lo : Nat} {s : SV} (h : SlotB w lo s) (hk : ∀ b ∈ s.blks, w'.heap[b]? = w.heap[b]?) : SlotB w' lo s := by
 refine ⟨?_, fun y hy => (h.each y hy).kept fun b hb => hk b (List.mem_append_right _ (List.mem_flatMap.2 ⟨y, hy, hb⟩)), h.len, h.cap, h.capM⟩
 obtain ⟨gL, h1, h2, h3⟩ := h.at_
 exact ⟨gL, h1, h2, h3.kept (hk gL (by simp [SV.blks, h1]))⟩
theorem SlotB.blk {w : World} {lo : Nat} {s : SV} (h : SlotB w lo s) : ∀ b ∈ s.blks, lo ≤ b ∧ b < w.heap.size ∧ ∃ cur t, w.heap[b]? = some (.cells cur t (0, 0)) ∧ (t = 5 ∨ t = 29) := by
 intro b hb
 rcases List.mem_append.1 hb with hb | hb
 ·obtain ⟨gL, h1, h2, h3⟩ := h.at_
  simp [h1] at hb
  subst hb
  obtain ⟨cur, hc, _⟩ := id h3
  exact ⟨h2, h3.lt, cur, _, hc, Or.inr rfl⟩
 ·obtain ⟨y, hy, hb⟩ := List.mem_flatMap.1 hb
  obtain ⟨h1, h2, cur, h3⟩ := (h.each y hy).blk b hb
  exact ⟨h1, h2, cur, _, h3, Or.inl rfl⟩
theorem SlotB.below {w w' : World} {lo : Nat} {s : SV} (h : SlotB w lo s) (hb : Below w.heap.size w w') : SlotB w' lo s := h.kept fun b h' => hb.block b (h.blk b h').2.1
theorem SlotB.le {w : World} {lo lo' : Nat} {s : SV} (h : SlotB w lo s) (hl : lo' ≤ lo) : SlotB w lo' s := by
 refine ⟨?_, fun y hy => (h.each y hy).le hl, h.len, h.cap, h.capM⟩
 obtain ⟨gL, h1, h2, h3⟩ := h.at_
 exact ⟨gL, h1, Nat.le_trans hl h2, h3⟩
theorem SlotB.rl {w : World} {lo : Nat} {s : SV} (h : SlotB w lo s) : ∃ gL, s.a = some ⟨gL, 0, none⟩ ∧ RL w gL s.xs := by
 obtain ⟨gL, h1, _, h3⟩ := h.at_
 refine ⟨gL, h1, h3.lt, fun k x hx => ?_, fun x hx => (h.each x hx).rok⟩
 have e : ∀ j v, j < 9 → x.cells[j]? = some v → w.cell? ⟨gL, k * 9 + j, none⟩ = some v := fun j v hj hv => h3.cell (by rw [flatR_at s.xs k j x hx hj]; exact hv)
 exact ⟨e 0 _ (by omega) rfl, e 1 _ (by omega) rfl, e 2 _ (by omega) rfl, e 3 _ (by omega) rfl, e 4 _ (by omega) rfl, e 5 _ (by omega) rfl, e 6 _ (by omega) rfl, e 7 _ (by omega) rfl, e 8 _ (by omega) rfl⟩
theorem SlotB.sok {w : World} {lo : Nat} {s : SV} (h : SlotB w lo s) : SOk w s := ⟨h.rl, h.len, h.cap, h.capM⟩
structure Forest (w : World) (lo : Nat) (ss : List SV) : Prop where
 each : ∀ s ∈ ss, SlotB w lo s
 nd : (ss.flatMap SV.blks).Nodup
theorem Forest.nil (w : World) (lo : Nat) : Forest w lo [] := ⟨(fun s h => by cases h), by simp⟩
theorem Forest.blk {w : World} {lo : Nat} {ss : List SV} (h : Forest w lo ss) : ∀ b ∈ ss.flatMap SV.blks, lo ≤ b ∧ b < w.heap.size ∧ ∃ cur t, w.heap[b]? = some (.cells cur t (0, 0)) ∧ (t = 5 ∨ t = 29) := by
 intro b hb
 obtain ⟨s, hs, hb⟩ := List.mem_flatMap.1 hb
 exact (h.each s hs).blk b hb
theorem Forest.kept {w w' : World} {lo : Nat} {ss : List SV} (h : Forest w lo ss) (hk : ∀ b ∈ ss.flatMap SV.blks, w'.heap[b]? = w.heap[b]?) : Forest w' lo ss :=
 ⟨fun s hs => (h.each s hs).kept fun b hb => hk b (List.mem_flatMap.2 ⟨s, hs, hb⟩), h.nd⟩
theorem Forest.below {w w' : World} {lo : Nat} {ss : List SV} (h : Forest w lo ss) (hb : Below w.heap.size w w') : Forest w' lo ss := h.kept fun b h' => hb.block b (h.blk b h').2.1
theorem Forest.grown {w w' : World} {lo r : Nat} {ss : List SV} {o : Obj} (h : Forest w lo ss) (hg : w.grownBy w' (some r)) (hr : w.heap[r]? = some o) (ht : ∀ cur t fr, o = .cells cur t fr → t ≠ 5 ∧ t ≠ 29) : Forest w' lo ss := by
 refine h.kept fun b hb => ?_
 obtain ⟨_, h1, cur, t, h2, h3⟩ := h.blk b hb
 refine hg.block b h1 (fun e => ?_)
 cases e
 rw [hr] at h2
 obtain ⟨n1, n2⟩ := ht cur t (0, 0) (Option.some.inj h2)
 rcases h3 with h3 | h3
 ·exact n1 h3
 ·exact n2 h3
theorem Forest.le {w : World} {lo lo' : Nat} {ss : List SV} (h : Forest w lo ss) (hl : lo' ≤ lo) : Forest w lo' ss := ⟨fun s hs => (h.each s hs).le hl, h.nd⟩
theorem sub_flat {α β : Type} {f : α → List β} {l l' : List α} (h : List.Sublist l l') : List.Sublist (l.flatMap f) (l'.flatMap f) := by
 induction h with
 | slnil => exact List.Sublist.refl _
 | cons a _ ih => rw [List.flatMap_cons]; exact ih.trans (List.sublist_append_right _ _)
 | cons_cons a _ ih => rw [List.flatMap_cons, List.flatMap_cons]; exact List.Sublist.append (List.Sublist.refl _) ih
theorem Forest.sub {w : World} {lo : Nat} {ss ts : List SV} (h : Forest w lo ss) (hs : List.Sublist ts ss) : Forest w lo ts :=
 ⟨fun s h' => h.each s (hs.subset h'), h.nd.sublist (sub_flat hs)⟩
theorem Forest.snoc {w : World} {lo lo' : Nat} {ss : List SV} {s : SV} (h : Forest w lo ss) (hs : SlotB w lo' s) (hn : s.blks.Nodup) (hl : lo ≤ lo') (hlt : ∀ b ∈ ss.flatMap SV.blks, b < lo') : Forest w lo (ss ++ [s]) := by
 refine ⟨fun t ht => ?_, ?_⟩
 ·rcases List.mem_append.1 ht with h1 | h1
  ·exact h.each t h1
  ·rw [List.mem_singleton.1 h1]
   exact hs.le hl
 ·rw [List.flatMap_append, List.nodup_append]
  refine ⟨h.nd, by simpa using hn, fun a ha b hb e => ?_⟩
  have hb' : b ∈ s.blks := by simpa using hb
  have := (hs.blk b hb').1
  have := hlt a ha
  omega
def SV.cells (s : SV) : List Value := (scells (.slice s.a s.xs.length s.c) s.since s.bad).toList
theorem SV.cells_len (s : SV) : s.cells.length = 3 := rfl
theorem flatS_len (ps : List SV) : (ps.flatMap SV.cells).length = ps.length * 3 := by
 induction ps with
 | nil => rfl
 | cons x r ih => simp only [List.flatMap_cons, List.length_append, ih, SV.cells_len, List.length_cons]; omega
theorem flatS_at : ∀ (ps : List SV) (i j : Nat) (y : SV), ps[i]? = some y → j < 3 → (ps.flatMap SV.cells)[i * 3 + j]? = y.cells[j]?
 | [], i, j, y, hi, _ => by simp at hi
 | x :: r, 0, j, y, hi, hj => by
  simp at hi
  subst hi
  rw [List.flatMap_cons, Nat.zero_mul, Nat.zero_add, List.getElem?_append_left (by rw [SV.cells_len]; exact hj)]
 | x :: r, i + 1, j, y, hi, hj => by
  rw [List.flatMap_cons, List.getElem?_append_right (by rw [SV.cells_len]; omega), SV.cells_len, show (i + 1) * 3 + j - 3 = i * 3 + j by omega]
  exact flatS_at r i j y (by simpa using hi) hj
structure AnsB (w : World) (lo gS : Nat) (ts : List SV) : Prop where
 low : lo ≤ gS
 row : RowB w 39 gS (ts.flatMap SV.cells)
 forest : Forest w lo ts
theorem AnsB.kept {w w' : World} {lo gS : Nat} {ts : List SV} (h : AnsB w lo gS ts) (hk : ∀ b, lo ≤ b → w'.heap[b]? = w.heap[b]?) : AnsB w' lo gS ts := ⟨h.low, h.row.kept (hk _ h.low), h.forest.kept fun b hb => hk b (h.forest.blk b hb).1⟩
theorem AnsB.below {w w' : World} {lo gS : Nat} {ts : List SV} (h : AnsB w lo gS ts) (hb : Below w.heap.size w w') : AnsB w' lo gS ts := ⟨h.low, h.row.kept (hb.block _ h.row.lt), h.forest.below hb⟩
theorem AnsB.le {w : World} {lo lo' gS : Nat} {ts : List SV} (h : AnsB w lo gS ts) (hl : lo' ≤ lo) : AnsB w lo' gS ts := ⟨Nat.le_trans hl h.low, h.row, h.forest.le hl⟩
theorem AnsB.sl {w : World} {lo gS : Nat} {ts : List SV} (h : AnsB w lo gS ts) : SL w gS ts := by
 refine ⟨h.row.lt, fun k x hx => ?_, fun x hx => (h.forest.each x hx).sok⟩
 have e : ∀ j v, j < 3 → x.cells[j]? = some v → w.cell? ⟨gS, k * 3 + j, none⟩ = some v := fun j v hj hv => h.row.cell (by rw [flatS_at ts k j x hx hj]; exact hv)
 exact ⟨e 0 _ (by omega) rfl, e 1 _ (by omega) rfl, e 2 _ (by omega) rfl⟩
theorem clone_nil (cap : Nat) (w : World) :
  Calls Tryz.prog 94 #[.slice none 0 cap] w fun e w' => e = .returned (.slice none 0 0) ∧ w' = w := by
 have hq := fun (w : World) => Lib.run_eql_slice_nil (P := Tryz.prog) w 22 5 none 0 cap 0 0 Tryz.underlying22
 go_enter Tryz.func94, Tryz.ntmps94
 go_wp2
 go_ret
 exact ⟨rfl, rfl⟩
set_option maxHeartbeats 800000 in
theorem copyPacket_nil (p : Pk) (cap : Nat) (w : World) :
  Calls Tryz.prog 68 #[p.val (.slice none 0 cap)] w fun e w' => e = .returned (p.val (.slice none 0 0)) ∧ Below w.heap.size w w' := by
 unfold Pk.val
 go_enter Tryz.func68, Tryz.ntmps68
 go_wp2_with fail
 refine (clone_nil cap _).mono ?_
 rintro e w1 ⟨rfl, rfl⟩
 go_wp2
 refine bodyPost_ret (v := .agg #[.int .i64 p.src, .int .i64 p.dst, .int .i64 p.kind, .int .i64 p.id, .int .i64 p.hops, .bool p.whole, .int .i64 p.off, .bool p.more, .slice none 0 0]) (by simp [results, Tryz.results68, go_sem]) rfl ⟨rfl, ?_⟩
 exact Joins.below_alloc2 _ _ _
def RV.val (y : RV) : Value := y.p.val (.slice y.a y.zs.length y.c)
theorem copyPacket_rv (y : RV) (w : World) (h : ROk w y) :
  Calls Tryz.prog 68 #[y.val] w fun e w' => ∃ z : RV, e = .returned z.val ∧ z.key = y.key ∧ DataB w' w.heap.size z ∧ Below w.heap.size w w' := by
 obtain ⟨p, a, c, zs⟩ := y
 cases a with
 | none =>
  have h0 : zs.length = 0 := by
   rcases h.rd.2 with e | ⟨g, o, e, _⟩
   ·exact e
   ·cases e
  have hz : zs = [] := List.eq_nil_of_length_eq_zero h0
  subst hz
  exact (copyPacket_nil p c w).mono fun e w' ⟨h1, h2⟩ => ⟨⟨p, none, 0, []⟩, h1, rfl, ⟨Or.inl ⟨rfl, rfl, rfl⟩, by simp, fun z hz => by cases hz⟩, h2⟩
 | some ad =>
  refine (copyPacket_any p ad zs.length c zs w h.rd h.len).mono fun e w' ⟨g, c', h1, h2, h3⟩ => ⟨⟨p, some ⟨g, 0, none⟩, c', zs⟩, h1, rfl, ⟨Or.inr ⟨g, rfl, (own_lt h2 g rfl).1, RowB.of_own h2, ?_⟩, h.len, h.byte⟩, h3⟩
  exact own_caps h2
abbrev K4 := Int × Int × Int × Int
def kval (k : K4) : Value := .agg #[.int .i64 k.1, .int .i64 k.2.1, .int .i64 k.2.2.1, .int .i64 k.2.2.2]
theorem equal_k4 (k k' : K4) (w : World) : (Op.equal 103 (kval k) (kval k')).run Tryz.prog w = .ok (decide (k = k')) w := by
 unfold kval Op.equal Op.maxDepth
 rw [show (10000 : Nat) = 9999 + 1 from rfl, run_equalIn_agg w 9999 103 _ _ (by kernel_rfl) (by kernel_rfl)]
 obtain ⟨a, b, c, d⟩ := k
 obtain ⟨a', b', c', d'⟩ := k'
 go_simp
 by_cases h1 : a = a' <;> by_cases h2 : b = b' <;> by_cases h3 : c = c' <;> by_cases h4 : d = d' <;> simp [h1, h2, h3, h4]
theorem checkKey_k4 (b : Bool) (k : K4) (w : World) : (Instr.checkKey b 10000 103 (kval k)).run Tryz.prog w = .ok () w := by
 kernel_rfl
def pval (b : Nat) : Value := .pointer (some ⟨b, 0, none⟩)
def Ents (es : List MapEntry) (L : List (K4 × Nat)) : Prop := es.map (fun e => (e.key, e.val)) = L.map (fun p => (kval p.1, pval p.2))
theorem ents_cons {e : MapEntry} {es : List MapEntry} {L : List (K4 × Nat)} (h : Ents (e :: es) L) : ∃ k b r, L = (k, b) :: r ∧ e.key = kval k ∧ e.val = pval b ∧ Ents es r := by
 cases L with
 | nil => cases h
 | cons p r =>
  obtain ⟨k, b⟩ := p
  simp only [Ents, List.map_cons, List.cons.injEq, Prod.mk.injEq] at h
  exact ⟨k, b, r, rfl, h.1.1, h.1.2, h.2⟩
def findK (k : K4) : List (K4 × Nat) → Nat → Option (Nat × Nat)
 | [], _ => none
 | (k', b) :: r, i => if k = k' then some (i, b) else findK k r (i + 1)
theorem findAsking_k4 (k : K4) : ∀ (es : List MapEntry) (L : List (K4 × Nat)) (i : Nat) (w : World), Ents es L → (Instr.findAsking 103 (kval k) es i).run Tryz.prog w = .ok ((findK k L i).map fun p => (p.1, pval p.2)) w
 | [], L, i, w, h => by
  cases L with
  | nil => rfl
  | cons p r => cases h
 | e :: es, L, i, w, h => by
  obtain ⟨k', b, r, rfl, h1, h2, h3⟩ := ents_cons h
  unfold Instr.findAsking findK
  simp only [Sem.run_bind, h1, equal_k4, Result.andThen_ok]
  by_cases hk : k = k'
  ·simp [hk, h2]
  ·simp only [hk, decide_false, if_false, Bool.false_eq_true]
   exact findAsking_k4 k es r (i + 1) w h3
theorem findNow_k4 {fs : Array Field} (k : K4) (es : List MapEntry) (L : List (K4 × Nat)) (i : Nat) (h : Ents es L) : Instr.findNow (.struct fs) (kval k) es i = none ∨ (es = [] ∧ L = [] ∧ Instr.findNow (.struct fs) (kval k) es i = some none) := by
 cases es with
 | nil =>
  cases L with
  | nil => exact Or.inr ⟨rfl, rfl, rfl⟩
  | cons p r => cases h
 | cons e es => exact Or.inl rfl
theorem under_key : Tryz.prog.underlying 103 = some (.struct (Tryz.prog.fieldsOf 103)) := by kernel_rfl
theorem findKey_k4 (k : K4) (es : List MapEntry) (L : List (K4 × Nat)) (w : World) (h : Ents es L) : (Instr.findKey 103 (kval k) es).run Tryz.prog w = .ok ((findK k L 0).map fun p => (p.1, pval p.2)) w := by
 unfold Instr.findKey
 simp only [Sem.run_bind, run_underlying under_key, Result.andThen_ok]
 rcases findNow_k4 (fs := Tryz.prog.fieldsOf 103) k es L 0 h with e | ⟨e1, e2, e⟩
 ·rw [e]
  exact findAsking_k4 k es L 0 w h
 ·rw [e]
  subst e2
  rfl
def MapIs (w : World) (mb : Nat) (L : List (K4 × Nat)) : Prop := ∃ es clock, w.heap[mb]? = some (.map es clock) ∧ Ents es.toList L
theorem MapIs.lt {w : World} {mb : Nat} {L : List (K4 × Nat)} (h : MapIs w mb L) : mb < w.heap.size := by
 obtain ⟨es, c, h1, _⟩ := h
 exact (Array.getElem?_eq_some_iff.1 h1).1
theorem MapIs.kept {w w' : World} {mb : Nat} {L : List (K4 × Nat)} (h : MapIs w mb L) (hk : w'.heap[mb]? = w.heap[mb]?) : MapIs w' mb L := by
 obtain ⟨es, c, h1, h2⟩ := h
 exact ⟨es, c, hk.trans h1, h2⟩
theorem MapIs.ne_cells {w : World} {mb b : Nat} {L : List (K4 × Nat)} {cs : Array Value} {t : TypeId} {fr : Nat × Nat} (h : MapIs w mb L) (hb : w.heap[b]? = some (.cells cs t fr)) : mb ≠ b := by
 rintro rfl
 obtain ⟨es, c, h1, _⟩ := h
 rw [h1] at hb
 cases hb
def slotOf (k : K4) (L : List (K4 × Nat)) : Option Nat := (findK k L 0).map (·.2)
def slotVal (o : Option Nat) : Value := match o with | some b => pval b | none => .pointer none
theorem lookup_k4 {w : World} {mb : Nat} {L : List (K4 × Nat)} (h : MapIs w mb L) (k : K4) : (Instr.lookup 97 (.map (some mb)) (kval k) false).run Tryz.prog w = .ok (slotVal (slotOf k L)) w := by
 obtain ⟨es, c, h1, h2⟩ := h
 have hf := findKey_k4 k es.toList L w h2
 unfold slotOf
 cases hk : findK k L 0 with
 | none =>
  rw [hk] at hf
  simp [Instr.lookup, run_underlying Tryz.underlying97, MapKept.run_getObj_map h1, checkKey_k4, hf, Result.andThen, slotVal]
 | some p =>
  rw [hk] at hf
  simp [Instr.lookup, run_underlying Tryz.underlying97, MapKept.run_getObj_map h1, checkKey_k4, hf, Result.andThen, slotVal]
def setBlk (w : World) (b : Nat) (o : Obj) : World := { w with heap := w.heap.setIfInBounds b o }
theorem update_k4 {w : World} {mb : Nat} {L : List (K4 × Nat)} (h : MapIs w mb L) (k : K4) (b : Nat) (hn : findK k L 0 = none) :
  ∃ w', (Instr.mapUpdate 97 (.map (some mb)) (kval k) (pval b)).run Tryz.prog w = .ok () w' ∧ MapIs w' mb (L ++ [(k, b)]) ∧ w.grownBy w' (some mb) := by
 obtain ⟨es, c, h1, h2⟩ := h
 have hf := findKey_k4 k es.toList L w h2
 rw [hn] at hf
 have hlt : mb < w.heap.size := (Array.getElem?_eq_some_iff.1 h1).1
 refine ⟨setBlk w mb (.map (es.push ⟨kval k, pval b, c⟩) (c + 1)), by simp [setBlk, Instr.mapUpdate, run_underlying Tryz.underlying97, MapKept.run_getObj_map h1, checkKey_k4, hf, MapKept.run_setObj_map _ h1, Result.andThen], ?_, ?_⟩
 ·refine ⟨es.push ⟨kval k, pval b, c⟩, c + 1, by simp [setBlk, hlt], ?_⟩
  unfold Ents at *
  simp [h2]
 ·exact ⟨rfl, rfl, rfl, by simp [setBlk], fun j hj hne => by
   have : mb ≠ j := fun e => hne (by rw [e])
   simp [setBlk, Array.getElem?_setIfInBounds_ne this]⟩
theorem findK_some {k : K4} : ∀ {L : List (K4 × Nat)} {i j b : Nat}, findK k L i = some (j, b) → i ≤ j ∧ L[j - i]? = some (k, b) ∧ ∀ q, q < j - i → ∀ p, L[q]? = some p → p.1 ≠ k
 | [], i, j, b, h => by cases h
 | (k', b') :: r, i, j, b, h => by
  unfold findK at h
  by_cases hk : k = k'
  ·rw [if_pos hk] at h
   cases h
   refine ⟨Nat.le_refl _, by simp [hk], fun q hq => by omega⟩
  ·rw [if_neg hk] at h
   obtain ⟨h1, h2, h3⟩ := findK_some h
   refine ⟨by omega, ?_, fun q hq p hp => ?_⟩
   ·rw [show j - i = (j - (i + 1)) + 1 by omega]
    exact h2
   ·cases q with
    | zero =>
     simp at hp
     rw [← hp]
     exact fun e => hk e.symm
    | succ q => exact h3 q (by omega) p (by simpa using hp)
theorem findK_none {k : K4} : ∀ {L : List (K4 × Nat)} {i : Nat}, findK k L i = none → ∀ p ∈ L, p.1 ≠ k
 | [], i, _, p, hp => by cases hp
 | (k', b') :: r, i, h, p, hp => by
  unfold findK at h
  by_cases hk : k = k'
  ·rw [if_pos hk] at h; cases h
  ·rw [if_neg hk] at h
   rcases List.mem_cons.1 hp with rfl | hp
   ·exact fun e => hk e.symm
   ·exact findK_none h p hp
theorem findK_of {k : K4} {b : Nat} : ∀ {L : List (K4 × Nat)} (i : Nat), (k, b) ∈ L → (L.map (·.1)).Nodup → ∃ j, findK k L i = some (j, b)
 | [], i, h, _ => by cases h
 | (k', b') :: r, i, h, hn => by
  unfold findK
  rw [List.map_cons, List.nodup_cons] at hn
  rcases List.mem_cons.1 h with h | h
  ·cases h
   rw [if_pos rfl]
   exact ⟨i, rfl⟩
  ·have : k ≠ k' := fun e => hn.1 (by rw [← e]; exact List.mem_map.2 ⟨(k, b), h, rfl⟩)
   rw [if_neg this]
   exact findK_of (i + 1) h hn.2
theorem findK_absent {k : K4} : ∀ {L : List (K4 × Nat)} (i : Nat), (∀ p ∈ L, p.1 ≠ k) → findK k L i = none
 | [], _, _ => rfl
 | (k', b') :: r, i, h => by
  unfold findK
  rw [if_neg (fun e => h (k', b') (by simp) e.symm)]
  exact findK_absent (i + 1) (fun p hp => h p (List.mem_cons_of_mem _ hp))
theorem slotOf_some {k : K4} {b : Nat} {L : List (K4 × Nat)} (h : (k, b) ∈ L) (hn : (L.map (·.1)).Nodup) : slotOf k L = some b := by
 obtain ⟨j, hj⟩ := findK_of 0 h hn
 simp [slotOf, hj]
theorem erase_at {k : K4} : ∀ {L : List (K4 × Nat)} {j b : Nat}, L[j]? = some (k, b) → (L.map (·.1)).Nodup → L.eraseIdx j = L.filter (fun p => decide (p.1 ≠ k))
 | [], j, b, h, _ => by simp at h
 | (k', b') :: r, 0, b, h, hn => by
  simp at h
  obtain ⟨rfl, rfl⟩ := h
  rw [List.map_cons, List.nodup_cons] at hn
  simp only [List.eraseIdx_cons_zero, List.filter_cons, ne_eq, not_true, decide_false, Bool.false_eq_true, if_false]
  symm
  rw [List.filter_eq_self]
  intro p hp
  have : p.1 ≠ k' := fun e => hn.1 (by rw [← e]; exact List.mem_map.2 ⟨p, hp, rfl⟩)
  simp [this]
 | (k', b') :: r, j + 1, b, h, hn => by
  rw [List.map_cons, List.nodup_cons] at hn
  have hm : (k, b) ∈ r := List.mem_of_getElem? (by simpa using h)
  have : k' ≠ k := fun e => hn.1 (by rw [e]; exact List.mem_map.2 ⟨(k, b), hm, rfl⟩)
  rw [List.eraseIdx_cons_succ, erase_at (by simpa using h) hn.2, List.filter_cons]
  simp [this]
theorem delete_k4 {w : World} {mb : Nat} {L : List (K4 × Nat)} (h : MapIs w mb L) (hnd : (L.map (·.1)).Nodup) (k : K4) (ty : TypeId) :
  ∃ w', (Builtin.delete_ #[97, 103] ty #[.map (some mb), kval k]).run Tryz.prog w = .ok (.tuple #[]) w' ∧ MapIs w' mb (L.filter fun p => decide (p.1 ≠ k)) ∧ w.grownBy w' (some mb) := by
 obtain ⟨es, c, h1, h2⟩ := h
 have hf := findKey_k4 k es.toList L w h2
 have hlt : mb < w.heap.size := (Array.getElem?_eq_some_iff.1 h1).1
 cases hk : findK k L 0 with
 | none =>
  rw [hk] at hf
  refine ⟨setBlk w mb (.map es c), by simp [setBlk, Builtin.delete_, run_underlying Tryz.underlying97, MapKept.run_getObj_map h1, checkKey_k4, hf, MapKept.run_setObj_map _ h1, Result.andThen], ?_, ?_⟩
  ·refine ⟨es, c, by simp [setBlk, hlt], ?_⟩
   rw [List.filter_eq_self.2 fun p hp => by simpa using findK_none hk p hp]
   exact h2
  ·exact ⟨rfl, rfl, rfl, by simp [setBlk], fun j hj hne => by
    have : mb ≠ j := fun e => hne (by rw [e])
    simp [setBlk, Array.getElem?_setIfInBounds_ne this]⟩
 | some p =>
  obtain ⟨j, b⟩ := p
  rw [hk] at hf
  obtain ⟨_, hj, _⟩ := findK_some hk
  rw [Nat.sub_zero] at hj
  refine ⟨setBlk w mb (.map (es.eraseIdxIfInBounds j) c), by simp [setBlk, Builtin.delete_, run_underlying Tryz.underlying97, MapKept.run_getObj_map h1, checkKey_k4, hf, MapKept.run_setObj_map _ h1, Result.andThen], ?_, ?_⟩
  ·refine ⟨es.eraseIdxIfInBounds j, c, by simp [setBlk, hlt], ?_⟩
   have hjs : j < es.size := by
    have e := congrArg List.length h2
    have := (List.getElem?_eq_some_iff.1 hj).1
    simp at e
    omega
   have hsub : (es.eraseIdxIfInBounds j).toList = es.toList.eraseIdx j := by
    unfold Array.eraseIdxIfInBounds
    rw [dif_pos hjs]
    simp
   rw [hsub, ← erase_at hj hnd]
   unfold Ents at *
   rw [Go.ChangeMaps.map_eraseIdx, h2, Go.ChangeMaps.map_eraseIdx]
  ·exact ⟨rfl, rfl, rfl, by simp [setBlk], fun j hj hne => by
    have : mb ≠ j := fun e => hne (by rw [e])
    simp [setBlk, Array.getElem?_setIfInBounds_ne this]⟩
end Go.Proofs.YtjbkgmbakjnlhaaGreatDoor
