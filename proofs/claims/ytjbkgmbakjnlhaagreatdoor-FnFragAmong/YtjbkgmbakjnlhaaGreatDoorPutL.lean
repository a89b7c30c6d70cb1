import Derived.Test.YtjbkgmbakjnlhaaGreatDoorPartAj
namespace Go.Proofs.YtjbkgmbakjnlhaaGreatDoor
set_option maxRecDepth 100000
open Go.RowKit
theorem Tryz.infoKey : (Tryz.prog.info? 103).map (fun i => (i.zero, i.size, i.bytes)) = some (some (.agg #[.int .i64 0, .int .i64 0, .int .i64 0, .int .i64 0]), 4, 32) := by kernel_rfl
theorem k4_at {w : World} {g : Nat} {k : K4} (h : w.heap[g]? = some (.cells #[.int .i64 k.1, .int .i64 k.2.1, .int .i64 k.2.2.1, .int .i64 k.2.2.2] 103 (0, 0))) : ∀ j u, (k4cells k)[j]? = some u → w.cell? ((Addr.mk g 0 none).add j) = some u := by
 intro j u hu
 rw [add_none, Nat.zero_add, zCr h, ← Array.getElem?_toList]
 exact hu
structure Only (P : Nat → Prop) (w w' : World) : Prop where
 os : w'.os = w.os
 tape : w'.tape = w.tape
 output : w'.output = w.output
 size : w.heap.size ≤ w'.heap.size
 block : ∀ b, b < w.heap.size → ¬ P b → w'.heap[b]? = w.heap[b]?
theorem Only.of_below {P : Nat → Prop} {w w' : World} (h : Below w.heap.size w w') : Only P w w' := ⟨h.os, h.tape, h.output, h.size, fun b hb _ => h.block b hb⟩
theorem Only.of_grown {P : Nat → Prop} {w w' : World} {o : Option Nat} (h : w.grownBy w' o) (hP : ∀ r, o = some r → P r) : Only P w w' := ⟨h.os, h.tape, h.output, h.size, fun b hb hn => h.block b hb (fun e => hn (hP b e.symm))⟩
theorem Only.trans {P : Nat → Prop} {w w1 w2 : World} (h : Only P w w1) (k : Only P w1 w2) : Only P w w2 :=
 ⟨k.os.trans h.os, k.tape.trans h.tape, k.output.trans h.output, Nat.le_trans h.size k.size, fun b hb hn => (k.block b (Nat.lt_of_lt_of_le hb h.size) hn).trans (h.block b hb hn)⟩
theorem Only.set {P : Nat → Prop} {w w' : World} (h : Only P w w') {a : Addr} (ha : P a.block) (v : Value) : Only P w (w'.setCell a v) :=
 h.trans ⟨rfl, rfl, rfl, by simp, fun b _ hn => zHs (fun e => hn (by rw [e]; exact ha))⟩
theorem Only.mono {P P' : Nat → Prop} {w w' : World} (h : Only P w w') (hP : ∀ b, P b → P' b) : Only P' w w' := ⟨h.os, h.tape, h.output, h.size, fun b hb hn => h.block b hb (fun hp => hn (hP b hp))⟩
theorem Only.below {P : Nat → Prop} {w w' : World} {lo : Nat} (h : Only P w w') (hP : ∀ b, P b → lo ≤ b) (hl : lo ≤ w.heap.size) : Below lo w w' := ⟨h.os, h.tape, h.output, h.size, fun b hb => h.block b (by omega) (fun hp => by have := hP b hp; omega)⟩
def OPart (ob mb : Nat) (ov : Value) (b : Nat) : Prop := b = ob ∨ b = mb ∨ ov.ownBlock = some b
theorem OpenB.part {w : World} {lo ob mb : Nat} {ov : Value} {now : Int} {es : List Ent} (h : OpenB w lo ob mb ov now es) : ∀ b, OPart ob mb ov b → lo ≤ b := by
 rintro b (rfl | rfl | hb)
 ·exact h.lob
 ·exact h.lmb
 ·exact (own_lt h.order b hb).1
theorem OpenB.low {w : World} {lo ob mb : Nat} {ov : Value} {now : Int} {es : List Ent} (h : OpenB w lo ob mb ov now es) : lo ≤ w.heap.size := by
 have := h.lob
 have := lt_of_block h.box
 omega
def KeyAt (w : World) (g : Nat) (k : K4) : Prop := w.cell? ⟨g, 0, none⟩ = some (.int .i64 k.1) ∧ w.cell? ⟨g, 1, none⟩ = some (.int .i64 k.2.1) ∧ w.cell? ⟨g, 2, none⟩ = some (.int .i64 k.2.2.1) ∧ w.cell? ⟨g, 3, none⟩ = some (.int .i64 k.2.2.2)
theorem KeyAt.of_block {w : World} {g : Nat} {k : K4} {t : TypeId} {fr : Nat × Nat} (h : w.heap[g]? = some (.cells #[.int .i64 k.1, .int .i64 k.2.1, .int .i64 k.2.2.1, .int .i64 k.2.2.2] t fr)) : KeyAt w g k :=
 ⟨zCr h, zCr h, zCr h, zCr h⟩
theorem KeyAt.kept {w w' : World} {g : Nat} {k : K4} (h : KeyAt w g k) (hk : w'.heap[g]? = w.heap[g]?) : KeyAt w' g k :=
 have e : ∀ o, w'.cell? ⟨g, o, none⟩ = w.cell? ⟨g, o, none⟩ := fun _ => World.cell?_of_block (w := w) hk
 ⟨(e 0).trans h.1, (e 1).trans h.2.1, (e 2).trans h.2.2.1, (e 3).trans h.2.2.2⟩
structure PutMid (w' : World) (lo ob mb : Nat) (ov ov' : Value) (now : Int) (es : List Ent) (k : K4) (sb : Nat) (t : SV) : Prop where
 box : w'.heap[ob]? = some (.cells #[.int .i64 now, ov, .map (some mb)] 100 (0, 0))
 order : w'.ownsRow lo 103 4 ov' (es.length + 1) ((es.flatMap fun e => k4cells e.k) ++ k4cells k)
 map_ : MapIs w' mb (es.map fun e => (e.k, e.b))
 slot : ∀ e ∈ es, w'.heap[e.b]? = some e.s.box
 new : w'.heap[sb]? = some t.box
 forest : Forest w' lo ((es.map Ent.s) ++ [t])
theorem put_mid {w w2 w3 : World} {lo ob mb sb : Nat} {ov ov' : Value} {now : Int} {es : List Ent} {k : K4} {t : SV} (h : OpenB w lo ob mb ov now es) (hs : w.heap[sb]? = some t.box) (hf : Forest w lo ((es.map Ent.s) ++ [t]))
  (ho : w3.ownsRow lo 103 4 ov' (es.length + 1) ((es.flatMap fun e => k4cells e.k) ++ k4cells k)) (hg : w2.grownBy w3 ov.ownBlock) (hb : Below w.heap.size w w2) (hk : KeyAt w2 w.heap.size k ∧ w.heap.size < w2.heap.size) :
  Hid (PutMid w3 lo ob mb ov ov' now es k sb t) ∧ Hid (w2.heap.size ≤ w3.heap.size) ∧ Hid (Only (OPart ob mb ov) w w3) ∧ Hid (KeyAt w3 w.heap.size k) := by
 have ne : ∀ b, b < w.heap.size → (∀ cu, w.heap[b]? ≠ some (.cells cu 103 (0, 0))) → w3.heap[b]? = w.heap[b]? := fun b hl hn => (hg.block b (Nat.lt_of_lt_of_le hl hb.size) (fun e => by
  obtain ⟨cu, hc⟩ := h.order_at b e.symm
  exact hn cu hc)).trans (hb.block b hl)
 have nc : ∀ {b : Nat} {cu : Array Value} {t' : TypeId}, w.heap[b]? = some (.cells cu t' (0, 0)) → t' ≠ 103 → w3.heap[b]? = w.heap[b]? := fun {b cu t'} hb' hn => ne b (lt_of_block hb') (fun cu' e => by
  rw [hb'] at e
  cases e
  exact hn rfl)
 refine ⟨⟨(nc h.box (by decide)).trans h.box, ho, h.map_.kept ?_, fun e he => (nc (h.slot e he) (by decide)).trans (h.slot e he), (nc hs (by decide)).trans hs, hf.kept fun b hb' => ?_⟩, hg.size, ?_, ?_⟩
 ·obtain ⟨es', c, h1, _⟩ := h.map_
  exact ne mb (lt_of_block h1) (fun cu e => by rw [h1] at e; cases e)
 ·obtain ⟨_, _, cu, t', hc, ht'⟩ := hf.blk b hb'
  rcases ht' with rfl | rfl
  ·exact nc hc (by decide)
  ·exact nc hc (by decide)
 ·exact (Only.of_below hb).trans (Only.of_grown hg fun r hr => Or.inr (Or.inr hr))
 ·refine hk.1.kept (hg.block _ hk.2 (fun e => ?_))
  have := (own_lt h.order _ e.symm).2
  omega
theorem put_store {w w3 : World} {lo ob mb sb : Nat} {ov ov' : Value} {now : Int} {es : List Ent} {k : K4} {t : SV} (h : PutMid w3 lo ob mb ov ov' now es k sb t) {ow : Value} (hB : Only (OPart ob mb ow) w w3) (hk : KeyAt w3 w.heap.size k) (hob : ob < w.heap.size) :
  Hid (PutMid (w3.setCell ⟨ob, 1, none⟩ ov') lo ob mb ov' ov' now es k sb t) ∧ Hid (Only (OPart ob mb ow) w (w3.setCell ⟨ob, 1, none⟩ ov')) ∧ Hid (KeyAt (w3.setCell ⟨ob, 1, none⟩ ov') w.heap.size k) := by
 have nc : ∀ {b : Nat} {cu : Array Value} {t' : TypeId}, w3.heap[b]? = some (.cells cu t' (0, 0)) → t' ≠ 100 → (w3.setCell ⟨ob, 1, none⟩ ov').heap[b]? = w3.heap[b]? := fun {b cu t'} hb' hn => zHs (fun e => by
  simp only at e
  rw [e, h.box] at hb'
  cases hb'
  exact hn rfl)
 refine ⟨⟨?_, own_kept h.order fun b hb => ?_, h.map_.kept ?_, fun e he => (nc (h.slot e he) (by decide)).trans (h.slot e he), (nc h.new (by decide)).trans h.new, h.forest.kept fun b hb' => ?_⟩, hB.set (Or.inl rfl) _, hk.kept (zHs (by simp only; omega))⟩
 ·rw [set_at h.box]
  rfl
 ·rcases h.order.2 with ⟨e, _⟩ | ⟨g, cap, cur, e, _, hh, _⟩
  ·rw [e] at hb; cases hb
  ·rw [e] at hb
   cases hb
   exact nc hh (by decide)
 ·obtain ⟨es', c, h1, _⟩ := h.map_
  exact zHs (fun e => by simp only at e; rw [e, h.box] at h1; cases h1)
 ·obtain ⟨_, _, cu, t', hc, ht'⟩ := h.forest.blk b hb'
  rcases ht' with rfl | rfl
  ·exact nc hc (by decide)
  ·exact nc hc (by decide)
theorem put_end {w w4 w5 : World} {lo ob mb sb : Nat} {ov' : Value} {now : Int} {es : List Ent} {k : K4} {t : SV} (h : PutMid w4 lo ob mb ov' ov' now es k sb t) (hkn : ∀ e ∈ es, e.k ≠ k) (hsn : ∀ e ∈ es, e.b ≠ sb) (hkeys : (es.map Ent.k).Nodup) (hsbs : (es.map Ent.b).Nodup) (lob : lo ≤ ob) (lmb : lo ≤ mb) (lsb : ∀ e ∈ es, lo ≤ e.b) (hlo : lo ≤ sb)
  (hm : MapIs w5 mb ((es.map fun e => (e.k, e.b)) ++ [(k, sb)])) (hg : w4.grownBy w5 (some mb)) {ow : Value} (hB : Only (OPart ob mb ow) w w4) : OpenB w5 lo ob mb ov' now (es ++ [⟨k, sb, t⟩]) ∧ Only (OPart ob mb ow) w w5 := by
 have nc : ∀ {b : Nat} {cu : Array Value} {t' : TypeId}, w4.heap[b]? = some (.cells cu t' (0, 0)) → w5.heap[b]? = w4.heap[b]? := fun {b cu t'} hb' => hg.block b (lt_of_block hb') (fun e => h.map_.ne_cells hb' (Option.some.inj e).symm)
 have hlen : (es ++ [(⟨k, sb, t⟩ : Ent)]).length = es.length + 1 := by simp
 refine ⟨⟨(nc h.box).trans h.box, ?_, by simpa using hm, ?_, fun e he => ?_, ?_, ?_, lob, lmb, fun e he => ?_⟩, hB.trans (Only.of_grown hg fun r hr => by cases hr; exact Or.inr (Or.inl rfl))⟩
 ·rw [hlen, List.flatMap_append]
  have ho : w5.ownsRow lo 103 4 ov' (es.length + 1) ((es.flatMap fun e => k4cells e.k) ++ k4cells k) := own_kept h.order fun b hb => by
   rcases h.order.2 with ⟨e, _⟩ | ⟨g, cap, cur, e, _, hh, _⟩
   ·rw [e] at hb; cases hb
   ·rw [e] at hb
    cases hb
    exact nc hh
  simpa using ho
 ·rw [List.map_append, List.nodup_append]
  refine ⟨hkeys, by simp, fun a ha b hb e => ?_⟩
  obtain ⟨x, hx, rfl⟩ := List.mem_map.1 ha
  simp at hb
  exact hkn x hx (e.trans hb)
 ·rcases List.mem_append.1 he with h1 | h1
  ·exact (nc (h.slot e h1)).trans (h.slot e h1)
  ·rw [List.mem_singleton.1 h1]
   exact (nc h.new).trans h.new
 ·rw [List.map_append, List.nodup_append]
  refine ⟨hsbs, by simp, fun a ha b hb e => ?_⟩
  obtain ⟨x, hx, rfl⟩ := List.mem_map.1 ha
  simp at hb
  exact hsn x hx (e.trans hb)
 ·rw [List.map_append]
  refine h.forest.kept fun b hb => ?_
  obtain ⟨_, _, cu, t', hc, _⟩ := h.forest.blk b hb
  exact nc hc
 ·rcases List.mem_append.1 he with h1 | h1
  ·exact lsb e h1
  ·rw [List.mem_singleton.1 h1]
   exact hlo
theorem put_key5 {w w4 w5 : World} {lo ob mb sb : Nat} {ov' : Value} {now : Int} {es : List Ent} {k : K4} {t : SV} (h : PutMid w4 lo ob mb ov' ov' now es k sb t) (hk : KeyAt w4 w.heap.size k) (hg : w4.drew.grownBy w5 (some mb)) : KeyAt w5 w.heap.size k ∧ w5.cell? ⟨ob, 2, none⟩ = some (.map (some mb)) := by
 have ne : ∀ {g : Nat} {o : Nat} {v : Value}, w4.cell? ⟨g, o, none⟩ = some v → w5.heap[g]? = w4.heap[g]? := fun {g o v} hc => hg.block g (World.block_lt_of_cell? w4 _ hc) (fun e => by
  obtain ⟨es', c, h1, _⟩ := h.map_
  rw [← Option.some.inj e] at h1
  simp [World.cell?, h1] at hc)
 refine ⟨hk.kept (ne hk.1), ?_⟩
 have hc : w4.cell? ⟨ob, 2, none⟩ = some (.map (some mb)) := zCr h.box
 rw [World.cell?_of_block (w := w4) (a := ⟨ob, 2, none⟩) (ne hc)]
 exact hc
set_option maxHeartbeats 6400000 in
theorem putLast_any (lo ob mb : Nat) (ov : Value) (now : Int) (es : List Ent) (k : K4) (sb : Nat) (t : SV) (w : World) (h : OpenB w lo ob mb ov now es) (hk : ∀ e ∈ es, e.k ≠ k) (hsb : ∀ e ∈ es, e.b ≠ sb) (hl : es.length ≤ 1000)
  (hs : w.heap[sb]? = some t.box) (hlo : lo ≤ sb) (hf : Forest w lo ((es.map Ent.s) ++ [t])) :
  Calls Tryz.prog 60 #[.pointer (some ⟨ob, 0, none⟩), kval k, pval sb] w fun e w' => ∃ ov', e = .returned (.tuple #[]) ∧ OpenB w' lo ob mb ov' now (es ++ [⟨k, sb, t⟩]) ∧ Only (OPart ob mb ov) w w' := by
 obtain ⟨ti, hti, hy0, hy1, hy2⟩ := info_parts Tryz.infoKey
 have lb := lt_of_block h.box
 have lob := h.lob
 have hlow : lo ≤ w.heap.size := by omega
 have H0 : Hid (OpenB w lo ob mb ov now es) := h
 have HS : Hid (w.heap[sb]? = some t.box) := hs
 have HF : Hid (Forest w lo ((es.map Ent.s) ++ [t])) := hf
 have HKN : Hid (∀ e ∈ es, e.k ≠ k) := hk
 have HSN : Hid (∀ e ∈ es, e.b ≠ sb) := hsb
 have x0 : w.cell? ⟨ob, 0, none⟩ = some (.int .i64 now) := zCr h.box
 have x1 : w.cell? ⟨ob, 1, none⟩ = some ov := zCr h.box
 have x2 : w.cell? ⟨ob, 2, none⟩ = some (.map (some mb)) := zCr h.box
 have B2 : Hid (Below w.heap.size w (((w.alloc (.cells #[.int .i64 k.1, .int .i64 k.2.1, .int .i64 k.2.2.1, .int .i64 k.2.2.2] 103)).drew).alloc (.cells #[.int .i64 k.1, .int .i64 k.2.1, .int .i64 k.2.2.1, .int .i64 k.2.2.2] 103))) := ((zBa w _).drew).alloc (by simp) _
 have N2 : Hid (∀ j u, (k4cells k)[j]? = some u → (((w.alloc (.cells #[.int .i64 k.1, .int .i64 k.2.1, .int .i64 k.2.2.1, .int .i64 k.2.2.2] 103)).drew).alloc (.cells #[.int .i64 k.1, .int .i64 k.2.1, .int .i64 k.2.2.1, .int .i64 k.2.2.2] 103)).cell? ((Addr.mk (w.heap.size + 1) 0 none).add j) = some u) := k4_at (heap_new _ _ _ (by simp))
 have K2 : Hid (KeyAt (((w.alloc (.cells #[.int .i64 k.1, .int .i64 k.2.1, .int .i64 k.2.2.1, .int .i64 k.2.2.2] 103)).drew).alloc (.cells #[.int .i64 k.1, .int .i64 k.2.1, .int .i64 k.2.2.1, .int .i64 k.2.2.2] 103)) w.heap.size k ∧ w.heap.size < (((w.alloc (.cells #[.int .i64 k.1, .int .i64 k.2.1, .int .i64 k.2.2.1, .int .i64 k.2.2.2] 103)).drew).alloc (.cells #[.int .i64 k.1, .int .i64 k.2.1, .int .i64 k.2.2.1, .int .i64 k.2.2.2] 103)).heap.size) := ⟨KeyAt.of_block ((zHa (show w.heap.size < (w.alloc _).heap.size by simp)).trans (heap_new w _ _ rfl)), (show w.heap.size < ((w.alloc _).alloc _).heap.size by simp; omega)⟩
 clear h hs hf hk hsb
 unfold kval pval
 go_enter Tryz.func60, Tryz.ntmps60
 go_wp2
 refine wp_region_held_drew (S := fun u => KeyAt u w.heap.size k) (by kernel_rfl) (KeyAt.of_block (heap_new w _ _ rfl)) (fun hH => ?_)
 refine zTk 0 6 (.pointer (some ⟨ob, 0, none⟩)) rfl (fun w hS => by go_simp) hH ?_; simp only [Act.put, zX, zY, zZ]
 refine zTk 1 7 (.pointer (some ⟨ob, 0, none⟩)) rfl (fun w hS => by go_simp) hH ?_; simp only [Act.put, zX, zY, zZ]
 refine zTk 2 8 (.pointer (some ⟨ob, 0, none⟩)) rfl (fun w hS => by go_simp) hH ?_; simp only [Act.put, zX, zY, zZ]
 refine zTk 3 9 (.pointer (some ⟨ob, 1, none⟩)) rfl (fun w hS => by go_simp) hH ?_; simp only [Act.put, zX, zY, zZ]
 refine zTk 5 11 (.agg #[.int .i64 k.1, .int .i64 k.2.1, .int .i64 k.2.2.1, .int .i64 k.2.2.2]) rfl (fun w hS => by obtain ⟨s0, s1, s2, s3⟩ := hS; go_simp) hH ?_; simp only [Act.put, zX, zY, zZ]
 refine wpAnyH_ready (rs := [4, 6]) (by kernel_rfl) (by simp) ?_
 refine AllReadyH.cons rfl (fun K hK => ?_) (AllReadyH.cons rfl (fun K hK => ?_) AllReadyH.nil)
 ·go_simp
  refine hK.out _ _ hH (fun hH => ?_)
  clear hK K
  refine zRd 6 (by kernel_rfl) rfl (fun K hK => ?_)
  go_simp
  refine hK.out _ _ K2.out.1 (fun hH => ?_)
  clear hK K
  refine zRd 7 (by kernel_rfl) rfl (fun K hK => ?_)
  refine step_append_d rfl (some 13) rfl (.tmp 10) (.tmp 12) 98 rfl lo 103 ti (.agg #[.int .i64 0, .int .i64 0, .int .i64 0, .int .i64 0]) 4 32 Tryz.underlying98 hti hy0 hy1 hy2 rfl (by decide) ov es.length (es.flatMap fun e => k4cells e.k) rfl (own_below H0.out.order B2.out) ⟨w.heap.size + 1, 0, none⟩ 1 1 (k4cells k) rfl rfl N2.out (k_one k) (by unfold maxLen; omega) (by omega) (by simp; omega) ?_
  intro v1 w3 ho3 hg3 hn3
  obtain ⟨g1, c1, rfl⟩ : ∃ g1 c1, v1 = .slice (some ⟨g1, 0, none⟩) (es.length + 1) c1 := form_of ho3 (fun e => by have := (hn3.1 e).2; omega)
  obtain ⟨O3, S3, B3, kb3⟩ := put_mid H0.out HS.out HF.out ho3 hg3 B2.out K2.out
  have x13 : w3.cell? ⟨ob, 0, none⟩ = some (.int .i64 now) := zCr O3.out.box
  have x14 : w3.cell? ⟨ob, 1, none⟩ = some ov := zCr O3.out.box
  have fz3 : ∀ o, w3.frozen? ⟨ob, o, none⟩ = false := fun o => zUf O3.out.box o
  refine hK.out _ _ kb3.out (fun hH => ?_)
  clear hK K
  simp only [Act.put, zX, zY, zZ]
  refine zTk 8 14 (.pointer (some ⟨ob, 0, none⟩)) rfl (fun w hS => by go_simp) hH ?_; simp only [Act.put, zX, zY, zZ]
  refine zTk 9 15 (.pointer (some ⟨ob, 1, none⟩)) rfl (fun w hS => by go_simp) hH ?_; simp only [Act.put, zX, zY, zZ]
  refine zRd 10 (by kernel_rfl) rfl (fun K hK => ?_)
  go_simp
  obtain ⟨O4, B4, kb4⟩ := put_store O3.out B3.out kb3.out lb
  refine hK.out _ _ kb4.out (fun hH => ?_)
  clear hK K
  refine wpAnyH_done (by kernel_rfl) ?_ _
  clear x13 x14 fz3 hg3 hn3 O3 B3 kb3
  have hlw4 := B4.out.size
  clear S3 B2 N2 K2 HF HS x0 x1 x2 ho3 hH
  generalize w3.setCell ⟨ob, 1, none⟩ (.slice (some ⟨g1, 0, none⟩) (es.length + 1) c1) = w4 at O4 B4 kb4 ⊢
  obtain ⟨w5, hup, hm5, hg5⟩ := update_k4 (w := w4.drew) O4.out.map_ k sb (findK_absent 0 (fun p hp => by
   obtain ⟨e, he, rfl⟩ := List.mem_map.1 hp
   exact HKN.out e he))
  have y2 : w4.cell? ⟨ob, 2, none⟩ = some (.map (some mb)) := zCr O4.out.box
  have S5 : Hid (KeyAt w5 w.heap.size k ∧ w5.cell? ⟨ob, 2, none⟩ = some (.map (some mb))) := put_key5 O4.out kb4.out hg5
  obtain ⟨OE, BE⟩ := put_end (w := w) O4.out HKN.out HSN.out H0.out.keys H0.out.sbs lob H0.out.lmb H0.out.lsb hlo hm5 (show w4.grownBy w5 (some mb) from ⟨hg5.os, hg5.tape, hg5.output, hg5.size, fun j hj hne => hg5.block j hj hne⟩) B4.out
  have OH : Hid (OpenB w5 lo ob mb (.slice (some ⟨g1, 0, none⟩) (es.length + 1) c1) now (es ++ [⟨k, sb, t⟩])) := OE
  have BH : Hid (Only (OPart ob mb ov) w w5) := BE
  unfold kval pval at hup
  clear hm5 hg5 OE BE
  go_wp2
  refine wp_region_held_drew (S := fun u => KeyAt u w.heap.size k ∧ u.cell? ⟨ob, 2, none⟩ = some (.map (some mb))) (by kernel_rfl) ⟨kb4.out, y2⟩ (fun hH => ?_)
  refine zTk 0 16 (.pointer (some ⟨ob, 0, none⟩)) rfl (fun w hS => by go_simp) hH ?_; simp only [Act.put, zX, zY, zZ]
  refine zTk 1 17 (.pointer (some ⟨ob, 0, none⟩)) rfl (fun w hS => by go_simp) hH ?_; simp only [Act.put, zX, zY, zZ]
  refine zTk 2 18 (.pointer (some ⟨ob, 2, none⟩)) rfl (fun w hS => by go_simp) hH ?_; simp only [Act.put, zX, zY, zZ]
  refine zTk 3 19 (.map (some mb)) rfl (fun w hS => by obtain ⟨⟨s0, s1, s2, s3⟩, s4⟩ := hS; go_simp) hH ?_; simp only [Act.put, zX, zY, zZ]
  refine zTk 4 20 (.agg #[.int .i64 k.1, .int .i64 k.2.1, .int .i64 k.2.2.1, .int .i64 k.2.2.2]) rfl (fun w hS => by obtain ⟨⟨s0, s1, s2, s3⟩, s4⟩ := hS; go_simp) hH ?_; simp only [Act.put, zX, zY, zZ]
  refine zTk 5 21 (.pointer (some ⟨sb, 0, none⟩)) rfl (fun w hS => by go_simp) hH ?_; simp only [Act.put, zX, zY, zZ]
  refine zRd 6 (by kernel_rfl) rfl (fun K hK => ?_)
  go_simp
  refine hK.out _ _ S5.out (fun hH => ?_)
  clear hK K
  refine wpAnyH_done (by kernel_rfl) ?_ _
  clear hup hH y2
  go_wp2
  refine bodyPost_end (results_none rfl _ _ _) rfl ?_
  exact ⟨_, rfl, OH.out, BH.out⟩
 ·go_simp
  refine hK.out _ _ K2.out.1 (fun hH => ?_)
  clear hK K
  refine zRd 4 (by kernel_rfl) rfl (fun K hK => ?_)
  go_simp
  refine hK.out _ _ hH (fun hH => ?_)
  clear hK K
  refine zRd 7 (by kernel_rfl) rfl (fun K hK => ?_)
  refine step_append_d rfl (some 13) rfl (.tmp 10) (.tmp 12) 98 rfl lo 103 ti (.agg #[.int .i64 0, .int .i64 0, .int .i64 0, .int .i64 0]) 4 32 Tryz.underlying98 hti hy0 hy1 hy2 rfl (by decide) ov es.length (es.flatMap fun e => k4cells e.k) rfl (own_below H0.out.order B2.out) ⟨w.heap.size + 1, 0, none⟩ 1 1 (k4cells k) rfl rfl N2.out (k_one k) (by unfold maxLen; omega) (by omega) (by simp; omega) ?_
  intro v1 w3 ho3 hg3 hn3
  obtain ⟨g1, c1, rfl⟩ : ∃ g1 c1, v1 = .slice (some ⟨g1, 0, none⟩) (es.length + 1) c1 := form_of ho3 (fun e => by have := (hn3.1 e).2; omega)
  obtain ⟨O3, S3, B3, kb3⟩ := put_mid H0.out HS.out HF.out ho3 hg3 B2.out K2.out
  have x13 : w3.cell? ⟨ob, 0, none⟩ = some (.int .i64 now) := zCr O3.out.box
  have x14 : w3.cell? ⟨ob, 1, none⟩ = some ov := zCr O3.out.box
  have fz3 : ∀ o, w3.frozen? ⟨ob, o, none⟩ = false := fun o => zUf O3.out.box o
  refine hK.out _ _ kb3.out (fun hH => ?_)
  clear hK K
  simp only [Act.put, zX, zY, zZ]
  refine zTk 8 14 (.pointer (some ⟨ob, 0, none⟩)) rfl (fun w hS => by go_simp) hH ?_; simp only [Act.put, zX, zY, zZ]
  refine zTk 9 15 (.pointer (some ⟨ob, 1, none⟩)) rfl (fun w hS => by go_simp) hH ?_; simp only [Act.put, zX, zY, zZ]
  refine zRd 10 (by kernel_rfl) rfl (fun K hK => ?_)
  go_simp
  obtain ⟨O4, B4, kb4⟩ := put_store O3.out B3.out kb3.out lb
  refine hK.out _ _ kb4.out (fun hH => ?_)
  clear hK K
  refine wpAnyH_done (by kernel_rfl) ?_ _
  clear x13 x14 fz3 hg3 hn3 O3 B3 kb3
  have hlw4 := B4.out.size
  clear S3 B2 N2 K2 HF HS x0 x1 x2 ho3 hH
  generalize w3.setCell ⟨ob, 1, none⟩ (.slice (some ⟨g1, 0, none⟩) (es.length + 1) c1) = w4 at O4 B4 kb4 ⊢
  obtain ⟨w5, hup, hm5, hg5⟩ := update_k4 (w := w4.drew) O4.out.map_ k sb (findK_absent 0 (fun p hp => by
   obtain ⟨e, he, rfl⟩ := List.mem_map.1 hp
   exact HKN.out e he))
  have y2 : w4.cell? ⟨ob, 2, none⟩ = some (.map (some mb)) := zCr O4.out.box
  have S5 : Hid (KeyAt w5 w.heap.size k ∧ w5.cell? ⟨ob, 2, none⟩ = some (.map (some mb))) := put_key5 O4.out kb4.out hg5
  obtain ⟨OE, BE⟩ := put_end (w := w) O4.out HKN.out HSN.out H0.out.keys H0.out.sbs lob H0.out.lmb H0.out.lsb hlo hm5 (show w4.grownBy w5 (some mb) from ⟨hg5.os, hg5.tape, hg5.output, hg5.size, fun j hj hne => hg5.block j hj hne⟩) B4.out
  have OH : Hid (OpenB w5 lo ob mb (.slice (some ⟨g1, 0, none⟩) (es.length + 1) c1) now (es ++ [⟨k, sb, t⟩])) := OE
  have BH : Hid (Only (OPart ob mb ov) w w5) := BE
  unfold kval pval at hup
  clear hm5 hg5 OE BE
  go_wp2
  refine wp_region_held_drew (S := fun u => KeyAt u w.heap.size k ∧ u.cell? ⟨ob, 2, none⟩ = some (.map (some mb))) (by kernel_rfl) ⟨kb4.out, y2⟩ (fun hH => ?_)
  refine zTk 0 16 (.pointer (some ⟨ob, 0, none⟩)) rfl (fun w hS => by go_simp) hH ?_; simp only [Act.put, zX, zY, zZ]
  refine zTk 1 17 (.pointer (some ⟨ob, 0, none⟩)) rfl (fun w hS => by go_simp) hH ?_; simp only [Act.put, zX, zY, zZ]
  refine zTk 2 18 (.pointer (some ⟨ob, 2, none⟩)) rfl (fun w hS => by go_simp) hH ?_; simp only [Act.put, zX, zY, zZ]
  refine zTk 3 19 (.map (some mb)) rfl (fun w hS => by obtain ⟨⟨s0, s1, s2, s3⟩, s4⟩ := hS; go_simp) hH ?_; simp only [Act.put, zX, zY, zZ]
  refine zTk 4 20 (.agg #[.int .i64 k.1, .int .i64 k.2.1, .int .i64 k.2.2.1, .int .i64 k.2.2.2]) rfl (fun w hS => by obtain ⟨⟨s0, s1, s2, s3⟩, s4⟩ := hS; go_simp) hH ?_; simp only [Act.put, zX, zY, zZ]
  refine zTk 5 21 (.pointer (some ⟨sb, 0, none⟩)) rfl (fun w hS => by go_simp) hH ?_; simp only [Act.put, zX, zY, zZ]
  refine zRd 6 (by kernel_rfl) rfl (fun K hK => ?_)
  go_simp
  refine hK.out _ _ S5.out (fun hH => ?_)
  clear hK K
  refine wpAnyH_done (by kernel_rfl) ?_ _
  clear hup hH y2
  go_wp2
  refine bodyPost_end (results_none rfl _ _ _) rfl ?_
  exact ⟨_, rfl, OH.out, BH.out⟩
end Go.Proofs.YtjbkgmbakjnlhaaGreatDoor
