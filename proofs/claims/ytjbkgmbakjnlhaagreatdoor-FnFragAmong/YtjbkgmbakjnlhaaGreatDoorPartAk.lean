import Derived.Test.YtjbkgmbakjnlhaaGreatDoorPutL
import Derived.Test.YtjbkgmbakjnlhaaGreatDoorPartAj
namespace Go.Proofs.YtjbkgmbakjnlhaaGreatDoor
set_option maxRecDepth 100000
open Go.RowKit
def k4of (p : Pk) : K4 := (p.src, p.dst, p.kind, p.id)
def Ent.good (e : Ent) : Prop := ∃ x, e.s.xs[0]? = some x ∧ e.k = k4of x.p
theorem okB_of_waits {s : SV} {x : RV} (h : waits s) (hx : s.xs[0]? = some x) : okB x.p x.zs.length = true := by
 have ha : alikeL (s.xs.map RV.key) = true := by
  cases e : alikeL (s.xs.map RV.key) with
  | true => rfl
  | false =>
   have := (join_one _).2 e
   rw [h.1] at this
   cases this
 obtain ⟨_, _, h3⟩ := (alikeL_iff _).1 ha
 have hm : x.key ∈ s.xs.map RV.key := List.mem_map.2 ⟨x, List.mem_of_getElem? hx, rfl⟩
 have := h3 x.key hm x.key hm
 rw [alikeB_iff] at this
 exact this.1
theorem alike_of_keys {x y : RV} (hx : okB x.p x.zs.length = true) (hy : okB y.p y.zs.length = true) (hk : k4of x.p = k4of y.p) : alikeB x.key y.key = true := by
 rw [alikeB_iff]
 simp only [k4of, Prod.mk.injEq] at hk
 exact ⟨hx, hy, hk.1, hk.2.1, hk.2.2.1, hk.2.2.2⟩
theorem key_at {ss : List SV} {j : Nat} {es : List Ent} {e : Ent} (hk : es.map (fun e => e.s.key) = (ss.take j).map SV.key) (he : e ∈ es) : ∃ i r, i < j ∧ ss[i]? = some r ∧ e.s.key = r.key := by
 obtain ⟨i, hi⟩ := List.getElem?_of_mem he
 have h1 := congrArg (fun l => l[i]?) hk
 simp only [List.getElem?_map, hi, Option.map_some] at h1
 cases hr : (ss.take j)[i]? with
 | none => rw [hr] at h1; cases h1
 | some r =>
  rw [hr] at h1
  have hlt := (List.getElem?_eq_some_iff.1 hr).1
  rw [List.length_take] at hlt
  rw [List.getElem?_take_of_lt (by omega)] at hr
  exact ⟨i, r, by omega, hr, Option.some.inj h1⟩
theorem first_key {s r : SV} {x : RV} (h : s.key = r.key) (hx : s.xs[0]? = some x) : ∃ y, r.xs[0]? = some y ∧ y.key = x.key := by
 have h1 := congrArg (fun k => k.1[0]?) h
 simp only [SV.key, List.getElem?_map, hx, Option.map_some] at h1
 cases hr : r.xs[0]? with
 | none => rw [hr] at h1; cases h1
 | some y =>
  rw [hr] at h1
  exact ⟨y, rfl, (Option.some.inj h1).symm⟩
theorem keys_differ {now : Int} {ss : List SV} {j : Nat} {x : SV} {y : RV} {es : List Ent} (hB : benchOk now ss) (hx : ss[j]? = some x) (hy : x.xs[0]? = some y) (hk : es.map (fun e => e.s.key) = (ss.take j).map SV.key) (hg : ∀ e ∈ es, e.good) : ∀ e ∈ es, e.k ≠ k4of y.p := by
 intro e he hkk
 obtain ⟨z, hz, hez⟩ := hg e he
 obtain ⟨i, r, hi, hr, hrk⟩ := key_at hk he
 obtain ⟨u, hu, huk⟩ := first_key hrk hz
 obtain ⟨_, w1, _, l1⟩ := hB.2.2 j x hx
 obtain ⟨_, w2, _, _⟩ := hB.2.2 i r hr
 have hup : u.p = z.p := congrArg Prod.fst huk
 refine l1 i r hi hr ⟨u, y, hu, hy, alike_of_keys (okB_of_waits w2 hu) (okB_of_waits w1 hy) ?_⟩
 rw [hup, ← hez]
 exact hkk
theorem makeMap_run (W : World) : (Instr.makeMap 97 none).run Tryz.prog W = .ok (.map (some W.heap.size)) (W.alloc (.map #[] 0)) := by kernel_rfl
set_option maxHeartbeats 6400000 in
theorem opened_any (now : Int) (oa : Option Addr) (cl : Nat) (ss : List SV) (w : World) (hL : SLq w oa ss) (hm : ss.length ≤ 1048576) (hc : ss.length ≤ cl) (hcm : cl ≤ 9223372036854775807) :
  Calls Tryz.prog 26 #[.agg #[.int .i64 now, .slice oa ss.length cl]] w fun e w' => Below w.heap.size w w' ∧ ((¬ benchOk now ss ∧ e = .returned (.tuple #[.pointer none, errVal 1])) ∨
   (benchOk now ss ∧ ∃ ob mb ov es, e = .returned (.tuple #[.pointer (some ⟨ob, 0, none⟩), errVal 0]) ∧ OpenB w' w.heap.size ob mb ov now es ∧ es.map (fun e => e.s.key) = ss.map SV.key ∧ ∀ e ∈ es, e.good)) := by
 have HL : Hid (SLq w oa ss) := hL
 have KB : Hid (∀ W : World, Below w.heap.size w W → Calls Tryz.prog 13 #[.agg #[.int .i64 now, .slice oa ss.length cl]] W (SaysB (benchOk now ss) W)) := fun W h => implBenchOk_q now oa cl ss W (hL.below h) hm hc hcm
 clear hL
 go_enter Tryz.func26, Tryz.ntmps26
 go_wp2_with fail
 refine (KB.out _ (zBa _ _)).mono ?_
 rintro e w1 ⟨b, rfl, hb, b1⟩
 have B1 : Hid (Below w.heap.size w w1) := (zBa _ _).trans (b1.mono (by simp))
 have z0 : w1.cell? ⟨w.heap.size, 0, none⟩ = some (.int .i64 now) := (b1.cell (p := ⟨w.heap.size, 0, none⟩) (by simp)).trans (by go_simp)
 have z1 : w1.cell? ⟨w.heap.size, 1, none⟩ = some (.slice oa ss.length cl) := (b1.cell (p := ⟨w.heap.size, 1, none⟩) (by simp)).trans (by go_simp)
 have s1 : w.heap.size < w1.heap.size := by have := b1.size; simp at this; omega
 have HB : Hid (b = true ↔ benchOk now ss) := hb
 clear b1 hb KB
 cases b
 ·go_wp2
  go_ret2
  exact ⟨B1.out, Or.inl ⟨(fun h => by have := HB.out.2 h; cases this), rfl⟩⟩
 have HBO : Hid (benchOk now ss) := HB.out.1 (by trivial)
 have h4 : ss.length ≤ 4 := HBO.out.2.1
 clear HB
 have O0 : Hid (OpenB ((w1.alloc (.map #[] 0)).alloc (.cells #[.int .i64 now, .slice none 0 0, .map (some w1.heap.size)] 100)) w.heap.size (w1.heap.size + 1) w1.heap.size (.slice none 0 0) now []) := ⟨heap_new _ _ _ (by simp), World.ownsRow_nil _ _ _ _, ⟨#[], 0, (zHa (by simp)).trans (heap_new _ _ _ rfl), rfl⟩, List.nodup_nil, (fun e he => by cases he), List.nodup_nil, Forest.nil _ _, by omega, by omega, (fun e he => by cases he)⟩
 have hmm := makeMap_run
 have OS : Hid (((w1.alloc (.map #[] 0)).alloc (.cells #[.int .i64 now, .slice none 0 0, .map (some w1.heap.size)] 100)).cell? ⟨w.heap.size, 1, none⟩ = some (.slice oa ss.length cl)) := (show _ = _ by rw [World.cell?_alloc_lt _ _ ⟨w.heap.size, 1, none⟩ (by simp; omega), World.cell?_alloc_lt _ _ ⟨w.heap.size, 1, none⟩ s1]; exact z1)
 have B2 : Hid (Below w.heap.size w ((w1.alloc (.map #[] 0)).alloc (.cells #[.int .i64 now, .slice none 0 0, .map (some w1.heap.size)] 100))) := (B1.out.alloc (by omega) _).alloc (by simp; omega) _
 go_wp2
 go_loopw [20] (fun i wr => ∃ (k : Nat) (ov : Value) (es : List Ent), k ≤ ss.length ∧ i = .int .i64 k ∧ Hid (es.length = k) ∧ Hid (OpenB wr w.heap.size (w1.heap.size + 1) w1.heap.size ov now es) ∧ Hid (es.map (fun e => e.s.key) = (ss.take k).map SV.key) ∧ Hid (∀ e ∈ es, e.good) ∧ Hid (Below w.heap.size w wr)) (fun i _ => ss.length - (intOf i).toNat)
 case atStart => exact ⟨0, .slice none 0 0, [], by omega, rfl, rfl, O0.out, rfl, (fun e he => by cases he), B2.out⟩
 case round =>
  obtain ⟨k, ov, es, hk, rfl, HE, HO, HK, HG, HW⟩ := hrel
  have hsz := HW.out.size
  by_cases hlt : k < ss.length
  ·obtain ⟨x, hx⟩ := get_of_lt hlt
   have hi : (k : Int) < (ss.length : Int) := by omega
   have Lr := HL.out.below HW.out
   rcases Lr with h0 | ⟨g, rfl, hL⟩
   ·rw [h0] at hlt; simp at hlt
   have hgr := hL.lt
   obtain ⟨c0, c1, c2⟩ := hL.elem k x hx
   have HX : Hid (ss[k]? = some x) := hx
   have HXO : Hid (SOk wr x) := hL.each x (List.mem_of_getElem? hx)
   obtain ⟨gx, hxa, RX⟩ := HXO.out.at_
   have lgw : gx < w.heap.size := by
    rcases HL.out with h0 | ⟨g', hg', hL'⟩
    ·rw [h0] at hlt; simp at hlt
    ·obtain ⟨gx', hxa', RX'⟩ := (hL'.each x (List.mem_of_getElem? hx)).at_
     rw [hxa] at hxa'
     cases hxa'
     exact RX'.lt
   rw [hxa] at c0
   obtain ⟨y, hy⟩ := waits_first (HBO.out.2.2 k x hx).2.1
   have HY : Hid (x.xs[0]? = some y) := hy
   obtain ⟨p0, p1, p2, p3, p4, p5, p6, p7, p8⟩ := (RX.elem 0 y hy).head
   have lgx := RX.lt
   have hyl := (RX.each y (List.mem_of_getElem? hy)).len
   obtain ⟨nx, hnx⟩ : ∃ nx, x.xs.length = nx := ⟨_, rfl⟩
   have HNX : Hid (x.xs.length = nx) := hnx
   have HXA : Hid (x.a = some ⟨gx, 0, none⟩) := hxa
   have hxl := HXO.out.len
   have hx0 : (0 : Int) < (nx : Int) := by
    rw [List.getElem?_eq_some_iff] at hy
    have := hy.1
    omega
   rw [hnx] at c0 hxl
   have hnx0 : 0 < nx := by omega
   have KD : Hid (∀ e ∈ es, e.k ≠ k4of y.p) := keys_differ HBO.out hx hy HK.out HG.out
   have KY : Hid (∀ W : World, Calls Tryz.prog 61 #[.agg #[.int .i64 y.p.src, .int .i64 y.p.dst, .int .i64 y.p.kind, .int .i64 y.p.id, .int .i64 y.p.hops, .bool y.p.whole, .int .i64 y.p.off, .bool y.p.more, .slice y.a y.zs.length y.c]] W fun e w' => e = .returned (.agg #[.int .i64 y.p.src, .int .i64 y.p.dst, .int .i64 y.p.kind, .int .i64 y.p.id, .int .i64 y.p.hops, .bool y.p.whole, .int .i64 y.p.off, .bool y.p.more, .int .i64 y.zs.length]) ∧ Below W.heap.size W w') := fun W => keyed_any y.p y.a y.zs.length y.c W
   have KC : Hid (∀ W : World, Below wr.heap.size wr W → Calls Tryz.prog 62 #[.agg #[.slice (some ⟨gx, 0, none⟩) nx x.c, .int .i64 x.since, .bool x.bad]] W fun e w' => ∃ t : SV, e = .returned (pval W.heap.size) ∧ w'.heap[W.heap.size]? = some t.box ∧ t.key = x.key ∧ SlotB w' (W.heap.size + 1) t ∧ t.blks.Nodup ∧ Below W.heap.size W w') := fun W h => by
    have h1 := copySlot_any x W (HXO.out.below h)
    rw [HXA.out, HNX.out] at h1
    exact h1
   have LOW : Hid (w.heap.size ≤ wr.heap.size) := hsz
   clear hx hL hy RX hnx hxa hmm
   have SK : Hid (∀ W : World, Below (wr.heap.size + 1) (wr.alloc (.cells #[.slice (some ⟨gx, 0, none⟩) nx x.c, .int .i64 x.since, .bool x.bad] 39)) W → (W.cell? ⟨wr.heap.size, 0, none⟩ = some (.slice (some ⟨gx, 0, none⟩) nx x.c) ∧ W.cell? ⟨wr.heap.size, 1, none⟩ = some (.int .i64 x.since) ∧ W.cell? ⟨wr.heap.size, 2, none⟩ = some (.bool x.bad) ∧ W.cell? ⟨gx, 0, none⟩ = some (.int .i64 y.p.src) ∧ W.cell? ⟨gx, 1, none⟩ = some (.int .i64 y.p.dst) ∧ W.cell? ⟨gx, 2, none⟩ = some (.int .i64 y.p.kind) ∧ W.cell? ⟨gx, 3, none⟩ = some (.int .i64 y.p.id) ∧ W.cell? ⟨gx, 4, none⟩ = some (.int .i64 y.p.hops) ∧ W.cell? ⟨gx, 5, none⟩ = some (.bool y.p.whole) ∧ W.cell? ⟨gx, 6, none⟩ = some (.int .i64 y.p.off) ∧ W.cell? ⟨gx, 7, none⟩ = some (.bool y.p.more) ∧ W.cell? ⟨gx, 8, none⟩ = some (.slice y.a y.zs.length y.c))) := fun W h => by
    have e : ∀ b o, b < wr.heap.size → W.cell? ⟨b, o, none⟩ = wr.cell? ⟨b, o, none⟩ := fun b o hb => (h.cell (p := ⟨b, o, none⟩) (by simp only; omega)).trans (World.cell?_alloc_lt _ _ ⟨b, o, none⟩ hb)
    have e2 : ∀ o, W.cell? ⟨wr.heap.size, o, none⟩ = (wr.alloc (.cells #[.slice (some ⟨gx, 0, none⟩) nx x.c, .int .i64 x.since, .bool x.bad] 39)).cell? ⟨wr.heap.size, o, none⟩ := fun o => h.cell (p := ⟨wr.heap.size, o, none⟩) (by simp)
    exact ⟨(e2 0).trans (by go_simp), (e2 1).trans (by go_simp), (e2 2).trans (by go_simp), (e _ _ lgx).trans p0, (e _ _ lgx).trans p1, (e _ _ lgx).trans p2, (e _ _ lgx).trans p3, (e _ _ lgx).trans p4, (e _ _ lgx).trans p5, (e _ _ lgx).trans p6, (e _ _ lgx).trans p7, (e _ _ lgx).trans p8⟩
   go_wp2
   refine wp_region_held_drew (S := fun W => (W.cell? ⟨wr.heap.size, 0, none⟩ = some (.slice (some ⟨gx, 0, none⟩) nx x.c) ∧ W.cell? ⟨wr.heap.size, 1, none⟩ = some (.int .i64 x.since) ∧ W.cell? ⟨wr.heap.size, 2, none⟩ = some (.bool x.bad) ∧ W.cell? ⟨gx, 0, none⟩ = some (.int .i64 y.p.src) ∧ W.cell? ⟨gx, 1, none⟩ = some (.int .i64 y.p.dst) ∧ W.cell? ⟨gx, 2, none⟩ = some (.int .i64 y.p.kind) ∧ W.cell? ⟨gx, 3, none⟩ = some (.int .i64 y.p.id) ∧ W.cell? ⟨gx, 4, none⟩ = some (.int .i64 y.p.hops) ∧ W.cell? ⟨gx, 5, none⟩ = some (.bool y.p.whole) ∧ W.cell? ⟨gx, 6, none⟩ = some (.int .i64 y.p.off) ∧ W.cell? ⟨gx, 7, none⟩ = some (.bool y.p.more) ∧ W.cell? ⟨gx, 8, none⟩ = some (.slice y.a y.zs.length y.c))) (by kernel_rfl) (SK.out _ ((Below.refl _ _).drew)) (fun hH => ?_)
   refine zTk 0 24 (.pointer (some ⟨w1.heap.size + 1, 0, none⟩)) rfl (fun w hS => by go_simp) hH ?_; simp only [Act.put, zX, zY, zZ]
   refine zTk 1 25 (.pointer (some ⟨wr.heap.size, 0, none⟩)) rfl (fun w hS => by go_simp) hH ?_; simp only [Act.put, zX, zY, zZ]
   refine zTk 2 26 (.slice (some ⟨gx, 0, none⟩) nx x.c) rfl (fun w hS => by obtain ⟨s0, s1, s2, q0, q1, q2, q3, q4, q5, q6, q7, q8⟩ := hS; go_simp) hH ?_; simp only [Act.put, zX, zY, zZ]
   refine zTk 3 27 (.pointer (some ⟨gx, 0, none⟩)) rfl (fun w hS => by go_simp) hH ?_; simp only [Act.put, zX, zY, zZ]
   refine zTk 4 28 (.agg #[.int .i64 y.p.src, .int .i64 y.p.dst, .int .i64 y.p.kind, .int .i64 y.p.id, .int .i64 y.p.hops, .bool y.p.whole, .int .i64 y.p.off, .bool y.p.more, .slice y.a y.zs.length y.c]) rfl (fun w hS => by obtain ⟨s0, s1, s2, q0, q1, q2, q3, q4, q5, q6, q7, q8⟩ := hS; go_simp) hH ?_; simp only [Act.put, zX, zY, zZ]
   refine zTk 7 31 (.agg #[.slice (some ⟨gx, 0, none⟩) nx x.c, .int .i64 x.since, .bool x.bad]) rfl (fun w hS => by obtain ⟨s0, s1, s2, q0, q1, q2, q3, q4, q5, q6, q7, q8⟩ := hS; go_simp) hH ?_; simp only [Act.put, zX, zY, zZ]
   refine zRd 5 (by kernel_rfl) rfl (fun K hK => ?_)
   refine step_call rfl 29 rfl 61 #[.agg #[.int .i64 y.p.src, .int .i64 y.p.dst, .int .i64 y.p.kind, .int .i64 y.p.id, .int .i64 y.p.hops, .bool y.p.whole, .int .i64 y.p.off, .bool y.p.more, .slice y.a y.zs.length y.c]] (by go_simp) ((KY.out _).mono ?_)
   rintro e w2 ⟨rfl, b2⟩
   have b2' : Below (wr.heap.size + 1) (wr.alloc (.cells #[.slice (some ⟨gx, 0, none⟩) nx x.c, .int .i64 x.since, .bool x.bad] 39)) w2 := (((Below.refl _ _).drew).trans (b2.mono (by show _ ≤ (wr.alloc _).heap.size; simp)))
   refine ⟨_, rfl, hK.out _ _ (SK.out _ b2') (fun hH => ?_)⟩
   clear hK K b2
   simp only [Act.put, zX, zY, zZ]
   refine zTk 6 30 (.agg #[.int .i64 y.p.src, .int .i64 y.p.dst, .int .i64 y.p.kind, .int .i64 y.p.id]) rfl (fun w hS => by have hfd := fld46 y.p.src y.p.dst y.p.kind y.p.id y.p.hops y.p.off y.zs.length y.p.whole y.p.more; go_simp) hH ?_; simp only [Act.put, zX, zY, zZ]
   refine zRd 8 (by kernel_rfl) rfl (fun K hK => ?_)
   have b2w : Below wr.heap.size wr w2 := (zBa _ _).trans (b2'.mono (by omega))
   refine step_call rfl 32 rfl 62 #[.agg #[.slice (some ⟨gx, 0, none⟩) nx x.c, .int .i64 x.since, .bool x.bad]] (by go_simp) ((KC.out _ b2w).mono ?_)
   rintro e w3 ⟨t, rfl, hbx, htk, hSB, hnd, b3⟩
   have hs2 : wr.heap.size < w2.heap.size := by have := b2'.size; simp at this; omega
   have b3' : Below (wr.heap.size + 1) (wr.alloc (.cells #[.slice (some ⟨gx, 0, none⟩) nx x.c, .int .i64 x.since, .bool x.bad] 39)) w3 := b2'.trans (b3.mono (by omega))
   refine ⟨_, rfl, hK.out _ _ (SK.out _ b3') (fun hH => ?_)⟩
   clear hK K
   simp only [Act.put, zX, zY, zZ]
   have b3w : Below wr.heap.size wr w3 := b2w.trans (b3.mono (by omega))
   have O3 := HO.out.below b3w
   have hsb : ∀ e ∈ es, e.b ≠ w2.heap.size := fun e he h => by have := lt_of_block (HO.out.slot e he); omega
   have F3 : Forest w3 w.heap.size ((es.map Ent.s) ++ [t]) := O3.forest.snoc hSB hnd (by omega) (fun b hb => by have := (HO.out.forest.blk b hb).2.1; omega)
   refine zRd 9 (by kernel_rfl) rfl (fun K hK => ?_)
   refine step_call rfl 33 rfl 60 #[.pointer (some ⟨w1.heap.size + 1, 0, none⟩), .agg #[.int .i64 y.p.src, .int .i64 y.p.dst, .int .i64 y.p.kind, .int .i64 y.p.id], .pointer (some ⟨w2.heap.size, 0, none⟩)] (by unfold pval; go_simp) ((putLast_any w.heap.size (w1.heap.size + 1) w1.heap.size ov now es (k4of y.p) w2.heap.size t w3 O3 KD.out hsb (by have := HE.out; omega) hbx (by omega) F3).mono ?_)
   rintro e w4 ⟨ov', rfl, O4, hOn⟩
   have b4 : Below w.heap.size w3 w4 := hOn.below O3.part O3.low
   have hkb : w4.heap[wr.heap.size]? = w3.heap[wr.heap.size]? := hOn.block _ (Nat.lt_of_lt_of_le hs2 b3.size) (fun hp => by
    rcases hp with h | h | h
    ·have := lt_of_block HO.out.box; omega
    ·have := HO.out.map_.lt; omega
    ·have := (own_lt HO.out.order _ h).2; omega)
   have S4 : (w4.cell? ⟨wr.heap.size, 0, none⟩ = some (.slice (some ⟨gx, 0, none⟩) nx x.c) ∧ w4.cell? ⟨wr.heap.size, 1, none⟩ = some (.int .i64 x.since) ∧ w4.cell? ⟨wr.heap.size, 2, none⟩ = some (.bool x.bad) ∧ w4.cell? ⟨gx, 0, none⟩ = some (.int .i64 y.p.src) ∧ w4.cell? ⟨gx, 1, none⟩ = some (.int .i64 y.p.dst) ∧ w4.cell? ⟨gx, 2, none⟩ = some (.int .i64 y.p.kind) ∧ w4.cell? ⟨gx, 3, none⟩ = some (.int .i64 y.p.id) ∧ w4.cell? ⟨gx, 4, none⟩ = some (.int .i64 y.p.hops) ∧ w4.cell? ⟨gx, 5, none⟩ = some (.bool y.p.whole) ∧ w4.cell? ⟨gx, 6, none⟩ = some (.int .i64 y.p.off) ∧ w4.cell? ⟨gx, 7, none⟩ = some (.bool y.p.more) ∧ w4.cell? ⟨gx, 8, none⟩ = some (.slice y.a y.zs.length y.c)) := by
    have h := SK.out _ b3'
    have e : ∀ o, w4.cell? ⟨gx, o, none⟩ = w3.cell? ⟨gx, o, none⟩ := fun o => b4.cell (p := ⟨gx, o, none⟩) lgw
    have e2 : ∀ o, w4.cell? ⟨wr.heap.size, o, none⟩ = w3.cell? ⟨wr.heap.size, o, none⟩ := fun o => World.cell?_of_block (w := w3) (a := ⟨wr.heap.size, o, none⟩) hkb
    obtain ⟨h0, h1, h2, h3, h4, h5, h6, h7, h8, h9, h10, h11⟩ := h
    exact ⟨(e2 0).trans h0, (e2 1).trans h1, (e2 2).trans h2, (e 0).trans h3, (e 1).trans h4, (e 2).trans h5, (e 3).trans h6, (e 4).trans h7, (e 5).trans h8, (e 6).trans h9, (e 7).trans h10, (e 8).trans h11⟩
   have OH : Hid (OpenB w4 w.heap.size (w1.heap.size + 1) w1.heap.size ov' now (es ++ [⟨k4of y.p, w2.heap.size, t⟩])) := O4
   have BH : Hid (Below w.heap.size w w4) := HW.out.trans ((b3w.mono hsz).trans b4)
   have HTK : Hid (t.key = x.key) := htk
   refine ⟨_, rfl, hK.out _ _ S4 (fun hH => ?_)⟩
   clear hK K
   refine wpAnyH_done (by kernel_rfl) ?_ _
   clear hH S4 hkb b4 O4 hOn F3 hsb O3 b3w b3' hbx htk hSB hnd b3 b2w b2' SK KC KY
   go_wp2
   go_roundw
   case rel =>
    refine ⟨k + 1, ov', es ++ [(⟨k4of y.p, w2.heap.size, t⟩ : Ent)], by omega, by go_num, (show _ = _ by rw [List.length_append, HE.out]; rfl), OH.out, (show _ = _ by rw [List.map_append, HK.out, List.take_add_one, HX.out]; simp [HTK.out]), (fun e he => ?_), BH.out⟩
    rcases List.mem_append.1 he with h1 | h1
    ·exact HG.out e h1
    ·rw [List.mem_singleton.1 h1]
     obtain ⟨u, hu, huk⟩ := first_key HTK.out.symm HY.out
     exact ⟨u, hu, by show k4of y.p = k4of u.p; rw [show u.p = y.p from congrArg Prod.fst huk]⟩
   case measure => simp [intOf]; omega
  ·obtain rfl : k = ss.length := by omega
   go_wp2
   go_ret2
   exact ⟨HW.out, Or.inr ⟨HBO.out, _, _, ov, es, rfl, HO.out, by rw [HK.out, List.take_length], HG.out⟩⟩
theorem put3_take {cur : Array Value} {o : Nat} {xs : List Value} (x0 x1 x2 : Value) (hs : o + 3 ≤ cur.size) (h : cur.toList.take o = xs) : (put3 cur o x0 x1 x2).toList.take (o + 3) = xs ++ [x0, x1, x2] := by
 have hl : xs.length = o := by rw [← h]; simp; omega
 refine List.ext_getElem? fun i => ?_
 rcases Nat.lt_or_ge i o with h1 | h1
 ·rw [List.getElem?_take_of_lt (by omega), Array.getElem?_toList, put3_far _ _ _ (Or.inl h1), List.getElem?_append_left (by omega), ← h, List.getElem?_take_of_lt h1, Array.getElem?_toList]
 ·rcases Nat.lt_or_ge i (o + 3) with h2 | h2
  ·have e : i = o + (i - o) := by omega
   rw [List.getElem?_take_of_lt h2, Array.getElem?_toList, List.getElem?_append_right (by omega), hl, e, put3_at _ _ _ hs (by omega), Nat.add_sub_cancel_left]
   simp
  ·rw [List.getElem?_eq_none (by simp; omega), List.getElem?_eq_none (by simp; omega)]
def FillS (w : World) (gS n : Nat) (ys : List SV) : Prop := ∃ cur : Array Value, w.heap[gS]? = some (.cells cur 39 (0, 0)) ∧ cur.size = n * 3 ∧ cur.toList.take (ys.length * 3) = ys.flatMap SV.cells
theorem FillS.kept {w w' : World} {gL n : Nat} {ys : List SV} (h : FillS w gL n ys) (hk : w'.heap[gL]? = w.heap[gL]?) : FillS w' gL n ys := by
 obtain ⟨cur, h1, h2⟩ := h
 exact ⟨cur, hk.trans h1, h2⟩
theorem FillS.lt {w : World} {gL n : Nat} {ys : List SV} (h : FillS w gL n ys) : gL < w.heap.size := by
 obtain ⟨cur, h1, _⟩ := h
 exact lt_of_block h1
theorem FillS.row {w : World} {gL n : Nat} {ys : List SV} (h : FillS w gL n ys) : RowB w 39 gL (ys.flatMap SV.cells) := by
 obtain ⟨cur, h1, _, h3⟩ := h
 exact ⟨cur, h1, by rw [flatS_len]; exact h3⟩
theorem FillS.put {w : World} {gL n : Nat} {ys : List SV} (h : FillS w gL n ys) (hn : ys.length < n) (z : SV) :
  FillS (((w.setCell ⟨gL, ys.length * 3, none⟩ (.slice z.a z.xs.length z.c)).setCell ⟨gL, ys.length * 3 + 1, none⟩ (.int .i64 z.since)).setCell ⟨gL, ys.length * 3 + 2, none⟩ (.bool z.bad)) gL n (ys ++ [z]) := by
 obtain ⟨cur, h1, h2, h3⟩ := h
 refine ⟨_, heap_put3 h1 _ _ _, by rw [put3_size]; exact h2, ?_⟩
 rw [List.length_append, List.flatMap_append, show (ys.length + [z].length) * 3 = ys.length * 3 + 3 by simp; omega, put3_take _ _ _ (by omega) h3]
 simp [SV.cells, scells]
theorem OpenB.keyCells {w : World} {lo ob mb : Nat} {ov : Value} {now : Int} {es : List Ent} (h : OpenB w lo ob mb ov now es) {k : Nat} {e : Ent} (he : es[k]? = some e) : ∃ g c, ov = .slice (some ⟨g, 0, none⟩) es.length c ∧ g < w.heap.size ∧ w.cell? ⟨g, k * 4, none⟩ = some (.int .i64 e.k.1) ∧ w.cell? ⟨g, k * 4 + 1, none⟩ = some (.int .i64 e.k.2.1) ∧ w.cell? ⟨g, k * 4 + 2, none⟩ = some (.int .i64 e.k.2.2.1) ∧ w.cell? ⟨g, k * 4 + 3, none⟩ = some (.int .i64 e.k.2.2.2) := by
 have hl := (List.getElem?_eq_some_iff.1 he).1
 rcases Joins.ownsRow_forms h.order with h1 | ⟨g, c, h1⟩
 ·have := h.order.1
  rcases h.order.2 with ⟨_, hn⟩ | ⟨g, cap, cur, hv, _⟩
  ·omega
  ·rw [hv] at h1; cases h1.1
 ·subst h1
  have hr := RowB.of_own h.order
  have e' : ∀ j v, j < 4 → (k4cells e.k)[j]? = some v → w.cell? ⟨g, k * 4 + j, none⟩ = some v := fun j v hj hv => hr.cell (by rw [flatK_at es k j e he hj]; exact hv)
  exact ⟨g, c, rfl, hr.lt, e' 0 _ (by omega) rfl, e' 1 _ (by omega) rfl, e' 2 _ (by omega) rfl, e' 3 _ (by omega) rfl⟩
theorem OpenB.ovForm {w : World} {lo ob mb : Nat} {ov : Value} {now : Int} {es : List Ent} (h : OpenB w lo ob mb ov now es) : ∃ oa c, ov = .slice oa es.length c := by
 rcases h.order.2 with ⟨e, hn⟩ | ⟨g, c, cur, e, _⟩
 ·exact ⟨none, 0, by rw [e, hn]⟩
 ·exact ⟨_, c, e⟩
theorem OpenB.lookup {w : World} {lo ob mb : Nat} {ov : Value} {now : Int} {es : List Ent} (h : OpenB w lo ob mb ov now es) {e : Ent} (he : e ∈ es) : ∀ u, MapIs u mb (es.map fun e => (e.k, e.b)) → (Instr.lookup 97 (.map (some mb)) (.agg #[.int .i64 e.k.1, .int .i64 e.k.2.1, .int .i64 e.k.2.2.1, .int .i64 e.k.2.2.2]) false).run Tryz.prog u = .ok (.pointer (some ⟨e.b, 0, none⟩)) u := fun u hu => by
 have h1 := lookup_k4 hu e.k
 rw [slotOf_some (List.mem_map.2 ⟨e, he, rfl⟩) (by rw [List.map_map]; exact h.keys)] at h1
 exact h1
theorem alloc_far3 (w : World) (g o k : Nat) (ob : Obj) (x0 x1 x2 : Value) (h : k ≠ g) : ((((w.setCell ⟨g, o, none⟩ x0).setCell ⟨g, o + 1, none⟩ x1).setCell ⟨g, o + 2, none⟩ x2).alloc ob).heap[k]? = (w.alloc ob).heap[k]? := by
 have hs : (((w.setCell ⟨g, o, none⟩ x0).setCell ⟨g, o + 1, none⟩ x1).setCell ⟨g, o + 2, none⟩ x2).heap.size = w.heap.size := by simp
 rcases Nat.lt_trichotomy k w.heap.size with h1 | h1 | h1
 ·rw [zHa (by omega), zHa h1, heap_far3 _ _ _ _ h]
 ·rw [heap_new _ _ _ (h1.trans hs.symm), heap_new _ _ _ h1]
 ·rw [Array.getElem?_eq_none (by simp; omega), Array.getElem?_eq_none (by simp; omega)]
set_option maxHeartbeats 6400000 in
theorem told_any (lo ob mb : Nat) (ov : Value) (now : Int) (es : List Ent) (w : World) (h : OpenB w lo ob mb ov now es) (hl : es.length ≤ 1000) :
  Calls Tryz.prog 29 #[.pointer (some ⟨ob, 0, none⟩)] w fun e w' => ∃ gS, e = .returned (.agg #[.int .i64 now, .slice (some ⟨gS, 0, none⟩) es.length es.length]) ∧ w.heap.size ≤ gS ∧ AnsB w' lo gS (es.map Ent.s) ∧ Below w.heap.size w w' := by
 obtain ⟨i0, hi0, hz0, hz1, hz2⟩ := info_parts Tryz.infoSlot
 have hmk : ∀ W : World, (Instr.makeSlice 25 (.int .i64 (es.length : Int)) (.int .i64 (es.length : Int))).run Tryz.prog W = .ok (.slice (some ⟨W.heap.size, 0, none⟩) es.length es.length) (W.alloc (.cells (madeCells (Value.agg #[.slice none 0 0, .int .i64 0, .bool false]).cells (es.length * 3)) 39)) := fun W => by
  have h := run_make (P := Tryz.prog) W 25 39 i0 _ Tryz.underlying25 hi0 hz0 .i64 .i64 (es.length : Int) (es.length : Int) (by omega) (Int.le_refl _) (by rw [hz2]; omega) (by omega)
  rw [Int.toNat_natCast, hz1] at h
  exact h
 obtain ⟨C0, hC0⟩ : ∃ C0, madeCells (Value.agg #[.slice none 0 0, .int .i64 0, .bool false]).cells (es.length * 3) = C0 := ⟨_, rfl⟩
 have hCs : C0.size = es.length * 3 := by rw [← hC0]; exact size_madeCells _ _
 rw [hC0] at hmk
 have F0 : Hid (FillS ((w.alloc (.cells #[.int .i64 0, .slice none 0 0] 27)).alloc (.cells C0 39)) (w.heap.size + 1) es.length []) := ⟨C0, heap_new _ _ _ (by simp), hCs, by simp⟩
 have H0 : Hid (OpenB w lo ob mb ov now es) := h
 have x0 : w.cell? ⟨ob, 0, none⟩ = some (.int .i64 now) := zCr h.box
 have x1 : w.cell? ⟨ob, 1, none⟩ = some ov := zCr h.box
 have x2 : w.cell? ⟨ob, 2, none⟩ = some (.map (some mb)) := zCr h.box
 have lob := lt_of_block h.box
 have hlow := h.low
 obtain ⟨oa, oc, hov⟩ := h.ovForm
 have HOV : Hid (ov = .slice oa es.length oc) := hov
 rw [hov] at x1
 clear h hi0 hz0 hz1 hz2 hC0 hCs hov
 go_enter Tryz.func29, Tryz.ntmps29
 go_wp2
 go_loopw [17] (fun i wr => ∃ (k : Nat), k ≤ es.length ∧ i = .int .i64 k ∧ Hid (FillS wr (w.heap.size + 1) es.length ((es.map Ent.s).take k)) ∧ Hid (Below w.heap.size w wr) ∧ Hid (wr.heap[w.heap.size]? = some (.cells #[.int .i64 0, .slice none 0 0] 27 (0, 0)))) (fun i _ => es.length - (intOf i).toNat)
 case atStart => exact ⟨0, by omega, rfl, F0.out, Joins.below_alloc2 _ _ _, (zHa (by simp)).trans (heap_new _ _ _ rfl)⟩
 case round =>
  obtain ⟨k, hk, rfl, HF, HW, HX⟩ := hrel
  have hsz := HW.out.size
  have lf := HF.out.lt
  have OR := H0.out.below HW.out
  by_cases hlt : k < es.length
  ·obtain ⟨e, he⟩ := get_of_lt hlt
   have hi : (k : Int) < (es.length : Int) := by omega
   obtain ⟨gk, ck, hgk, lgk, k0, k1, k2, k3⟩ := OR.keyCells he
   rw [HOV.out] at hgk
   cases hgk
   have HE : Hid (es[k]? = some e) := he
   have LK := OR.lookup (List.mem_of_getElem? he)
   have LK : Hid (∀ u, MapIs u mb (es.map fun e => (e.k, e.b)) → (Instr.lookup 97 (.map (some mb)) (.agg #[.int .i64 e.k.1, .int .i64 e.k.2.1, .int .i64 e.k.2.2.1, .int .i64 e.k.2.2.2]) false).run Tryz.prog u = .ok (.pointer (some ⟨e.b, 0, none⟩)) u) := LK
   have HSB : Hid (wr.heap[e.b]? = some e.s.box) := OR.slot e (List.mem_of_getElem? he)
   have HMB : Hid (MapIs wr mb (es.map fun e => (e.k, e.b))) := OR.map_
   have lsb : e.b < w.heap.size := lt_of_block (H0.out.slot e (List.mem_of_getElem? he))
   have lmb : mb < w.heap.size := H0.out.map_.lt
   have y2 : wr.cell? ⟨ob, 2, none⟩ = some (.map (some mb)) := (HW.out.cell (p := ⟨ob, 2, none⟩) lob).trans x2
   obtain ⟨cur, hc, hcs, -⟩ := id HF.out
   have fz : ∀ o, wr.frozen? ⟨w.heap.size + 1, o, none⟩ = false := fun o => zUf hc o
   have ce : ∀ o, wr.cell? ⟨w.heap.size + 1, o, none⟩ = cur[o]? := fun o => zCr hc
   obtain ⟨u0, h0⟩ := cells_there (cur := cur) (o := k * 3) (by omega)
   obtain ⟨u1, h1⟩ := cells_there (cur := cur) (o := k * 3 + 1) (by omega)
   obtain ⟨u2, h2⟩ := cells_there (cur := cur) (o := k * 3 + 2) (by omega)
   have q0 := (ce _).trans h0
   have q1 := (ce _).trans h1
   have q2 := (ce _).trans h2
   have SK : Hid (∀ W : World, (∀ b, b ≠ w.heap.size + 1 → b < (wr.alloc (.cells #[.int .i64 e.k.1, .int .i64 e.k.2.1, .int .i64 e.k.2.2.1, .int .i64 e.k.2.2.2] 103)).heap.size → W.heap[b]? = (wr.alloc (.cells #[.int .i64 e.k.1, .int .i64 e.k.2.1, .int .i64 e.k.2.2.1, .int .i64 e.k.2.2.2] 103)).heap[b]?) → (KeyAt W wr.heap.size e.k ∧ W.cell? ⟨ob, 2, none⟩ = some (.map (some mb)) ∧ MapIs W mb (es.map fun e => (e.k, e.b)) ∧ W.cell? ⟨e.b, 0, none⟩ = some (.slice e.s.a e.s.xs.length e.s.c) ∧ W.cell? ⟨e.b, 1, none⟩ = some (.int .i64 e.s.since) ∧ W.cell? ⟨e.b, 2, none⟩ = some (.bool e.s.bad))) := fun W hW => by
    have hs : (wr.alloc (.cells #[.int .i64 e.k.1, .int .i64 e.k.2.1, .int .i64 e.k.2.2.1, .int .i64 e.k.2.2.2] 103)).heap.size = wr.heap.size + 1 := by simp
    rw [hs] at hW
    have e1 : ∀ b, b < w.heap.size → W.heap[b]? = wr.heap[b]? := fun b hb => (hW b (by omega) (by omega)).trans (zHa (by omega))
    have hB : W.heap[e.b]? = some e.s.box := (e1 _ lsb).trans HSB.out
    refine ⟨KeyAt.of_block ((hW _ (by omega) (by omega)).trans (heap_new _ _ _ rfl)), ?_, HMB.out.kept (e1 _ lmb), zCr hB, zCr hB, zCr hB⟩
    exact (World.cell?_of_block (w := wr) (a := ⟨ob, 2, none⟩) (e1 _ lob)).trans y2
   clear h0 h1 h2 ce hc hcs he OR hmk
   go_wp2
   refine wp_region_held_drew (S := fun W => (KeyAt W wr.heap.size e.k ∧ W.cell? ⟨ob, 2, none⟩ = some (.map (some mb)) ∧ MapIs W mb (es.map fun e => (e.k, e.b)) ∧ W.cell? ⟨e.b, 0, none⟩ = some (.slice e.s.a e.s.xs.length e.s.c) ∧ W.cell? ⟨e.b, 1, none⟩ = some (.int .i64 e.s.since) ∧ W.cell? ⟨e.b, 2, none⟩ = some (.bool e.s.bad))) (by kernel_rfl) (SK.out (World.drew _) (fun b _ _ => rfl)) (fun hH => ?_)
   refine zTk 0 22 (.slice (some ⟨w.heap.size + 1, 0, none⟩) es.length es.length) rfl (fun w hS => by go_simp) hH ?_; simp only [Act.put, zX, zY, zZ]
   refine zTk 1 23 (.int .i64 k) rfl (fun w hS => by go_simp) hH ?_; simp only [Act.put, zX, zY, zZ]
   refine zTk 2 24 (.pointer (some ⟨ob, 0, none⟩)) rfl (fun w hS => by go_simp) hH ?_; simp only [Act.put, zX, zY, zZ]
   refine zTk 3 25 (.pointer (some ⟨ob, 0, none⟩)) rfl (fun w hS => by go_simp) hH ?_; simp only [Act.put, zX, zY, zZ]
   refine zTk 4 26 (.pointer (some ⟨ob, 2, none⟩)) rfl (fun w hS => by go_simp) hH ?_; simp only [Act.put, zX, zY, zZ]
   refine zTk 5 27 (.map (some mb)) rfl (fun w hS => by obtain ⟨⟨s0, s1, s2, s3⟩, s4, s5, s6, s7, s8⟩ := hS; go_simp) hH ?_; simp only [Act.put, zX, zY, zZ]
   refine zTk 6 28 (.agg #[.int .i64 e.k.1, .int .i64 e.k.2.1, .int .i64 e.k.2.2.1, .int .i64 e.k.2.2.2]) rfl (fun w hS => by obtain ⟨⟨s0, s1, s2, s3⟩, s4, s5, s6, s7, s8⟩ := hS; go_simp) hH ?_; simp only [Act.put, zX, zY, zZ]
   refine zTk 7 29 (.pointer (some ⟨e.b, 0, none⟩)) rfl (fun w hS => by obtain ⟨⟨s0, s1, s2, s3⟩, s4, s5, s6, s7, s8⟩ := hS; have hlk := LK.out w s5; go_simp) hH ?_; simp only [Act.put, zX, zY, zZ]
   refine zTk 8 30 (.pointer (some ⟨e.b, 0, none⟩)) rfl (fun w hS => by go_simp) hH ?_; simp only [Act.put, zX, zY, zZ]
   refine zTk 9 31 (.agg #[.slice e.s.a e.s.xs.length e.s.c, .int .i64 e.s.since, .bool e.s.bad]) rfl (fun w hS => by obtain ⟨⟨s0, s1, s2, s3⟩, s4, s5, s6, s7, s8⟩ := hS; go_simp) hH ?_; simp only [Act.put, zX, zY, zZ]
   refine zTk 10 32 (.pointer (some ⟨w.heap.size + 1, k * 3, none⟩)) rfl (fun w hS => by go_simp) hH ?_; simp only [Act.put, zX, zY, zZ]
   refine zRd 11 (by kernel_rfl) rfl (fun K hK => ?_)
   go_simp
   refine hK.out _ _ (SK.out _ (fun b hb _ => alloc_far3 wr (w.heap.size + 1) (k * 3) b _ _ _ _ hb)) (fun hH => ?_)
   clear hK K
   refine wpAnyH_done (by kernel_rfl) ?_ _
   have hll : ((es.map Ent.s).take k).length = k := by simp; omega
   have F1 := HF.out.put (by omega) e.s
   rw [hll] at F1
   have HB1 : Below w.heap.size w (((wr.setCell ⟨w.heap.size + 1, k * 3, none⟩ (.slice e.s.a e.s.xs.length e.s.c)).setCell ⟨w.heap.size + 1, k * 3 + 1, none⟩ (.int .i64 e.s.since)).setCell ⟨w.heap.size + 1, k * 3 + 2, none⟩ (.bool e.s.bad)) := below_far3 HW.out (by omega) _ _ _
   have HX1 : (((wr.setCell ⟨w.heap.size + 1, k * 3, none⟩ (.slice e.s.a e.s.xs.length e.s.c)).setCell ⟨w.heap.size + 1, k * 3 + 1, none⟩ (.int .i64 e.s.since)).setCell ⟨w.heap.size + 1, k * 3 + 2, none⟩ (.bool e.s.bad)).heap[w.heap.size]? = some (.cells #[.int .i64 0, .slice none 0 0] 27 (0, 0)) := (heap_far3 _ _ _ _ (by omega) _ _ _).trans HX.out
   clear hH SK q0 q1 q2 k0 k1 k2 k3 fz
   generalize ((wr.setCell ⟨w.heap.size + 1, k * 3, none⟩ (.slice e.s.a e.s.xs.length e.s.c)).setCell ⟨w.heap.size + 1, k * 3 + 1, none⟩ (.int .i64 e.s.since)).setCell ⟨w.heap.size + 1, k * 3 + 2, none⟩ (.bool e.s.bad) = w2 at F1 HB1 HX1 ⊢
   have F2 : Hid (FillS w2 (w.heap.size + 1) es.length ((es.map Ent.s).take (k + 1))) := (show FillS _ _ _ _ by rw [List.take_add_one, List.getElem?_map, HE.out]; exact F1)
   have HB2 : Hid (Below w.heap.size w w2) := HB1
   have HX2 : Hid (w2.heap[w.heap.size]? = some (.cells #[.int .i64 0, .slice none 0 0] 27 (0, 0))) := HX1
   clear F1 HB1 HX1 hll
   go_wp2
   go_roundw
   case rel => exact ⟨k + 1, by omega, by go_num, F2.out.kept (zHa F2.out.lt), (HB2.out.alloc HB2.out.size _).drew, (zHa (lt_of_block HX2.out)).trans HX2.out⟩
   case measure => simp [intOf]; omega
  ·obtain rfl : k = es.length := by omega
   have FE : Hid (FillS wr (w.heap.size + 1) es.length (es.map Ent.s)) := (by have h := HF.out; rw [List.take_of_length_le (by simp)] at h; exact h)
   have y0 : wr.cell? ⟨ob, 0, none⟩ = some (.int .i64 now) := (HW.out.cell (p := ⟨ob, 0, none⟩) lob).trans x0
   have r0 : wr.cell? ⟨w.heap.size, 0, none⟩ = some (.int .i64 0) := zCr HX.out
   have r1 : wr.cell? ⟨w.heap.size, 1, none⟩ = some (.slice none 0 0) := zCr HX.out
   have fz : ∀ o, wr.frozen? ⟨w.heap.size, o, none⟩ = false := fun o => zUf HX.out o
   have HF2 : Hid (Forest wr lo (es.map Ent.s)) := OR.forest
   clear HF OR
   go_wp2
   refine bodyPost_ret (v := .agg #[.int .i64 now, .slice (some ⟨w.heap.size + 1, 0, none⟩) es.length es.length]) (by simp [results, Tryz.results29, go_sem, r0, r1]) rfl ⟨w.heap.size + 1, rfl, by omega, ⟨by omega, FE.out.row.kept ((zHs (by simp)).trans (zHs (by simp))), HF2.out.kept fun b hb => ?_⟩, Below.setCell (Below.setCell HW.out (Nat.le_refl _) _) (Nat.le_refl _) _⟩
   have hbl := (H0.out.forest.blk b hb).2.1
   exact (zHs (by simp only; omega)).trans (zHs (by simp only; omega))
end Go.Proofs.YtjbkgmbakjnlhaaGreatDoor
