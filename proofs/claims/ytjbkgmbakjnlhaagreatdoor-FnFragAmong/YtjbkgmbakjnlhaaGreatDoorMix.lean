import Derived.Test.YtjbkgmbakjnlhaaGreatDoorCutTwo
import Derived.Test.YtjbkgmbakjnlhaaGreatDoorPartAb
import Derived.Deep.WholeRow
namespace Go.Proofs.YtjbkgmbakjnlhaaGreatDoor
set_option maxRecDepth 100000
open Go.RowKit
theorem PL.src_takeI {w : World} {lo g c i : Nat} {ps : List PV} (h : PL w lo (.slice (some ⟨g, 0, none⟩) i c) ps) (hi : ps.length = i) (k : Nat) : ∀ j u, ((ps.take k).flatMap PV.cells)[j]? = some u → w.cell? ((Addr.mk g 0 none).add j) = some u := by
 subst hi
 exact h.src_take k
theorem PL.src_dropI {w : World} {lo g c i : Nat} {ps : List PV} (h : PL w lo (.slice (some ⟨g, 0, none⟩) i c) ps) (hi : ps.length = i) (k : Nat) : ∀ j u, ((ps.drop k).flatMap PV.cells)[j]? = some u → w.cell? ((Addr.mk g (k * 9) none).add j) = some u := by
 subst hi
 exact h.src_drop k
theorem PL.elemI {w : World} {lo g c n k : Nat} {ps : List PV} {y : PV} (h : PL w lo (.slice (some ⟨g, 0, none⟩) n c) ps) (hn : ps.length = n) (hy : ps[k]? = some y) : Elem w g k y := by
 subst hn
 exact h.elem hy
theorem nine_at {w : World} {ge : Nat} {y : PV} (h : w.heap[ge]? = some (.cells (pcells y.p (.slice (some ⟨y.g, 0, none⟩) y.zs.length y.c)) 29 (0, 0))) : ∀ j u, (PV.cells y)[j]? = some u → w.cell? ((Addr.mk ge 0 none).add j) = some u := by
 intro j u hu
 rw [add_none, Nat.zero_add, zCr h]
 simpa [PV.cells, PV.data] using hu
theorem own_raise {w : World} {lo B e size n m c gq : Nat} {xs : List Value} (h : w.ownsRow lo e size (.slice (some ⟨gq, 0, none⟩) m c) n xs) (hb : B ≤ gq) : w.ownsRow B e size (.slice (some ⟨gq, 0, none⟩) m c) n xs := by
 refine ⟨h.1, h.2.imp id ?_⟩
 rintro ⟨g, cap, cur, hv, _, r⟩
 refine ⟨g, cap, cur, hv, ?_, r⟩
 cases hv
 exact hb
theorem mix_mem {qs ps : List PV} {y : PV} {i : Nat} (h : ∀ z, z ∈ qs ↔ z ∈ ps.take i) (hy : ps[i]? = some y) (k : Nat) : ∀ z, z ∈ qs.take k ++ [y] ++ qs.drop k ↔ z ∈ ps.take (i + 1) := by
 intro z
 rw [List.take_add_one, hy]
 have e : z ∈ qs ↔ z ∈ qs.take k ∨ z ∈ qs.drop k := by rw [← List.mem_append, List.take_append_drop]
 have hz := h z
 simp only [List.mem_append, List.mem_singleton, Option.toList_some]
 rw [← hz, e]
 constructor
 ·rintro ((a | a) | a)
  ·exact Or.inl (Or.inl a)
  ·exact Or.inr a
  ·exact Or.inl (Or.inr a)
 ·rintro ((a | a) | a)
  ·exact Or.inl (Or.inl a)
  ·exact Or.inr a
  ·exact Or.inl (Or.inr a)
theorem mix_pl {w1 w9 : World} {lo gq cq i g c n gc cc k : Nat} {qs ps : List PV} {y : PV} (hq : PL w1 lo (.slice (some ⟨gq, 0, none⟩) i cq) qs) (hp : PL w1 lo (.slice (some ⟨g, 0, none⟩) n c) ps) (hi : qs.length = i) (hy : y ∈ ps) (hk : k ≤ i) (hb : Below w1.heap.size w1 w9) (hs : lo ≤ w1.heap.size)
  (ho : w9.ownsRow w1.heap.size 29 9 (.slice (some ⟨gc, 0, none⟩) (i + 1) cc) (i + 1) ((qs.take k).flatMap PV.cells ++ PV.cells y ++ (qs.drop k).flatMap PV.cells)) :
  PL w9 lo (.slice (some ⟨gc, 0, none⟩) (i + 1) cc) (qs.take k ++ [y] ++ qs.drop k) := by
 refine ⟨?_, fun x hx => ?_⟩
 ·have e : (qs.take k ++ [y] ++ qs.drop k).length = i + 1 := by simp; omega
  rw [e, List.flatMap_append, List.flatMap_append]
  simpa using Joins.ownsRow_le ho hs
 ·have hx' : x.own w1 lo := by
   rcases List.mem_append.1 hx with h | h
   ·rcases List.mem_append.1 h with h | h
    ·exact hq.each x (List.mem_of_mem_take h)
    ·rw [List.mem_singleton.1 h]; exact hp.each y hy
   ·exact hq.each x (List.mem_of_mem_drop h)
  exact own_below hx' hb
set_option maxHeartbeats 12800000 in
theorem l5Mix_any (rb N lo g c n : Nat) (ps : List PV) (w : World) (hn : ps.length = n) (hR : Rdr w rb N) (hN : N ≤ 880000) (hP : PL w lo (.slice (some ⟨g, 0, none⟩) n c) ps) (hlo : rb < lo) (hs : lo ≤ w.heap.size) (hl : n ≤ 3000) :
  Calls Tryz.prog 51 #[.pointer (some ⟨rb, 0, none⟩), .slice (some ⟨g, 0, none⟩) n c] w fun e w' => ∃ (gq cq : Nat) (qs : List PV), e = .returned (.slice (some ⟨gq, 0, none⟩) qs.length cq) ∧ PL w' lo (.slice (some ⟨gq, 0, none⟩) qs.length cq) qs ∧ (∀ y ∈ qs, y ∈ ps) ∧ (∀ y ∈ ps, y ∈ qs) ∧ qs.length ≤ n + 3 ∧ Rdr w' rb (N + n + 4) ∧ w.grownBy w' (some rb) := by
 have hrl := hR.lt
 have HN : Hid (ps.length = n) := hn
 have P0 : Hid (PL w lo (.slice (some ⟨g, 0, none⟩) n c) ps) := hP
 have R0 : Hid (Rdr w rb N) := hR
 have Q0 : Hid (PL (w.alloc (.cells #[] 29)) lo (.slice (some ⟨w.heap.size, 0, none⟩) 0 0) []) := PL.nil w _ _ rfl hs
 obtain ⟨ti, hti, hy0, hy1, hy2⟩ := info_parts Tryz.info29
 clear hP hR hn
 go_enter Tryz.func51, Tryz.ntmps51
 go_wp2
 go_loopw [5, 6] (fun v ix wr => ∃ (i gq cq : Nat) (qs : List PV), i ≤ n ∧ ix = .int .i64 i ∧ v = .slice (some ⟨gq, 0, none⟩) i cq ∧ w.heap.size ≤ gq ∧ Hid (qs.length = i) ∧ Hid (PL wr lo (.slice (some ⟨gq, 0, none⟩) i cq) qs) ∧ Hid (PL wr lo (.slice (some ⟨g, 0, none⟩) n c) ps) ∧ Hid (∀ y, y ∈ qs ↔ y ∈ ps.take i) ∧ Hid (Rdr wr rb (N + i)) ∧ Hid (w.grownBy wr (some rb))) (fun _ ix _ => n - (intOf ix).toNat)
 case atStart => exact ⟨0, w.heap.size, 0, [], by omega, rfl, rfl, Nat.le_refl _, rfl, Q0.out, P0.out.below (zBa _ _), (fun y => by simp), R0.out.below (zBa _ _), grown_alloc _ _ _⟩
 case round =>
  obtain ⟨i, gq, cq, qs, hin, rfl, rfl, hgq, HQL, QH0, PH0, HM, RH0, GH0⟩ := hrel
  by_cases hlt : i < n
  ·have hii : (i : Int) < (n : Int) := by omega
   go_wp2_with fail
   refine (pick_any rb (N + i) ((i : Int) + 1) _ RH0.out (by omega) (by omega) (by omega)).mono ?_
   rintro e w1 ⟨ki, rfl, k0, k1, -, R1, G⟩
   obtain ⟨k, rfl⟩ := Int.eq_ofNat_of_zero_le k0
   have hki : k ≤ i := by have := k1 (by omega); omega
   have QH : Hid (PL w1 lo (.slice (some ⟨gq, 0, none⟩) i cq) qs) := QH0.out.grown G hlo
   have PH : Hid (PL w1 lo (.slice (some ⟨g, 0, none⟩) n c) ps) := PH0.out.grown G hlo
   have GH : Hid (w.grownBy w1 (some rb)) := grown_trans GH0.out G
   have RH : Hid (Rdr w1 rb (N + (i + 1))) := R1.mono (by omega)
   have hs1 := GH.out.size
   have hcap : i ≤ cq ∧ cq ≤ 9223372036854775807 := own_caps (by have h := QH.out.row; rw [HQL.out] at h; exact h)
   obtain ⟨y, hy⟩ := get_of_lt (show i < ps.length by rw [HN.out]; omega)
   have HY : Hid (ps[i]? = some y) := hy
   obtain ⟨c0, c1, c2, c3, c4, c5, c6, c7, c8⟩ := id (PH.out.elemI HN.out hy)
   have hgL : g < w1.heap.size := (own_lt PH.out.row g rfl).2
   have KW : Hid (∀ W : World, Below w1.heap.size w1 W → W.cell? ⟨g, i * 9, none⟩ = some (.int .i64 y.p.src) ∧ W.cell? ⟨g, i * 9 + 1, none⟩ = some (.int .i64 y.p.dst) ∧ W.cell? ⟨g, i * 9 + 2, none⟩ = some (.int .i64 y.p.kind) ∧ W.cell? ⟨g, i * 9 + 3, none⟩ = some (.int .i64 y.p.id) ∧ W.cell? ⟨g, i * 9 + 4, none⟩ = some (.int .i64 y.p.hops) ∧ W.cell? ⟨g, i * 9 + 5, none⟩ = some (.bool y.p.whole) ∧ W.cell? ⟨g, i * 9 + 6, none⟩ = some (.int .i64 y.p.off) ∧ W.cell? ⟨g, i * 9 + 7, none⟩ = some (.bool y.p.more) ∧ W.cell? ⟨g, i * 9 + 8, none⟩ = some (.slice (some ⟨y.g, 0, none⟩) y.zs.length y.c)) := fun W h =>
    have e : ∀ o, W.cell? ⟨g, o, none⟩ = w1.cell? ⟨g, o, none⟩ := fun o => h.cell (p := ⟨g, o, none⟩) hgL
    ⟨(e _).trans c0, (e _).trans c1, (e _).trans c2, (e _).trans c3, (e _).trans c4, (e _).trans c5, (e _).trans c6, (e _).trans c7, (e _).trans c8⟩
   have FT : Hid (∀ k, k ≤ i → ((qs.take k).flatMap PV.cells).length = k * 9) := fun k hk => flat_take_len qs k (by rw [HQL.out]; exact hk)
   have FD : Hid (∀ k, ((qs.drop k).flatMap PV.cells).length = (i - k) * 9) := fun k => by
    have h := flat_drop_len qs k
    rw [HQL.out] at h
    exact h
   have i1 : (k : Int) ≤ (i : Int) := by omega
   have i2 : (i : Int) ≤ (cq : Int) := by omega
   have i3 : (k : Int) ≤ (cq : Int) := by omega
   have i4 : (0 : Int) ≤ (k : Int) := by omega
   clear hy G R1 QH0 PH0 RH0 GH0 k1 c0 c1 c2 c3 c4 c5 c6 c7 c8
   by_cases hcs : cq = k
   ·subst hcs
    go_wp2
    refine wp_region_held_drew (S := (fun w' => w'.cell? ⟨g, i * 9, none⟩ = some (.int .i64 y.p.src) ∧ w'.cell? ⟨g, i * 9 + 1, none⟩ = some (.int .i64 y.p.dst) ∧ w'.cell? ⟨g, i * 9 + 2, none⟩ = some (.int .i64 y.p.kind) ∧ w'.cell? ⟨g, i * 9 + 3, none⟩ = some (.int .i64 y.p.id) ∧ w'.cell? ⟨g, i * 9 + 4, none⟩ = some (.int .i64 y.p.hops) ∧ w'.cell? ⟨g, i * 9 + 5, none⟩ = some (.bool y.p.whole) ∧ w'.cell? ⟨g, i * 9 + 6, none⟩ = some (.int .i64 y.p.off) ∧ w'.cell? ⟨g, i * 9 + 7, none⟩ = some (.bool y.p.more) ∧ w'.cell? ⟨g, i * 9 + 8, none⟩ = some (.slice (some ⟨y.g, 0, none⟩) y.zs.length y.c))) (by kernel_rfl) (KW.out _ (draw1 _)) (fun hH => ?_)
    refine zTk 1 22 (.slice (some ⟨gq, 0, none⟩) i cq) rfl (fun w hS => by obtain ⟨s0, s1, s2, s3, s4, s5, s6, s7, s8⟩ := hS; go_simp) hH ?_; simp only [Act.put, zX, zY, zZ]
    refine zTk 2 23 (.int .i64 cq) rfl (fun w hS => by obtain ⟨s0, s1, s2, s3, s4, s5, s6, s7, s8⟩ := hS; go_simp) hH ?_; simp only [Act.put, zX, zY, zZ]
    refine zTk 3 24 (.slice (some ⟨gq, 0, none⟩) cq cq) rfl (fun w hS => by obtain ⟨s0, s1, s2, s3, s4, s5, s6, s7, s8⟩ := hS; go_simp) hH ?_; simp only [Act.put, zX, zY, zZ]
    refine zTk 5 26 (.slice (some ⟨g, 0, none⟩) n c) rfl (fun w hS => by obtain ⟨s0, s1, s2, s3, s4, s5, s6, s7, s8⟩ := hS; go_simp) hH ?_; simp only [Act.put, zX, zY, zZ]
    refine zTk 6 27 (.int .i64 i) rfl (fun w hS => by obtain ⟨s0, s1, s2, s3, s4, s5, s6, s7, s8⟩ := hS; go_simp) hH ?_; simp only [Act.put, zX, zY, zZ]
    refine zTk 7 28 (.pointer (some ⟨g, i * 9, none⟩)) rfl (fun w hS => by obtain ⟨s0, s1, s2, s3, s4, s5, s6, s7, s8⟩ := hS; go_simp) hH ?_; simp only [Act.put, zX, zY, zZ]
    refine zTk 8 29 (.agg #[.int .i64 y.p.src, .int .i64 y.p.dst, .int .i64 y.p.kind, .int .i64 y.p.id, .int .i64 y.p.hops, .bool y.p.whole, .int .i64 y.p.off, .bool y.p.more, .slice (some ⟨y.g, 0, none⟩) y.zs.length y.c]) rfl (fun w hS => by obtain ⟨s0, s1, s2, s3, s4, s5, s6, s7, s8⟩ := hS; go_simp) hH ?_; simp only [Act.put, zX, zY, zZ]
    refine zTk 11 32 (.slice (some ⟨gq, 0, none⟩) i cq) rfl (fun w hS => by obtain ⟨s0, s1, s2, s3, s4, s5, s6, s7, s8⟩ := hS; go_simp) hH ?_; simp only [Act.put, zX, zY, zZ]
    refine zTk 12 33 (.int .i64 cq) rfl (fun w hS => by obtain ⟨s0, s1, s2, s3, s4, s5, s6, s7, s8⟩ := hS; go_simp) hH ?_; simp only [Act.put, zX, zY, zZ]
    refine zTk 13 34 (.slice (some ⟨gq, 0, none⟩) 0 0) rfl (fun w hS => by obtain ⟨s0, s1, s2, s3, s4, s5, s6, s7, s8⟩ := hS; go_simp) hH ?_; simp only [Act.put, zX, zY, zZ]
    refine wpAnyH_ready (rs := [0, 9]) (by kernel_rfl) (by simp) ?_
    refine AllReadyH.cons rfl (fun K hK => ?_) (AllReadyH.cons rfl (fun K hK => ?_) AllReadyH.nil)
    ·go_simp
     refine hK.out _ _ (KW.out _ ((zBa w1 (.cells #[] 29)).drew)) (fun hH => ?_)
     clear hK K
     refine wpAnyH_ready (rs := [4, 9]) (by kernel_rfl) (by simp) ?_
     refine AllReadyH.cons rfl (fun K hK => ?_) (AllReadyH.cons rfl (fun K hK => ?_) AllReadyH.nil)
     ·refine step_append_d rfl (some 25) rfl (.tmp 21) (.tmp 24) 23 rfl w1.heap.size 29 ti _ 9 88 Tryz.underlying23 hti hy0 hy1 hy2 rfl (by decide) (.slice (some ⟨w1.heap.size, 0, none⟩) 0 0) 0 [] rfl ?_ ⟨gq, 0, none⟩ cq cq ((qs.take cq).flatMap PV.cells) rfl (FT.out cq hki) ?_ (flat_one _) (by unfold maxLen; omega) (by omega) ?_ ?_
      ·exact (PL.nil w1 _ _ rfl (Nat.le_refl _)).row
      ·exact (QH.out.below ((zBa w1 (.cells #[] 29)).drew)).src_takeI HQL.out cq
      ·exact Nat.le_trans (Nat.le_refl _) (((zBa w1 (.cells #[] 29)).drew)).size
      intro v1 w7 ho7 hg7 hn7
      rw [Nat.zero_add, List.nil_append] at ho7
      obtain ⟨ga, ca, rfl⟩ : ∃ ga ca, v1 = .slice (some ⟨ga, 0, none⟩) cq ca := form_of ho7 (fun e => nomatch (hn7.1 e).1)
      have b7 : Below w1.heap.size w1 w7 := (((zBa w1 (.cells #[] 29)).drew)).grown hg7 (((zBa w1 (.cells #[] 29)).drew)).size (fun j hj => by cases hj; exact Nat.le_refl _)
      refine hK.out _ _ (KW.out _ b7) (fun hH => ?_)
      clear hK K
      simp only [Act.put, zX, zY, zZ]
      refine zRd 9 (by kernel_rfl) rfl (fun K hK => ?_)
      go_simp
      refine hK.out _ _ (KW.out _ (b7.alloc b7.size _)) (fun hH => ?_)
      clear hK K
      have OA : (w7.alloc (.cells (pcells y.p (.slice (some ⟨y.g, 0, none⟩) y.zs.length y.c)) 29)).ownsRow w1.heap.size 29 9 (.slice (some ⟨ga, 0, none⟩) cq ca) cq ((qs.take cq).flatMap PV.cells) := ho7.alloc _
      have CA := nine_at (w := w7.alloc (.cells (pcells y.p (.slice (some ⟨y.g, 0, none⟩) y.zs.length y.c)) 29)) (y := y) (heap_new _ _ _ rfl)
      have BAA : Below w1.heap.size w1 (w7.alloc (.cells (pcells y.p (.slice (some ⟨y.g, 0, none⟩) y.zs.length y.c)) 29)) := b7.alloc b7.size _
      refine zRd 10 (by kernel_rfl) rfl (fun K hK => ?_)
      refine step_append_d rfl (some 31) rfl (.tmp 25) (.tmp 30) 23 rfl w1.heap.size 29 ti _ 9 88 Tryz.underlying23 hti hy0 hy1 hy2 rfl (by decide) (.slice (some ⟨ga, 0, none⟩) cq ca) cq ((qs.take cq).flatMap PV.cells) rfl OA ⟨w7.heap.size, 0, none⟩ 1 1 (PV.cells y) rfl rfl CA (nine_one _ _ _ _) (by unfold maxLen; omega) (by omega) (BAA).size ?_
      intro v2 w8 ho8 hg8 hn8
      obtain ⟨gb, cb, rfl⟩ : ∃ gb cb, v2 = .slice (some ⟨gb, 0, none⟩) (cq + 1) cb := form_of ho8 (fun e => nomatch (hn8.1 e).1)
      have b8 : Below w1.heap.size w1 w8 := (BAA).grown hg8 (BAA).size (fun j hj => (own_lt OA j hj).1)
      refine hK.out _ _ (KW.out _ b8) (fun hH => ?_)
      clear hK K
      simp only [Act.put, zX, zY, zZ]
      refine zRd 14 (by kernel_rfl) rfl (fun K hK => ?_)
      refine step_append_d rfl (some 35) rfl (.tmp 31) (.tmp 34) 23 rfl w1.heap.size 29 ti _ 9 88 Tryz.underlying23 hti hy0 hy1 hy2 rfl (by decide) (.slice (some ⟨gb, 0, none⟩) (cq + 1) cb) (cq + 1) ((qs.take cq).flatMap PV.cells ++ PV.cells y) rfl ho8 ⟨gq, 0, none⟩ 0 0 ([] : List Value) rfl rfl (fun j u h => nomatch h) (fun u h => nomatch h) (by unfold maxLen; omega) (by omega) b8.size ?_
      intro v3 w9 ho9 hg9 hn9
      obtain ⟨gc, cc, rfl⟩ : ∃ gc cc, v3 = .slice (some ⟨gc, 0, none⟩) (cq + 1 + 0) cc := form_of ho9 (fun e => nomatch (hn9.1 e).1)
      have b9 : Below w1.heap.size w1 w9 := b8.grown hg9 b8.size (fun j hj => (own_lt ho8 j hj).1)
      refine hK.out _ _ (KW.out _ b9) (fun hH => ?_)
      clear hK K
      simp only [Act.put, zX, zY, zZ]
      refine zTk 15 5 (.slice (some ⟨gc, 0, none⟩) (cq + 1 + 0) cc) rfl (fun w hS => by obtain ⟨s0, s1, s2, s3, s4, s5, s6, s7, s8⟩ := hS; go_simp) hH ?_; simp only [Act.put, zX, zY, zZ]
      refine wpAnyH_done (by kernel_rfl) ?_ _
      have RQ : Hid (PL w9 lo (.slice (some ⟨gc, 0, none⟩) (i + 1) cc) (qs.take cq ++ [y] ++ qs.drop cq)) := mix_pl QH.out PH.out HQL.out (List.mem_of_getElem? HY.out) hki b9 (by omega) (by have h := ho9; rw [show cq + 1 + 0 = i + 1 by omega] at h; rw [List.drop_eq_nil_of_le (by rw [HQL.out]; omega)]; exact h)
      have EV : Hid (Value.slice (some ⟨gc, 0, none⟩) (cq + 1 + 0) cc = .slice (some ⟨gc, 0, none⟩) (i + 1) cc) := (show _ = _ by rw [show cq + 1 + 0 = i + 1 by omega])
      go_wp2
      go_roundw
      case rel => exact ⟨i + 1, gc, cc, qs.take cq ++ [y] ++ qs.drop cq, by omega, by go_num, EV.out, Nat.le_trans hs1 (own_lt ho9 gc rfl).1, (show _ = _ by have := HQL.out; simp; omega), RQ.out, PH.out.below b9, mix_mem HM.out HY.out cq, RH.out.upto b9 (by omega), grown_b GH.out b9 hs1⟩
      case measure => simp [intOf]; omega
     ·go_simp
      refine hK.out _ _ (KW.out _ ((Joins.below_alloc2 w1 (.cells #[] 29) (.cells (pcells y.p (.slice (some ⟨y.g, 0, none⟩) y.zs.length y.c)) 29)).drew)) (fun hH => ?_)
      clear hK K
      refine zRd 4 (by kernel_rfl) rfl (fun K hK => ?_)
      refine step_append_d rfl (some 25) rfl (.tmp 21) (.tmp 24) 23 rfl w1.heap.size 29 ti _ 9 88 Tryz.underlying23 hti hy0 hy1 hy2 rfl (by decide) (.slice (some ⟨w1.heap.size, 0, none⟩) 0 0) 0 [] rfl ?_ ⟨gq, 0, none⟩ cq cq ((qs.take cq).flatMap PV.cells) rfl (FT.out cq hki) ?_ (flat_one _) (by unfold maxLen; omega) (by omega) ?_ ?_
      ·exact (((PL.nil w1 _ w1.heap.size rfl (Nat.le_refl _)).below (zBa _ (.cells (pcells y.p (.slice (some ⟨y.g, 0, none⟩) y.zs.length y.c)) 29))).below (draw1 _)).row
      ·exact (QH.out.below ((Joins.below_alloc2 w1 (.cells #[] 29) (.cells (pcells y.p (.slice (some ⟨y.g, 0, none⟩) y.zs.length y.c)) 29)).drew)).src_takeI HQL.out cq
      ·exact Nat.le_trans (Nat.le_refl _) (((Joins.below_alloc2 w1 (.cells #[] 29) (.cells (pcells y.p (.slice (some ⟨y.g, 0, none⟩) y.zs.length y.c)) 29)).drew)).size
      intro v1 w7 ho7 hg7 hn7
      rw [Nat.zero_add, List.nil_append] at ho7
      obtain ⟨ga, ca, rfl⟩ : ∃ ga ca, v1 = .slice (some ⟨ga, 0, none⟩) cq ca := form_of ho7 (fun e => nomatch (hn7.1 e).1)
      have b7 : Below w1.heap.size w1 w7 := (((Joins.below_alloc2 w1 (.cells #[] 29) (.cells (pcells y.p (.slice (some ⟨y.g, 0, none⟩) y.zs.length y.c)) 29)).drew)).grown hg7 (((Joins.below_alloc2 w1 (.cells #[] 29) (.cells (pcells y.p (.slice (some ⟨y.g, 0, none⟩) y.zs.length y.c)) 29)).drew)).size (fun j hj => by cases hj; exact Nat.le_refl _)
      refine hK.out _ _ (KW.out _ b7) (fun hH => ?_)
      clear hK K
      simp only [Act.put, zX, zY, zZ]
      have CB := nine_at (w := w7) (ge := w1.heap.size + 1) (y := y) ((hg7.block _ (by simp) (fun e => by have e' : w1.heap.size + 1 = w1.heap.size := Option.some.inj e; omega)).trans (heap_new _ _ _ (by simp)))
      refine zRd 10 (by kernel_rfl) rfl (fun K hK => ?_)
      refine step_append_d rfl (some 31) rfl (.tmp 25) (.tmp 30) 23 rfl w1.heap.size 29 ti _ 9 88 Tryz.underlying23 hti hy0 hy1 hy2 rfl (by decide) (.slice (some ⟨ga, 0, none⟩) cq ca) cq ((qs.take cq).flatMap PV.cells) rfl ho7 ⟨w1.heap.size + 1, 0, none⟩ 1 1 (PV.cells y) rfl rfl CB (nine_one _ _ _ _) (by unfold maxLen; omega) (by omega) (b7).size ?_
      intro v2 w8 ho8 hg8 hn8
      obtain ⟨gb, cb, rfl⟩ : ∃ gb cb, v2 = .slice (some ⟨gb, 0, none⟩) (cq + 1) cb := form_of ho8 (fun e => nomatch (hn8.1 e).1)
      have b8 : Below w1.heap.size w1 w8 := (b7).grown hg8 (b7).size (fun j hj => (own_lt ho7 j hj).1)
      refine hK.out _ _ (KW.out _ b8) (fun hH => ?_)
      clear hK K
      simp only [Act.put, zX, zY, zZ]
      refine zRd 14 (by kernel_rfl) rfl (fun K hK => ?_)
      refine step_append_d rfl (some 35) rfl (.tmp 31) (.tmp 34) 23 rfl w1.heap.size 29 ti _ 9 88 Tryz.underlying23 hti hy0 hy1 hy2 rfl (by decide) (.slice (some ⟨gb, 0, none⟩) (cq + 1) cb) (cq + 1) ((qs.take cq).flatMap PV.cells ++ PV.cells y) rfl ho8 ⟨gq, 0, none⟩ 0 0 ([] : List Value) rfl rfl (fun j u h => nomatch h) (fun u h => nomatch h) (by unfold maxLen; omega) (by omega) b8.size ?_
      intro v3 w9 ho9 hg9 hn9
      obtain ⟨gc, cc, rfl⟩ : ∃ gc cc, v3 = .slice (some ⟨gc, 0, none⟩) (cq + 1 + 0) cc := form_of ho9 (fun e => nomatch (hn9.1 e).1)
      have b9 : Below w1.heap.size w1 w9 := b8.grown hg9 b8.size (fun j hj => (own_lt ho8 j hj).1)
      refine hK.out _ _ (KW.out _ b9) (fun hH => ?_)
      clear hK K
      simp only [Act.put, zX, zY, zZ]
      refine zTk 15 5 (.slice (some ⟨gc, 0, none⟩) (cq + 1 + 0) cc) rfl (fun w hS => by obtain ⟨s0, s1, s2, s3, s4, s5, s6, s7, s8⟩ := hS; go_simp) hH ?_; simp only [Act.put, zX, zY, zZ]
      refine wpAnyH_done (by kernel_rfl) ?_ _
      have RQ : Hid (PL w9 lo (.slice (some ⟨gc, 0, none⟩) (i + 1) cc) (qs.take cq ++ [y] ++ qs.drop cq)) := mix_pl QH.out PH.out HQL.out (List.mem_of_getElem? HY.out) hki b9 (by omega) (by have h := ho9; rw [show cq + 1 + 0 = i + 1 by omega] at h; rw [List.drop_eq_nil_of_le (by rw [HQL.out]; omega)]; exact h)
      have EV : Hid (Value.slice (some ⟨gc, 0, none⟩) (cq + 1 + 0) cc = .slice (some ⟨gc, 0, none⟩) (i + 1) cc) := (show _ = _ by rw [show cq + 1 + 0 = i + 1 by omega])
      go_wp2
      go_roundw
      case rel => exact ⟨i + 1, gc, cc, qs.take cq ++ [y] ++ qs.drop cq, by omega, by go_num, EV.out, Nat.le_trans hs1 (own_lt ho9 gc rfl).1, (show _ = _ by have := HQL.out; simp; omega), RQ.out, PH.out.below b9, mix_mem HM.out HY.out cq, RH.out.upto b9 (by omega), grown_b GH.out b9 hs1⟩
      case measure => simp [intOf]; omega
    ·go_simp
     refine hK.out _ _ (KW.out _ ((zBa w1 (.cells (pcells y.p (.slice (some ⟨y.g, 0, none⟩) y.zs.length y.c)) 29)).drew)) (fun hH => ?_)
     clear hK K
     refine zRd 0 (by kernel_rfl) rfl (fun K hK => ?_)
     go_simp
     refine hK.out _ _ (KW.out _ ((Joins.below_alloc2 w1 (.cells (pcells y.p (.slice (some ⟨y.g, 0, none⟩) y.zs.length y.c)) 29) (.cells #[] 29)).drew)) (fun hH => ?_)
     clear hK K
     refine zRd 4 (by kernel_rfl) rfl (fun K hK => ?_)
     refine step_append_d rfl (some 25) rfl (.tmp 21) (.tmp 24) 23 rfl w1.heap.size 29 ti _ 9 88 Tryz.underlying23 hti hy0 hy1 hy2 rfl (by decide) (.slice (some ⟨w1.heap.size + 1, 0, none⟩) 0 0) 0 [] rfl ?_ ⟨gq, 0, none⟩ cq cq ((qs.take cq).flatMap PV.cells) rfl (FT.out cq hki) ?_ (flat_one _) (by unfold maxLen; omega) (by omega) ?_ ?_
     ·exact ((PL.nil (w1.alloc (.cells (pcells y.p (.slice (some ⟨y.g, 0, none⟩) y.zs.length y.c)) 29)) (w1.heap.size + 1) w1.heap.size (by simp) (by omega)).below (draw1 _)).row
     ·exact (QH.out.below ((Joins.below_alloc2 w1 (.cells (pcells y.p (.slice (some ⟨y.g, 0, none⟩) y.zs.length y.c)) 29) (.cells #[] 29)).drew)).src_takeI HQL.out cq
     ·exact Nat.le_trans (Nat.le_refl _) (((Joins.below_alloc2 w1 (.cells (pcells y.p (.slice (some ⟨y.g, 0, none⟩) y.zs.length y.c)) 29) (.cells #[] 29)).drew)).size
     intro v1 w7 ho7 hg7 hn7
     rw [Nat.zero_add, List.nil_append] at ho7
     obtain ⟨ga, ca, rfl⟩ : ∃ ga ca, v1 = .slice (some ⟨ga, 0, none⟩) cq ca := form_of ho7 (fun e => nomatch (hn7.1 e).1)
     have b7 : Below w1.heap.size w1 w7 := (((Joins.below_alloc2 w1 (.cells (pcells y.p (.slice (some ⟨y.g, 0, none⟩) y.zs.length y.c)) 29) (.cells #[] 29)).drew)).grown hg7 (((Joins.below_alloc2 w1 (.cells (pcells y.p (.slice (some ⟨y.g, 0, none⟩) y.zs.length y.c)) 29) (.cells #[] 29)).drew)).size (fun j hj => by cases hj; exact Nat.le_succ _)
     refine hK.out _ _ (KW.out _ b7) (fun hH => ?_)
     clear hK K
     simp only [Act.put, zX, zY, zZ]
     have CC := nine_at (w := w7) (ge := w1.heap.size) (y := y) ((hg7.block _ (by simp; omega) (fun e => by have e' : w1.heap.size = w1.heap.size + 1 := Option.some.inj e; omega)).trans ((zHa (by simp)).trans (heap_new _ _ _ rfl)))
     refine zRd 10 (by kernel_rfl) rfl (fun K hK => ?_)
     refine step_append_d rfl (some 31) rfl (.tmp 25) (.tmp 30) 23 rfl w1.heap.size 29 ti _ 9 88 Tryz.underlying23 hti hy0 hy1 hy2 rfl (by decide) (.slice (some ⟨ga, 0, none⟩) cq ca) cq ((qs.take cq).flatMap PV.cells) rfl ho7 ⟨w1.heap.size, 0, none⟩ 1 1 (PV.cells y) rfl rfl CC (nine_one _ _ _ _) (by unfold maxLen; omega) (by omega) (b7).size ?_
     intro v2 w8 ho8 hg8 hn8
     obtain ⟨gb, cb, rfl⟩ : ∃ gb cb, v2 = .slice (some ⟨gb, 0, none⟩) (cq + 1) cb := form_of ho8 (fun e => nomatch (hn8.1 e).1)
     have b8 : Below w1.heap.size w1 w8 := (b7).grown hg8 (b7).size (fun j hj => (own_lt ho7 j hj).1)
     refine hK.out _ _ (KW.out _ b8) (fun hH => ?_)
     clear hK K
     simp only [Act.put, zX, zY, zZ]
     refine zRd 14 (by kernel_rfl) rfl (fun K hK => ?_)
     refine step_append_d rfl (some 35) rfl (.tmp 31) (.tmp 34) 23 rfl w1.heap.size 29 ti _ 9 88 Tryz.underlying23 hti hy0 hy1 hy2 rfl (by decide) (.slice (some ⟨gb, 0, none⟩) (cq + 1) cb) (cq + 1) ((qs.take cq).flatMap PV.cells ++ PV.cells y) rfl ho8 ⟨gq, 0, none⟩ 0 0 ([] : List Value) rfl rfl (fun j u h => nomatch h) (fun u h => nomatch h) (by unfold maxLen; omega) (by omega) b8.size ?_
     intro v3 w9 ho9 hg9 hn9
     obtain ⟨gc, cc, rfl⟩ : ∃ gc cc, v3 = .slice (some ⟨gc, 0, none⟩) (cq + 1 + 0) cc := form_of ho9 (fun e => nomatch (hn9.1 e).1)
     have b9 : Below w1.heap.size w1 w9 := b8.grown hg9 b8.size (fun j hj => (own_lt ho8 j hj).1)
     refine hK.out _ _ (KW.out _ b9) (fun hH => ?_)
     clear hK K
     simp only [Act.put, zX, zY, zZ]
     refine zTk 15 5 (.slice (some ⟨gc, 0, none⟩) (cq + 1 + 0) cc) rfl (fun w hS => by obtain ⟨s0, s1, s2, s3, s4, s5, s6, s7, s8⟩ := hS; go_simp) hH ?_; simp only [Act.put, zX, zY, zZ]
     refine wpAnyH_done (by kernel_rfl) ?_ _
     have RQ : Hid (PL w9 lo (.slice (some ⟨gc, 0, none⟩) (i + 1) cc) (qs.take cq ++ [y] ++ qs.drop cq)) := mix_pl QH.out PH.out HQL.out (List.mem_of_getElem? HY.out) hki b9 (by omega) (by have h := ho9; rw [show cq + 1 + 0 = i + 1 by omega] at h; rw [List.drop_eq_nil_of_le (by rw [HQL.out]; omega)]; exact h)
     have EV : Hid (Value.slice (some ⟨gc, 0, none⟩) (cq + 1 + 0) cc = .slice (some ⟨gc, 0, none⟩) (i + 1) cc) := (show _ = _ by rw [show cq + 1 + 0 = i + 1 by omega])
     go_wp2
     go_roundw
     case rel => exact ⟨i + 1, gc, cc, qs.take cq ++ [y] ++ qs.drop cq, by omega, by go_num, EV.out, Nat.le_trans hs1 (own_lt ho9 gc rfl).1, (show _ = _ by have := HQL.out; simp; omega), RQ.out, PH.out.below b9, mix_mem HM.out HY.out cq, RH.out.upto b9 (by omega), grown_b GH.out b9 hs1⟩
     case measure => simp [intOf]; omega
   ·have hck : k < cq := by omega
    go_wp2
    refine wp_region_held_drew (S := (fun w' => w'.cell? ⟨g, i * 9, none⟩ = some (.int .i64 y.p.src) ∧ w'.cell? ⟨g, i * 9 + 1, none⟩ = some (.int .i64 y.p.dst) ∧ w'.cell? ⟨g, i * 9 + 2, none⟩ = some (.int .i64 y.p.kind) ∧ w'.cell? ⟨g, i * 9 + 3, none⟩ = some (.int .i64 y.p.id) ∧ w'.cell? ⟨g, i * 9 + 4, none⟩ = some (.int .i64 y.p.hops) ∧ w'.cell? ⟨g, i * 9 + 5, none⟩ = some (.bool y.p.whole) ∧ w'.cell? ⟨g, i * 9 + 6, none⟩ = some (.int .i64 y.p.off) ∧ w'.cell? ⟨g, i * 9 + 7, none⟩ = some (.bool y.p.more) ∧ w'.cell? ⟨g, i * 9 + 8, none⟩ = some (.slice (some ⟨y.g, 0, none⟩) y.zs.length y.c))) (by kernel_rfl) (KW.out _ (draw1 _)) (fun hH => ?_)
    refine zTk 1 22 (.slice (some ⟨gq, 0, none⟩) i cq) rfl (fun w hS => by obtain ⟨s0, s1, s2, s3, s4, s5, s6, s7, s8⟩ := hS; go_simp) hH ?_; simp only [Act.put, zX, zY, zZ]
    refine zTk 2 23 (.int .i64 k) rfl (fun w hS => by obtain ⟨s0, s1, s2, s3, s4, s5, s6, s7, s8⟩ := hS; go_simp) hH ?_; simp only [Act.put, zX, zY, zZ]
    refine zTk 3 24 (.slice (some ⟨gq, 0, none⟩) k cq) rfl (fun w hS => by obtain ⟨s0, s1, s2, s3, s4, s5, s6, s7, s8⟩ := hS; go_simp) hH ?_; simp only [Act.put, zX, zY, zZ]
    refine zTk 5 26 (.slice (some ⟨g, 0, none⟩) n c) rfl (fun w hS => by obtain ⟨s0, s1, s2, s3, s4, s5, s6, s7, s8⟩ := hS; go_simp) hH ?_; simp only [Act.put, zX, zY, zZ]
    refine zTk 6 27 (.int .i64 i) rfl (fun w hS => by obtain ⟨s0, s1, s2, s3, s4, s5, s6, s7, s8⟩ := hS; go_simp) hH ?_; simp only [Act.put, zX, zY, zZ]
    refine zTk 7 28 (.pointer (some ⟨g, i * 9, none⟩)) rfl (fun w hS => by obtain ⟨s0, s1, s2, s3, s4, s5, s6, s7, s8⟩ := hS; go_simp) hH ?_; simp only [Act.put, zX, zY, zZ]
    refine zTk 8 29 (.agg #[.int .i64 y.p.src, .int .i64 y.p.dst, .int .i64 y.p.kind, .int .i64 y.p.id, .int .i64 y.p.hops, .bool y.p.whole, .int .i64 y.p.off, .bool y.p.more, .slice (some ⟨y.g, 0, none⟩) y.zs.length y.c]) rfl (fun w hS => by obtain ⟨s0, s1, s2, s3, s4, s5, s6, s7, s8⟩ := hS; go_simp) hH ?_; simp only [Act.put, zX, zY, zZ]
    refine zTk 11 32 (.slice (some ⟨gq, 0, none⟩) i cq) rfl (fun w hS => by obtain ⟨s0, s1, s2, s3, s4, s5, s6, s7, s8⟩ := hS; go_simp) hH ?_; simp only [Act.put, zX, zY, zZ]
    refine zTk 12 33 (.int .i64 k) rfl (fun w hS => by obtain ⟨s0, s1, s2, s3, s4, s5, s6, s7, s8⟩ := hS; go_simp) hH ?_; simp only [Act.put, zX, zY, zZ]
    refine zTk 13 34 (.slice (some ⟨gq, k * 9, none⟩) (i - k) (cq - k)) rfl (fun w hS => by obtain ⟨s0, s1, s2, s3, s4, s5, s6, s7, s8⟩ := hS; go_simp) hH ?_; simp only [Act.put, zX, zY, zZ]
    refine wpAnyH_ready (rs := [0, 9]) (by kernel_rfl) (by simp) ?_
    refine AllReadyH.cons rfl (fun K hK => ?_) (AllReadyH.cons rfl (fun K hK => ?_) AllReadyH.nil)
    ·go_simp
     refine hK.out _ _ (KW.out _ ((zBa w1 (.cells #[] 29)).drew)) (fun hH => ?_)
     clear hK K
     refine wpAnyH_ready (rs := [4, 9]) (by kernel_rfl) (by simp) ?_
     refine AllReadyH.cons rfl (fun K hK => ?_) (AllReadyH.cons rfl (fun K hK => ?_) AllReadyH.nil)
     ·refine step_append_d rfl (some 25) rfl (.tmp 21) (.tmp 24) 23 rfl w1.heap.size 29 ti _ 9 88 Tryz.underlying23 hti hy0 hy1 hy2 rfl (by decide) (.slice (some ⟨w1.heap.size, 0, none⟩) 0 0) 0 [] rfl ?_ ⟨gq, 0, none⟩ k cq ((qs.take k).flatMap PV.cells) rfl (FT.out k hki) ?_ (flat_one _) (by unfold maxLen; omega) (by omega) ?_ ?_
      ·exact (PL.nil w1 _ _ rfl (Nat.le_refl _)).row
      ·exact (QH.out.below ((zBa w1 (.cells #[] 29)).drew)).src_takeI HQL.out k
      ·exact Nat.le_trans (Nat.le_refl _) (((zBa w1 (.cells #[] 29)).drew)).size
      intro v1 w7 ho7 hg7 hn7
      rw [Nat.zero_add, List.nil_append] at ho7
      obtain ⟨ga, ca, rfl⟩ : ∃ ga ca, v1 = .slice (some ⟨ga, 0, none⟩) k ca := form_of ho7 (fun e => nomatch (hn7.1 e).1)
      have b7 : Below w1.heap.size w1 w7 := (((zBa w1 (.cells #[] 29)).drew)).grown hg7 (((zBa w1 (.cells #[] 29)).drew)).size (fun j hj => by cases hj; exact Nat.le_refl _)
      refine hK.out _ _ (KW.out _ b7) (fun hH => ?_)
      clear hK K
      simp only [Act.put, zX, zY, zZ]
      refine zRd 9 (by kernel_rfl) rfl (fun K hK => ?_)
      go_simp
      refine hK.out _ _ (KW.out _ (b7.alloc b7.size _)) (fun hH => ?_)
      clear hK K
      have OA : (w7.alloc (.cells (pcells y.p (.slice (some ⟨y.g, 0, none⟩) y.zs.length y.c)) 29)).ownsRow w1.heap.size 29 9 (.slice (some ⟨ga, 0, none⟩) k ca) k ((qs.take k).flatMap PV.cells) := ho7.alloc _
      have CA := nine_at (w := w7.alloc (.cells (pcells y.p (.slice (some ⟨y.g, 0, none⟩) y.zs.length y.c)) 29)) (y := y) (heap_new _ _ _ rfl)
      have BAA : Below w1.heap.size w1 (w7.alloc (.cells (pcells y.p (.slice (some ⟨y.g, 0, none⟩) y.zs.length y.c)) 29)) := b7.alloc b7.size _
      refine zRd 10 (by kernel_rfl) rfl (fun K hK => ?_)
      refine step_append_d rfl (some 31) rfl (.tmp 25) (.tmp 30) 23 rfl w1.heap.size 29 ti _ 9 88 Tryz.underlying23 hti hy0 hy1 hy2 rfl (by decide) (.slice (some ⟨ga, 0, none⟩) k ca) k ((qs.take k).flatMap PV.cells) rfl OA ⟨w7.heap.size, 0, none⟩ 1 1 (PV.cells y) rfl rfl CA (nine_one _ _ _ _) (by unfold maxLen; omega) (by omega) (BAA).size ?_
      intro v2 w8 ho8 hg8 hn8
      obtain ⟨gb, cb, rfl⟩ : ∃ gb cb, v2 = .slice (some ⟨gb, 0, none⟩) (k + 1) cb := form_of ho8 (fun e => nomatch (hn8.1 e).1)
      have b8 : Below w1.heap.size w1 w8 := (BAA).grown hg8 (BAA).size (fun j hj => (own_lt OA j hj).1)
      refine hK.out _ _ (KW.out _ b8) (fun hH => ?_)
      clear hK K
      simp only [Act.put, zX, zY, zZ]
      refine zRd 14 (by kernel_rfl) rfl (fun K hK => ?_)
      refine step_append_d rfl (some 35) rfl (.tmp 31) (.tmp 34) 23 rfl w1.heap.size 29 ti _ 9 88 Tryz.underlying23 hti hy0 hy1 hy2 rfl (by decide) (.slice (some ⟨gb, 0, none⟩) (k + 1) cb) (k + 1) ((qs.take k).flatMap PV.cells ++ PV.cells y) rfl ho8 ⟨gq, k * 9, none⟩ (i - k) (cq - k) ((qs.drop k).flatMap PV.cells) rfl (FD.out k) ((QH.out.below b8).src_dropI HQL.out k) (flat_one _) (by unfold maxLen; omega) (by omega) b8.size ?_
      intro v3 w9 ho9 hg9 hn9
      obtain ⟨gc, cc, rfl⟩ : ∃ gc cc, v3 = .slice (some ⟨gc, 0, none⟩) (k + 1 + (i - k)) cc := form_of ho9 (fun e => nomatch (hn9.1 e).1)
      have b9 : Below w1.heap.size w1 w9 := b8.grown hg9 b8.size (fun j hj => (own_lt ho8 j hj).1)
      refine hK.out _ _ (KW.out _ b9) (fun hH => ?_)
      clear hK K
      simp only [Act.put, zX, zY, zZ]
      refine zTk 15 5 (.slice (some ⟨gc, 0, none⟩) (k + 1 + (i - k)) cc) rfl (fun w hS => by obtain ⟨s0, s1, s2, s3, s4, s5, s6, s7, s8⟩ := hS; go_simp) hH ?_; simp only [Act.put, zX, zY, zZ]
      refine wpAnyH_done (by kernel_rfl) ?_ _
      have RQ : Hid (PL w9 lo (.slice (some ⟨gc, 0, none⟩) (i + 1) cc) (qs.take k ++ [y] ++ qs.drop k)) := mix_pl QH.out PH.out HQL.out (List.mem_of_getElem? HY.out) hki b9 (by omega) (by have h := ho9; rw [show k + 1 + (i - k) = i + 1 by omega] at h; exact h)
      have EV : Hid (Value.slice (some ⟨gc, 0, none⟩) (k + 1 + (i - k)) cc = .slice (some ⟨gc, 0, none⟩) (i + 1) cc) := (show _ = _ by rw [show k + 1 + (i - k) = i + 1 by omega])
      go_wp2
      go_roundw
      case rel => exact ⟨i + 1, gc, cc, qs.take k ++ [y] ++ qs.drop k, by omega, by go_num, EV.out, Nat.le_trans hs1 (own_lt ho9 gc rfl).1, (show _ = _ by have := HQL.out; simp; omega), RQ.out, PH.out.below b9, mix_mem HM.out HY.out k, RH.out.upto b9 (by omega), grown_b GH.out b9 hs1⟩
      case measure => simp [intOf]; omega
     ·go_simp
      refine hK.out _ _ (KW.out _ ((Joins.below_alloc2 w1 (.cells #[] 29) (.cells (pcells y.p (.slice (some ⟨y.g, 0, none⟩) y.zs.length y.c)) 29)).drew)) (fun hH => ?_)
      clear hK K
      refine zRd 4 (by kernel_rfl) rfl (fun K hK => ?_)
      refine step_append_d rfl (some 25) rfl (.tmp 21) (.tmp 24) 23 rfl w1.heap.size 29 ti _ 9 88 Tryz.underlying23 hti hy0 hy1 hy2 rfl (by decide) (.slice (some ⟨w1.heap.size, 0, none⟩) 0 0) 0 [] rfl ?_ ⟨gq, 0, none⟩ k cq ((qs.take k).flatMap PV.cells) rfl (FT.out k hki) ?_ (flat_one _) (by unfold maxLen; omega) (by omega) ?_ ?_
      ·exact (((PL.nil w1 _ w1.heap.size rfl (Nat.le_refl _)).below (zBa _ (.cells (pcells y.p (.slice (some ⟨y.g, 0, none⟩) y.zs.length y.c)) 29))).below (draw1 _)).row
      ·exact (QH.out.below ((Joins.below_alloc2 w1 (.cells #[] 29) (.cells (pcells y.p (.slice (some ⟨y.g, 0, none⟩) y.zs.length y.c)) 29)).drew)).src_takeI HQL.out k
      ·exact Nat.le_trans (Nat.le_refl _) (((Joins.below_alloc2 w1 (.cells #[] 29) (.cells (pcells y.p (.slice (some ⟨y.g, 0, none⟩) y.zs.length y.c)) 29)).drew)).size
      intro v1 w7 ho7 hg7 hn7
      rw [Nat.zero_add, List.nil_append] at ho7
      obtain ⟨ga, ca, rfl⟩ : ∃ ga ca, v1 = .slice (some ⟨ga, 0, none⟩) k ca := form_of ho7 (fun e => nomatch (hn7.1 e).1)
      have b7 : Below w1.heap.size w1 w7 := (((Joins.below_alloc2 w1 (.cells #[] 29) (.cells (pcells y.p (.slice (some ⟨y.g, 0, none⟩) y.zs.length y.c)) 29)).drew)).grown hg7 (((Joins.below_alloc2 w1 (.cells #[] 29) (.cells (pcells y.p (.slice (some ⟨y.g, 0, none⟩) y.zs.length y.c)) 29)).drew)).size (fun j hj => by cases hj; exact Nat.le_refl _)
      refine hK.out _ _ (KW.out _ b7) (fun hH => ?_)
      clear hK K
      simp only [Act.put, zX, zY, zZ]
      have CB := nine_at (w := w7) (ge := w1.heap.size + 1) (y := y) ((hg7.block _ (by simp) (fun e => by have e' : w1.heap.size + 1 = w1.heap.size := Option.some.inj e; omega)).trans (heap_new _ _ _ (by simp)))
      refine zRd 10 (by kernel_rfl) rfl (fun K hK => ?_)
      refine step_append_d rfl (some 31) rfl (.tmp 25) (.tmp 30) 23 rfl w1.heap.size 29 ti _ 9 88 Tryz.underlying23 hti hy0 hy1 hy2 rfl (by decide) (.slice (some ⟨ga, 0, none⟩) k ca) k ((qs.take k).flatMap PV.cells) rfl ho7 ⟨w1.heap.size + 1, 0, none⟩ 1 1 (PV.cells y) rfl rfl CB (nine_one _ _ _ _) (by unfold maxLen; omega) (by omega) (b7).size ?_
      intro v2 w8 ho8 hg8 hn8
      obtain ⟨gb, cb, rfl⟩ : ∃ gb cb, v2 = .slice (some ⟨gb, 0, none⟩) (k + 1) cb := form_of ho8 (fun e => nomatch (hn8.1 e).1)
      have b8 : Below w1.heap.size w1 w8 := (b7).grown hg8 (b7).size (fun j hj => (own_lt ho7 j hj).1)
      refine hK.out _ _ (KW.out _ b8) (fun hH => ?_)
      clear hK K
      simp only [Act.put, zX, zY, zZ]
      refine zRd 14 (by kernel_rfl) rfl (fun K hK => ?_)
      refine step_append_d rfl (some 35) rfl (.tmp 31) (.tmp 34) 23 rfl w1.heap.size 29 ti _ 9 88 Tryz.underlying23 hti hy0 hy1 hy2 rfl (by decide) (.slice (some ⟨gb, 0, none⟩) (k + 1) cb) (k + 1) ((qs.take k).flatMap PV.cells ++ PV.cells y) rfl ho8 ⟨gq, k * 9, none⟩ (i - k) (cq - k) ((qs.drop k).flatMap PV.cells) rfl (FD.out k) ((QH.out.below b8).src_dropI HQL.out k) (flat_one _) (by unfold maxLen; omega) (by omega) b8.size ?_
      intro v3 w9 ho9 hg9 hn9
      obtain ⟨gc, cc, rfl⟩ : ∃ gc cc, v3 = .slice (some ⟨gc, 0, none⟩) (k + 1 + (i - k)) cc := form_of ho9 (fun e => nomatch (hn9.1 e).1)
      have b9 : Below w1.heap.size w1 w9 := b8.grown hg9 b8.size (fun j hj => (own_lt ho8 j hj).1)
      refine hK.out _ _ (KW.out _ b9) (fun hH => ?_)
      clear hK K
      simp only [Act.put, zX, zY, zZ]
      refine zTk 15 5 (.slice (some ⟨gc, 0, none⟩) (k + 1 + (i - k)) cc) rfl (fun w hS => by obtain ⟨s0, s1, s2, s3, s4, s5, s6, s7, s8⟩ := hS; go_simp) hH ?_; simp only [Act.put, zX, zY, zZ]
      refine wpAnyH_done (by kernel_rfl) ?_ _
      have RQ : Hid (PL w9 lo (.slice (some ⟨gc, 0, none⟩) (i + 1) cc) (qs.take k ++ [y] ++ qs.drop k)) := mix_pl QH.out PH.out HQL.out (List.mem_of_getElem? HY.out) hki b9 (by omega) (by have h := ho9; rw [show k + 1 + (i - k) = i + 1 by omega] at h; exact h)
      have EV : Hid (Value.slice (some ⟨gc, 0, none⟩) (k + 1 + (i - k)) cc = .slice (some ⟨gc, 0, none⟩) (i + 1) cc) := (show _ = _ by rw [show k + 1 + (i - k) = i + 1 by omega])
      go_wp2
      go_roundw
      case rel => exact ⟨i + 1, gc, cc, qs.take k ++ [y] ++ qs.drop k, by omega, by go_num, EV.out, Nat.le_trans hs1 (own_lt ho9 gc rfl).1, (show _ = _ by have := HQL.out; simp; omega), RQ.out, PH.out.below b9, mix_mem HM.out HY.out k, RH.out.upto b9 (by omega), grown_b GH.out b9 hs1⟩
      case measure => simp [intOf]; omega
    ·go_simp
     refine hK.out _ _ (KW.out _ ((zBa w1 (.cells (pcells y.p (.slice (some ⟨y.g, 0, none⟩) y.zs.length y.c)) 29)).drew)) (fun hH => ?_)
     clear hK K
     refine zRd 0 (by kernel_rfl) rfl (fun K hK => ?_)
     go_simp
     refine hK.out _ _ (KW.out _ ((Joins.below_alloc2 w1 (.cells (pcells y.p (.slice (some ⟨y.g, 0, none⟩) y.zs.length y.c)) 29) (.cells #[] 29)).drew)) (fun hH => ?_)
     clear hK K
     refine zRd 4 (by kernel_rfl) rfl (fun K hK => ?_)
     refine step_append_d rfl (some 25) rfl (.tmp 21) (.tmp 24) 23 rfl w1.heap.size 29 ti _ 9 88 Tryz.underlying23 hti hy0 hy1 hy2 rfl (by decide) (.slice (some ⟨w1.heap.size + 1, 0, none⟩) 0 0) 0 [] rfl ?_ ⟨gq, 0, none⟩ k cq ((qs.take k).flatMap PV.cells) rfl (FT.out k hki) ?_ (flat_one _) (by unfold maxLen; omega) (by omega) ?_ ?_
     ·exact ((PL.nil (w1.alloc (.cells (pcells y.p (.slice (some ⟨y.g, 0, none⟩) y.zs.length y.c)) 29)) (w1.heap.size + 1) w1.heap.size (by simp) (by omega)).below (draw1 _)).row
     ·exact (QH.out.below ((Joins.below_alloc2 w1 (.cells (pcells y.p (.slice (some ⟨y.g, 0, none⟩) y.zs.length y.c)) 29) (.cells #[] 29)).drew)).src_takeI HQL.out k
     ·exact Nat.le_trans (Nat.le_refl _) (((Joins.below_alloc2 w1 (.cells (pcells y.p (.slice (some ⟨y.g, 0, none⟩) y.zs.length y.c)) 29) (.cells #[] 29)).drew)).size
     intro v1 w7 ho7 hg7 hn7
     rw [Nat.zero_add, List.nil_append] at ho7
     obtain ⟨ga, ca, rfl⟩ : ∃ ga ca, v1 = .slice (some ⟨ga, 0, none⟩) k ca := form_of ho7 (fun e => nomatch (hn7.1 e).1)
     have b7 : Below w1.heap.size w1 w7 := (((Joins.below_alloc2 w1 (.cells (pcells y.p (.slice (some ⟨y.g, 0, none⟩) y.zs.length y.c)) 29) (.cells #[] 29)).drew)).grown hg7 (((Joins.below_alloc2 w1 (.cells (pcells y.p (.slice (some ⟨y.g, 0, none⟩) y.zs.length y.c)) 29) (.cells #[] 29)).drew)).size (fun j hj => by cases hj; exact Nat.le_succ _)
     refine hK.out _ _ (KW.out _ b7) (fun hH => ?_)
     clear hK K
     simp only [Act.put, zX, zY, zZ]
     have CC := nine_at (w := w7) (ge := w1.heap.size) (y := y) ((hg7.block _ (by simp; omega) (fun e => by have e' : w1.heap.size = w1.heap.size + 1 := Option.some.inj e; omega)).trans ((zHa (by simp)).trans (heap_new _ _ _ rfl)))
     refine zRd 10 (by kernel_rfl) rfl (fun K hK => ?_)
     refine step_append_d rfl (some 31) rfl (.tmp 25) (.tmp 30) 23 rfl w1.heap.size 29 ti _ 9 88 Tryz.underlying23 hti hy0 hy1 hy2 rfl (by decide) (.slice (some ⟨ga, 0, none⟩) k ca) k ((qs.take k).flatMap PV.cells) rfl ho7 ⟨w1.heap.size, 0, none⟩ 1 1 (PV.cells y) rfl rfl CC (nine_one _ _ _ _) (by unfold maxLen; omega) (by omega) (b7).size ?_
     intro v2 w8 ho8 hg8 hn8
     obtain ⟨gb, cb, rfl⟩ : ∃ gb cb, v2 = .slice (some ⟨gb, 0, none⟩) (k + 1) cb := form_of ho8 (fun e => nomatch (hn8.1 e).1)
     have b8 : Below w1.heap.size w1 w8 := (b7).grown hg8 (b7).size (fun j hj => (own_lt ho7 j hj).1)
     refine hK.out _ _ (KW.out _ b8) (fun hH => ?_)
     clear hK K
     simp only [Act.put, zX, zY, zZ]
     refine zRd 14 (by kernel_rfl) rfl (fun K hK => ?_)
     refine step_append_d rfl (some 35) rfl (.tmp 31) (.tmp 34) 23 rfl w1.heap.size 29 ti _ 9 88 Tryz.underlying23 hti hy0 hy1 hy2 rfl (by decide) (.slice (some ⟨gb, 0, none⟩) (k + 1) cb) (k + 1) ((qs.take k).flatMap PV.cells ++ PV.cells y) rfl ho8 ⟨gq, k * 9, none⟩ (i - k) (cq - k) ((qs.drop k).flatMap PV.cells) rfl (FD.out k) ((QH.out.below b8).src_dropI HQL.out k) (flat_one _) (by unfold maxLen; omega) (by omega) b8.size ?_
     intro v3 w9 ho9 hg9 hn9
     obtain ⟨gc, cc, rfl⟩ : ∃ gc cc, v3 = .slice (some ⟨gc, 0, none⟩) (k + 1 + (i - k)) cc := form_of ho9 (fun e => nomatch (hn9.1 e).1)
     have b9 : Below w1.heap.size w1 w9 := b8.grown hg9 b8.size (fun j hj => (own_lt ho8 j hj).1)
     refine hK.out _ _ (KW.out _ b9) (fun hH => ?_)
     clear hK K
     simp only [Act.put, zX, zY, zZ]
     refine zTk 15 5 (.slice (some ⟨gc, 0, none⟩) (k + 1 + (i - k)) cc) rfl (fun w hS => by obtain ⟨s0, s1, s2, s3, s4, s5, s6, s7, s8⟩ := hS; go_simp) hH ?_; simp only [Act.put, zX, zY, zZ]
     refine wpAnyH_done (by kernel_rfl) ?_ _
     have RQ : Hid (PL w9 lo (.slice (some ⟨gc, 0, none⟩) (i + 1) cc) (qs.take k ++ [y] ++ qs.drop k)) := mix_pl QH.out PH.out HQL.out (List.mem_of_getElem? HY.out) hki b9 (by omega) (by have h := ho9; rw [show k + 1 + (i - k) = i + 1 by omega] at h; exact h)
     have EV : Hid (Value.slice (some ⟨gc, 0, none⟩) (k + 1 + (i - k)) cc = .slice (some ⟨gc, 0, none⟩) (i + 1) cc) := (show _ = _ by rw [show k + 1 + (i - k) = i + 1 by omega])
     go_wp2
     go_roundw
     case rel => exact ⟨i + 1, gc, cc, qs.take k ++ [y] ++ qs.drop k, by omega, by go_num, EV.out, Nat.le_trans hs1 (own_lt ho9 gc rfl).1, (show _ = _ by have := HQL.out; simp; omega), RQ.out, PH.out.below b9, mix_mem HM.out HY.out k, RH.out.upto b9 (by omega), grown_b GH.out b9 hs1⟩
     case measure => simp [intOf]; omega
  ·obtain rfl : i = n := by omega
   have HM' : Hid (∀ y, y ∈ qs ↔ y ∈ ps) := fun y => by
    have h := HM.out y
    rw [List.take_of_length_le (by rw [HN.out]; exact Nat.le_refl _)] at h
    exact h
   go_wp2_with fail
   refine (pick_any rb (N + i) 4 _ RH0.out (by omega) (by omega) (by omega)).mono ?_
   rintro e w1 ⟨ki, rfl, k0, k1, -, R1, G⟩
   obtain ⟨k, rfl⟩ := Int.eq_ofNat_of_zero_le k0
   have hk3 : k ≤ 3 := by have := k1 (by omega); omega
   have QH : Hid (PL w1 lo (.slice (some ⟨gq, 0, none⟩) i cq) qs) := QH0.out.grown G hlo
   have GH : Hid (w.grownBy w1 (some rb)) := grown_trans GH0.out G
   have RH : Hid (Rdr w1 rb (N + i + 1)) := R1
   clear G R1 QH0 PH0 RH0 GH0 k1 P0 Q0 R0 HM
   go_wp2
   go_loopw [5, 8] (fun v nx wr => ∃ (m nn gq cq : Nat) (qs : List PV), nn ≤ 3 ∧ m + nn ≤ i + 3 ∧ nx = .int .i64 nn ∧ v = .slice (some ⟨gq, 0, none⟩) m cq ∧ w.heap.size ≤ gq ∧ Hid (qs.length = m) ∧ Hid (PL wr lo (.slice (some ⟨gq, 0, none⟩) m cq) qs) ∧ Hid (∀ y, y ∈ qs ↔ y ∈ ps) ∧ Hid (Rdr wr rb (N + i + 1 + (3 - nn))) ∧ Hid (w.grownBy wr (some rb))) (fun _ nx _ => (intOf nx).toNat)
   case atStart => exact ⟨i, k, gq, cq, qs, hk3, by omega, rfl, rfl, hgq, HQL.out, QH.out, HM'.out, RH.out.mono (by omega), GH.out⟩
   case round =>
    obtain ⟨m, nn, gq, cq, qs, hn3, hmn, rfl, rfl, hgq, HQL, QH, HM', RH, GH⟩ := hrel
    have fin : ∃ (gq' cq' : Nat) (qs' : List PV), Value.slice (some ⟨gq, 0, none⟩) m cq = .slice (some ⟨gq', 0, none⟩) qs'.length cq' ∧ PL wr lo (.slice (some ⟨gq', 0, none⟩) qs'.length cq') qs' ∧ (∀ y ∈ qs', y ∈ ps) ∧ (∀ y ∈ ps, y ∈ qs') ∧ qs'.length ≤ i + 3 ∧ Rdr wr rb (N + i + 4) ∧ w.grownBy wr (some rb) := by
     refine ⟨gq, cq, qs, by rw [HQL.out], by rw [HQL.out]; exact QH.out, fun y hy => (HM'.out y).1 hy, fun y hy => (HM'.out y).2 hy, by rw [HQL.out]; omega, RH.out.mono (by omega), GH.out⟩
    have FIN : Hid (∃ (gq' cq' : Nat) (qs' : List PV), Value.slice (some ⟨gq, 0, none⟩) m cq = .slice (some ⟨gq', 0, none⟩) qs'.length cq' ∧ PL wr lo (.slice (some ⟨gq', 0, none⟩) qs'.length cq') qs' ∧ (∀ y ∈ qs', y ∈ ps) ∧ (∀ y ∈ ps, y ∈ qs') ∧ qs'.length ≤ i + 3 ∧ Rdr wr rb (N + i + 4) ∧ w.grownBy wr (some rb)) := fin
    clear fin
    by_cases hnn : nn = 0
    ·subst hnn
     go_wp2
     go_ret
     obtain ⟨a1, a2, a3, h1, r⟩ := FIN.out
     exact ⟨a1, a2, a3, congrArg Ending.returned h1, r⟩
    have hnp : (0 : Int) < (nn : Int) := by omega
    by_cases hm0 : m = 0
    ·subst hm0
     go_wp2
     go_ret
     obtain ⟨a1, a2, a3, h1, r⟩ := FIN.out
     exact ⟨a1, a2, a3, congrArg Ending.returned h1, r⟩
    have hmp : (0 : Int) < (m : Int) := by omega
    by_cases hm40 : 40 ≤ m
    ·have hm40' : ¬ ((m : Int) < 40) := by omega
     go_wp2
     go_ret
     obtain ⟨a1, a2, a3, h1, r⟩ := FIN.out
     exact ⟨a1, a2, a3, congrArg Ending.returned h1, r⟩
    have hm40' : (m : Int) < 40 := by omega
    clear FIN
    go_wp2_with fail
    refine (pick_any rb (N + i + 1 + (3 - nn)) (m : Int) _ RH.out (by omega) (by omega) (by omega)).mono ?_
    rintro e w2 ⟨ji, rfl, j0, j1, -, R2, G⟩
    obtain ⟨j, rfl⟩ := Int.eq_ofNat_of_zero_le j0
    have hjm : j < m := by have := j1 (by omega); omega
    have hjm' : (j : Int) < (m : Int) := by omega
    have QH2 : Hid (PL w2 lo (.slice (some ⟨gq, 0, none⟩) m cq) qs) := QH.out.grown G hlo
    have GH2 : Hid (w.grownBy w2 (some rb)) := grown_trans GH.out G
    have RH2 : Hid (Rdr w2 rb (N + i + 1 + (3 - (nn - 1)))) := R2.mono (by omega)
    have hs2 := GH2.out.size
    obtain ⟨y, hy⟩ := get_of_lt (show j < qs.length by rw [HQL.out]; exact hjm)
    have HY : Hid (y ∈ qs) := List.mem_of_getElem? hy
    obtain ⟨c0, c1, c2, c3, c4, c5, c6, c7, c8⟩ := id (QH2.out.elemI HQL.out hy)
    have hgl : gq < w2.heap.size := (own_lt QH2.out.row gq rfl).2
    have RO : Hid (w2.ownsRow w.heap.size 29 9 (.slice (some ⟨gq, 0, none⟩) m cq) m (qs.flatMap PV.cells)) := (by have h := QH2.out.row; rw [HQL.out] at h; exact own_raise h hgq)
    clear hy G R2 QH RH GH j1
    go_wp2_with (at_builtin; refine wpList_append_own _ rfl _ _ 23 rfl w.heap.size 29 ti _ 9 88 Tryz.underlying23 hti hy0 hy1 hy2 rfl (by decide) (.slice (some ⟨gq, 0, none⟩) m cq) m (qs.flatMap PV.cells) rfl (RO.out.alloc _) ⟨w2.heap.size, 0, none⟩ 1 1 (PV.cells y) rfl rfl ?h1 ?h2 ?h3 ?h4 ?h5 ?_)
    case h1 => exact nine_new w2 _ _
    case h2 => exact nine_one _ _ _ _
    case h3 => unfold maxLen; omega
    case h4 => omega
    case h5 => simp; omega
    intro v1 w4 hown hgrow hnil
    obtain ⟨g', c', rfl⟩ : ∃ g' c', v1 = .slice (some ⟨g', 0, none⟩) (m + 1) c' := by
     rcases Joins.ownsRow_forms hown with h | h
     ·exact absurd h.1 hnil
     ·exact h
    have P4 : Hid (PL w4 lo (.slice (some ⟨g', 0, none⟩) (m + 1) c') (qs ++ [y])) := by
     refine PL.append (v := .slice (some ⟨gq, 0, none⟩) m cq) (qs := [y]) (QH2.out.below (zBa _ _)) (fun x hx => ?_) ?_ hgrow
     ·obtain rfl := List.mem_singleton.1 hx
      exact own_below (QH2.out.each x HY.out) (zBa _ _)
     ·rw [HQL.out]
      simpa using Joins.ownsRow_le hown hs
    have hgr : ∀ j, (Value.slice (some ⟨gq, 0, none⟩) m cq).ownBlock = some j → w.heap.size ≤ j := fun j hj => by cases hj; exact hgq
    have G4 : Hid (w.grownBy w4 (some rb)) := grown_over (grown_trans GH2.out (grown_alloc _ _ _)) hgrow hgr
    have R4 : Hid (Rdr w4 rb (N + i + 1 + (3 - (nn - 1)))) := Rdr.keep (RH2.out.below (zBa _ _)) hgrow.size (fun j hj => hgrow.block j (by have := RH2.out.lt; simp; omega) (fun e => by have := hgr j e.symm; omega))
    have hg4 : w.heap.size ≤ g' := (own_lt hown g' rfl).1
    have M4 : Hid (∀ z, z ∈ qs ++ [y] ↔ z ∈ ps) := fun z => by
     rw [List.mem_append, List.mem_singleton]
     constructor
     ·rintro (h | h)
      ·exact (HM'.out z).1 h
      ·rw [h]; exact (HM'.out y).1 HY.out
     ·intro h
      exact Or.inl ((HM'.out z).2 h)
    clear hown hgrow hnil hgr GH2 RH2 RO c0 c1 c2 c3 c4 c5 c6 c7 c8
    go_wp2
    go_roundw
    case rel => exact ⟨m + 1, nn - 1, g', c', _, by omega, by omega, by rw [show ((nn : Int) - 1) = ((nn - 1 : Nat) : Int) by omega], rfl, hg4, (show _ = _ by rw [List.length_append, HQL.out]; rfl), P4.out, M4.out, R4.out, G4.out⟩
    case measure => simp [intOf]; omega
end Go.Proofs.YtjbkgmbakjnlhaaGreatDoor
