import Derived.Test.YtjbkgmbakjnlhaaGreatDoorPartAz
import Derived.Test.YtjbkgmbakjnlhaaGreatDoorPartAt
import Derived.Test.YtjbkgmbakjnlhaaGreatDoorPartAw
namespace Go.Proofs.YtjbkgmbakjnlhaaGreatDoor
set_option maxRecDepth 100000
open Go.RowKit
theorem wholeOk_of {p : Pk} {n k : Nat} (h : WholeOk p n) (hk : k ≤ 128) : WholeOk p k := by
 obtain ⟨h1, h2, h3, h4⟩ := h
 refine ⟨?_, h2, h3, h4⟩
 simp only [okB, offB, moreB, Bool.and_eq_true, decide_eq_true_eq] at h1 ⊢
 obtain ⟨⟨⟨a, b⟩, c⟩, d⟩ := h1
 refine ⟨⟨⟨a, ⟨b.1, by omega⟩⟩, ?_⟩, d⟩
 rw [h4]
 rfl
theorem wholeOk_src {p : Pk} {n : Nat} (h : WholeOk p n) : WholeOk ⟨9, p.dst, p.kind, p.id, p.hops, p.whole, p.off, p.more⟩ n := by
 obtain ⟨h1, h2, h3, h4⟩ := h
 refine ⟨?_, h2, h3, h4⟩
 simp only [okB, headB, Bool.and_eq_true] at h1 ⊢
 obtain ⟨⟨⟨⟨⟨⟨⟨a1, a2⟩, a3⟩, a4⟩, a5⟩, b⟩, c⟩, d⟩ := h1
 exact ⟨⟨⟨⟨⟨⟨⟨by decide, a2⟩, a3⟩, a4⟩, a5⟩, b⟩, c⟩, d⟩
set_option maxHeartbeats 25600000 in
theorem am0 {Q : Exit → Act → World → Prop} {w : World} {v0 v1 v2 v3 v4 v5 v6 v7 v8 v9 v10 v11 : Value} {f : Nat → Value} (hQ : Hid (∀ f, Q .normal (frA v0 v1 (.pointer (some ⟨w.heap.size, 0, none⟩)) (.slice none 0 0) v4 v5 v6 v7 v8 v9 v10 v11 f) (w.alloc (.cells #[.int .i64 0, .int .i64 0, .int .i64 0, .int .i64 0, .int .i64 0, .bool false, .int .i64 0, .bool false, .slice none 0 0] 29)))) : (Cd.fst (Option.getD Tryz.f17.body .skip)).wp Tryz.prog Q (frA v0 v1 v2 v3 v4 v5 v6 v7 v8 v9 v10 v11 f) w := by
 refine wp_is (c' := .region _ _ _) rfl ?_
 unfold frA
 go_wp2
 refine frA_end (C := fun a => Q .normal a _) rfl rfl rfl (fun f => ?_)
 exact hQ.out f
set_option maxHeartbeats 25600000 in
theorem am1 {Q : Exit → Act → World → Prop} {v : World} {a : Option Addr} {len cap : Nat} {v1 v2 v3 v4 v5 v6 v7 v8 v9 v10 v11 : Value} {f : Nat → Value} (hK : Hid (Calls Tryz.prog 22 #[.slice a len cap] v fun e w1 => ∃ rb, e = .returned (.pointer (some ⟨rb, 0, none⟩)) ∧ v.heap.size ≤ rb ∧ Rdr w1 rb 0 ∧ Below v.heap.size v w1)) (hQ : Hid (∀ f wx rb, v.heap.size ≤ rb → Rdr wx rb 0 → Below v.heap.size v wx → Q .normal (frA (.slice a len cap) v1 v2 v3 (.pointer (some ⟨rb, 0, none⟩)) v5 v6 v7 v8 v9 v10 v11 f) wx)) : (Cd.fst (Cd.snd (Option.getD Tryz.f17.body .skip))).wp Tryz.prog Q (frA (.slice a len cap) v1 v2 v3 v4 v5 v6 v7 v8 v9 v10 v11 f) v := by
 refine wp_is (c' := .region _ _ _) rfl ?_
 unfold frA
 go_wp2_with fail
 (with_reducible refine hK.out.mono ?_)
 rintro e w1 ⟨rb, rfl, h1, h2, h3⟩
 have H : Hid (v.heap.size ≤ rb ∧ Rdr w1 rb 0 ∧ Below v.heap.size v w1) := ⟨h1, h2, h3⟩
 clear h1 h2 h3
 go_wp2
 refine frA_end (C := fun a => Q .normal a _) rfl rfl rfl (fun f => ?_)
 exact hQ.out f _ rb H.out.1 H.out.2.1 H.out.2.2
set_option maxHeartbeats 25600000 in
theorem am2 {Q : Exit → Act → World → Prop} {w v : World} {rb : Nat} {v0 v1 v2 v3 v5 v6 v7 v8 v9 v10 v11 : Value} {f : Nat → Value} (hrb : w.heap.size < rb) (hR : Rdr v rb 0) (hZ : v.heap[w.heap.size]? = some (.cells (pcells zeroPk (.slice none 0 0)) 29 (0, 0))) (hB : Below w.heap.size w v) (hQ : Hid (∀ f wx p g c ds b5 lo, WS w wx p g c ds.length b5 rb lo ds → WholeOk p ds.length → ds.length ≤ 200 → (∀ z ∈ ds, 0 ≤ z ∧ z ≤ 255) → Rdr wx rb 700 → Q .normal (frA v0 v1 v2 v3 (.pointer (some ⟨rb, 0, none⟩)) (.pointer (some ⟨b5, 0, none⟩)) v6 v7 v8 v9 v10 v11 f) wx)) : (Cd.fst (Cd.snd (Cd.snd (Option.getD Tryz.f17.body .skip)))).wp Tryz.prog Q (frA v0 v1 v2 v3 (.pointer (some ⟨rb, 0, none⟩)) v5 v6 v7 v8 v9 v10 v11 f) v := by
 have hlt := hR.lt
 have KW : Hid (Calls Tryz.prog 48 #[.pointer (some ⟨rb, 0, none⟩)] v (PktPost rb 700 v.heap.size WholeOk v)) := l5Whole_any rb 0 v hR (by omega)
 have HB : Hid (Below w.heap.size w v) := hB
 have HZ : Hid (v.heap[w.heap.size]? = some (.cells (pcells zeroPk (.slice none 0 0)) 29 (0, 0))) := hZ
 have hzl := lt_of_block hZ
 clear hR hZ hB
 refine wp_is (c' := .region _ _ _) rfl ?_
 unfold frA
 go_wp2_with fail
 (with_reducible refine KW.out.mono ?_)
 rintro e w2 ⟨p, g, c, len, zs, rfl, o2, hz, hl, hw, R2, G, hby⟩
 subst hz
 have hs := G.size
 have Z2 := (G.block _ hzl (fun e => by have := Option.some.inj e; omega)).trans HZ.out
 have S2 : Hid (WS w (w2.alloc (.cells #[.int .i64 p.src, .int .i64 p.dst, .int .i64 p.kind, .int .i64 p.id, .int .i64 p.hops, .bool p.whole, .int .i64 p.off, .bool p.more, .slice (some ⟨g, 0, none⟩) zs.length c] 29)) p g c zs.length w2.heap.size rb v.heap.size zs) := (show WS _ _ _ _ _ _ _ _ _ _ from ⟨hs, by simp, hrb, hlt, Nat.lt_of_lt_of_le (lt_of_block Z2) (zBa _ _).size, heap_new _ _ _ rfl, (zHa (lt_of_block Z2)).trans Z2, own_below o2 (zBa _ _), (below_of_grown HB.out G (by omega)).trans ((zBa _ _).mono (by have := HB.out.size; omega))⟩)
 have R3 : Hid (Rdr (w2.alloc (.cells #[.int .i64 p.src, .int .i64 p.dst, .int .i64 p.kind, .int .i64 p.id, .int .i64 p.hops, .bool p.whole, .int .i64 p.off, .bool p.more, .slice (some ⟨g, 0, none⟩) zs.length c] 29)) rb 700) := R2.below (zBa _ _)
 have HF : Hid (WholeOk p zs.length ∧ zs.length ≤ 200 ∧ ∀ z ∈ zs, 0 ≤ z ∧ z ≤ 255) := ⟨hw, hl, hby⟩
 clear hby hw R2 G Z2 o2 KW
 unfold Pk.val
 go_wp2
 refine frA_end (C := fun a => Q .normal a _) rfl rfl rfl (fun f => ?_)
 exact hQ.out f _ p g c zs w2.heap.size v.heap.size S2.out HF.out.1 HF.out.2.1 HF.out.2.2 R3.out
set_option maxHeartbeats 25600000 in
theorem am3 {Q : Exit → Act → World → Prop} {w v : World} {p : Pk} {ds : List Int} {g c lo b5 rb M : Nat} {v0 v1 v3 v6 v7 v8 v9 v10 v11 : Value} {f : Nat → Value} (S : WS w v p g c ds.length b5 rb lo ds) (hR : Rdr v rb M) (hQ : Hid (∀ f wx, WS w wx ⟨9, p.dst, p.kind, p.id, p.hops, p.whole, p.off, p.more⟩ g c ds.length b5 rb lo ds → Rdr wx rb M → Q .normal (frA v0 v1 (.pointer (some ⟨w.heap.size, 0, none⟩)) v3 (.pointer (some ⟨rb, 0, none⟩)) (.pointer (some ⟨b5, 0, none⟩)) v6 v7 v8 v9 v10 v11 f) wx)) : (Cd.fst (Cd.snd (Cd.snd (Cd.snd (Option.getD Tryz.f17.body .skip))))).wp Tryz.prog Q (frA v0 v1 (.pointer (some ⟨w.heap.size, 0, none⟩)) v3 (.pointer (some ⟨rb, 0, none⟩)) (.pointer (some ⟨b5, 0, none⟩)) v6 v7 v8 v9 v10 v11 f) v := by
 have hb5 := S.b5l
 have hrbl : rb < b5 := by have := S.rbl; have := S.lo5; omega
 have hwb : w.heap.size ≠ b5 := by have := S.rbw; omega
 obtain ⟨lx, s0, s1, s2, s3, s4, s5, s6, s7, s8⟩ := Boxed.of_block S.box
 have fz : ∀ o, v.frozen? ⟨b5, o, none⟩ = false := fun o => zUf S.box o
 have HG : Hid (g ≠ b5) := fun e => by
  obtain ⟨cu, hc⟩ := own_at S.own g rfl
  rw [e, S.box] at hc
  cases hc
 have S' : Hid (WS w (v.setCell ⟨b5, 0, none⟩ (.int .i64 9)) ⟨9, p.dst, p.kind, p.id, p.hops, p.whole, p.off, p.more⟩ g c ds.length b5 rb lo ds) := (show WS _ _ _ _ _ _ _ _ _ _ from ⟨S.lo5, by simp [World.setCell]; exact hb5, S.rbw, S.rbl, by simp [World.setCell]; exact S.zl, (by rw [set_at S.box]; rfl), (zHs hwb).trans S.zero, own_kept S.own (fun j hj => by cases hj; exact zHs HG.out), Below.setCell S.bel (by simp only; have := S.rbw; omega) _⟩)
 have R' : Hid (Rdr (v.setCell ⟨b5, 0, none⟩ (.int .i64 9)) rb M) := hR.keep (by simp [World.setCell]) (fun j hj => zHs (by simp only; omega))
 clear S hR
 refine wp_is (c' := .region _ _ _) rfl ?_
 unfold frA
 go_wp2
 refine frA_end (C := fun a => Q .normal a _) rfl rfl rfl (fun f => ?_)
 exact hQ.out f _ S'.out R'.out
set_option maxHeartbeats 25600000 in
theorem am4 {Q : Exit → Act → World → Prop} {w v : World} {p : Pk} {ds : List Int} {g c lo b5 rb M : Nat} {v0 v1 v3 v6 v7 v8 v9 v10 v11 : Value} {f : Nat → Value} (hM : M ≤ 800000) (hw : WholeOk p ds.length) (hl : ds.length ≤ 200) (hby : ∀ z ∈ ds, 0 ≤ z ∧ z ≤ 255) (S : WS w v p g c ds.length b5 rb lo ds) (hR : Rdr v rb M) (hQ : Hid (∀ f wx g c ds, WS w wx p g c ds.length b5 rb lo ds → WholeOk p ds.length → 13 ≤ ds.length → ds.length ≤ 200 → (∀ z ∈ ds, 0 ≤ z ∧ z ≤ 255) → Rdr wx rb (M + 300) → Q .normal (frA v0 v1 (.pointer (some ⟨w.heap.size, 0, none⟩)) v3 (.pointer (some ⟨rb, 0, none⟩)) (.pointer (some ⟨b5, 0, none⟩)) v6 v7 v8 v9 v10 v11 f) wx)) : (Cd.fst (Cd.snd (Cd.snd (Cd.snd (Cd.snd (Option.getD Tryz.f17.body .skip)))))).wp Tryz.prog Q (frA v0 v1 (.pointer (some ⟨w.heap.size, 0, none⟩)) v3 (.pointer (some ⟨rb, 0, none⟩)) (.pointer (some ⟨b5, 0, none⟩)) v6 v7 v8 v9 v10 v11 f) v := by
 have hb5 := S.b5l
 have hrbl : rb < b5 := by have := S.rbl; have := S.lo5; omega
 have hwb : w.heap.size ≠ b5 := by have := S.rbw; omega
 obtain ⟨lx, s0, s1, s2, s3, s4, s5, s6, s7, s8⟩ := Boxed.of_block S.box
 refine wp_is (c' := .seq _ _) rfl ?_
 unfold frA
 by_cases h13 : ds.length < 13
 ·have h13' : (ds.length : Int) < 13 := by omega
  have KP : Hid (Calls Tryz.prog 23 #[.pointer (some ⟨rb, 0, none⟩), .int .i64 60] v (PickPost rb M 60 v)) := pick_any rb M 60 v hR (by omega) (by omega) (by omega)
  have HS : Hid (WS w v p g c ds.length b5 rb lo ds) := S
  have HW : Hid (WholeOk p ds.length) := hw
  clear S hR hby hw
  go_wp2_with fail
  (with_reducible refine KP.out.mono ?_)
  rintro e v1 ⟨z, rfl, z0, z1, -, R1, G1⟩
  have z2 := z1 (by omega)
  obtain ⟨zn, rfl⟩ := Int.eq_ofNat_of_zero_le z0
  have S1 : Hid (WS w v1 p g c ds.length b5 rb lo ds) := HS.out.grown G1
  have hwz : IntKind.i64.wrap (13 + (zn : Int)) = 13 + (zn : Int) := by rw [IntKind.wrap_i64]; omega
  have ezn : ((13 + zn : Nat) : Int) = 13 + (zn : Int) := by omega
  have KD : Hid (Calls Tryz.prog 49 #[.pointer (some ⟨rb, 0, none⟩), .int .i64 (13 + (zn : Int))] v1 fun e w' => ∃ (g c : Nat) (zs : List Int), e = .returned (.slice (some ⟨g, 0, none⟩) (13 + zn) c) ∧ w'.ownsRow v1.heap.size 5 1 (.slice (some ⟨g, 0, none⟩) (13 + zn) c) (13 + zn) (zs.map (.int .u8)) ∧ Rdr w' rb (M + 1 + 3 * (13 + zn)) ∧ v1.grownBy w' (some rb) ∧ ∀ z ∈ zs, 0 ≤ z ∧ z ≤ 255) := (by have h := l5Data_any rb (M + 1) (13 + zn) v1 R1 (by omega) (by omega); rw [ezn] at h; exact h)
  clear KP R1 G1 HS s0 s1 s2 s3 s4 s5 s6 s7 s8
  go_wp2_with fail
  (with_reducible refine KD.out.mono ?_)
  rintro e v2 ⟨gd, cd, es, rfl, od, R2, G2, hbd⟩
  have hel : es.length = 13 + zn := own_len od
  have S2 : WS w v2 p g c ds.length b5 rb lo ds := S1.out.grown G2
  have hb1 := S1.out.b5l
  obtain ⟨lx2, s0, s1, s2, s3, s4, s5, s6, s7, s8⟩ := Boxed.of_block S2.box
  have fz : ∀ o, v2.frozen? ⟨b5, o, none⟩ = false := fun o => zUf S2.box o
  have lgd := own_lt od gd rfl
  have S3 : Hid (WS w (v2.setCell ⟨b5, 8, none⟩ (.slice (some ⟨gd, 0, none⟩) (13 + zn) cd)) p gd cd es.length b5 rb lo es) := (show WS _ _ _ _ _ _ _ _ _ _ from ⟨S2.lo5, by simp [World.setCell]; exact S2.b5l, S2.rbw, S2.rbl, by simp [World.setCell]; exact S2.zl, (by rw [set_at S2.box, hel]; rfl), (zHs hwb).trans S2.zero, (by rw [hel]; exact own_kept (Joins.ownsRow_le od (by have := S2.lo5; omega)) (fun j hj => by cases hj; exact zHs (by simp only; omega))), Below.setCell S2.bel (by simp only; have := S2.rbw; omega) _⟩)
  have R3 : Hid (Rdr (v2.setCell ⟨b5, 8, none⟩ (.slice (some ⟨gd, 0, none⟩) (13 + zn) cd)) rb (M + 300)) := (R2.keep (by simp [World.setCell]) (fun j hj => zHs (by simp only; omega))).mono (by omega)
  have HE : Hid (es.length = 13 + zn) := hel
  have HBD : Hid (∀ z ∈ es, 0 ≤ z ∧ z ≤ 255) := hbd
  clear R2 G2 S2 od KD hbd S1 hel
  go_wp2
  refine frA_end (C := fun a => Q .normal a _) rfl rfl rfl (fun f => ?_)
  exact hQ.out f _ gd cd es S3.out (wholeOk_of HW.out (by rw [HE.out]; omega)) (by rw [HE.out]; omega) (by rw [HE.out]; omega) HBD.out R3.out
 ·have h13' : ¬ ((ds.length : Int) < 13) := by omega
  have H : Hid (WS w v p g c ds.length b5 rb lo ds ∧ Rdr v rb (M + 300) ∧ WholeOk p ds.length ∧ ∀ z ∈ ds, 0 ≤ z ∧ z ≤ 255) := ⟨S, hR.mono (by omega), hw, hby⟩
  clear S hR hw hby
  go_wp2
  refine frA_end (C := fun a => Q .normal a _) rfl rfl rfl (fun f => ?_)
  exact hQ.out f _ g c ds H.out.1 H.out.2.2.1 (by omega) hl H.out.2.2.2 H.out.2.1
set_option maxHeartbeats 25600000 in
theorem am6 {Q : Exit → Act → World → Prop} (hP : PanicOk Q) {w v : World} {p : Pk} {ds : List Int} {g c lo b5 rb M : Nat} {v0 v1 v3 v6 v7 v8 v9 v10 v11 : Value} {f : Nat → Value} (h13 : 13 ≤ ds.length) (hl : ds.length ≤ 200) (hM : M ≤ 800000) (S : WS w v p g c ds.length b5 rb lo ds) (hR : Rdr v rb M) (hQ : Hid (∀ f u7 wx gc cc ps (z : Int), 0 ≤ z → z < (ds.length : Int) - 4 → WS w wx p g c ds.length b5 rb lo ds → Rdr wx rb (M + 1) → PL wx (b5 + 1) (.slice (some ⟨gc, 0, none⟩) ps.length cc) ps → ps.map PV.key = cutL p ds (12 + z) → Q .normal (frA v0 v1 (.pointer (some ⟨w.heap.size, 0, none⟩)) v3 (.pointer (some ⟨rb, 0, none⟩)) (.pointer (some ⟨b5, 0, none⟩)) (.slice (some ⟨gc, 0, none⟩) ps.length cc) (u7) v8 v9 v10 v11 f) wx)) : (Cd.fst (Cd.snd (Cd.snd (Cd.snd (Cd.snd (Cd.snd (Option.getD Tryz.f17.body .skip))))))).wp Tryz.prog Q (frA v0 v1 (.pointer (some ⟨w.heap.size, 0, none⟩)) v3 (.pointer (some ⟨rb, 0, none⟩)) (.pointer (some ⟨b5, 0, none⟩)) v6 v7 v8 v9 v10 v11 f) v := by
 have hcc := own_caps S.own
 have S0 : Hid (WS w v.drew p g c ds.length b5 rb lo ds) := S.drew
 have HR0 : Hid (Rdr v.drew rb M) := hR.below (draw1 _)
 have hrbl : rb < b5 := by have := S.rbl; have := S.lo5; omega
 clear S hR
 have hwl : IntKind.i64.wrap ((ds.length : Int) - 4) = (ds.length : Int) - 4 := by rw [IntKind.wrap_i64]; omega
 refine wp_is (c' := .region _ _ _) rfl ?_
 unfold frA
 refine wp_region_held_drew (S := fun v => v.heap[b5]? = some (.cells (pcells p (.slice (some ⟨g, 0, none⟩) ds.length c)) 29 (0, 0))) (by kernel_rfl) S0.out.box (fun hH => ?_)
 refine zTq hP 0 28 (.agg #[.int .i64 p.src, .int .i64 p.dst, .int .i64 p.kind, .int .i64 p.id, .int .i64 p.hops, .bool p.whole, .int .i64 p.off, .bool p.more, .slice (some ⟨g, 0, none⟩) ds.length c]) rfl (fun w hS => by obtain ⟨lx, s0, s1, s2, s3, s4, s5, s6, s7, s8⟩ := Boxed.of_block hS; go_simp) hH ?_; simp only [Act.put, zX, zY, zZ]
 refine zTq hP 1 29 (.pointer (some ⟨rb, 0, none⟩)) rfl (fun w hS => by go_simp) hH ?_; simp only [Act.put, zX, zY, zZ]
 refine zTq hP 2 30 (.pointer (some ⟨b5, 8, none⟩)) rfl (fun w hS => by go_simp) hH ?_; simp only [Act.put, zX, zY, zZ]
 refine zTq hP 3 31 (.slice (some ⟨g, 0, none⟩) ds.length c) rfl (fun w hS => by obtain ⟨lx, s0, s1, s2, s3, s4, s5, s6, s7, s8⟩ := Boxed.of_block hS; go_simp) hH ?_; simp only [Act.put, zX, zY, zZ]
 refine zTq hP 4 32 (.int .i64 ds.length) rfl (fun w hS => by go_simp) hH ?_; simp only [Act.put, zX, zY, zZ]
 refine zTq hP 5 33 (.int .i64 (ds.length - 4)) rfl (fun w hS => by go_simp) hH ?_; simp only [Act.put, zX, zY, zZ]
 refine zRd 6 (by kernel_rfl) rfl (fun K hK => ?_)
 go_simp
 (with_reducible refine (pick_any rb M ((ds.length : Int) - 4) _ HR0.out (by omega) (by omega) (by omega)).mono ?_)
 rintro e v1 ⟨z, rfl, z0, z1, -, R1, G1⟩
 have z2 := z1 (by omega)
 have S1 : Hid (WS w v1 p g c ds.length b5 rb lo ds) := S0.out.grown G1
 have R1' : Hid (Rdr v1 rb (M + 1)) := R1
 have hwz : IntKind.i64.wrap (12 + z) = 12 + z := by rw [IntKind.wrap_i64]; omega
 go_simp
 refine hK.out _ _ S1.out.box (fun hH => ?_)
 clear hK K R1 G1
 (first | (simp only [zX, zY, zZ]) | skip)
 refine zTq hP 7 35 (.int .i64 (12 + z)) rfl (fun w hS => by go_simp) hH ?_; simp only [Act.put, zX, zY, zZ]
 refine zRd 8 (by kernel_rfl) rfl (fun K hK => ?_)
 go_simp
 have KC : Hid (Calls Tryz.prog 50 #[.agg #[.int .i64 p.src, .int .i64 p.dst, .int .i64 p.kind, .int .i64 p.id, .int .i64 p.hops, .bool p.whole, .int .i64 p.off, .bool p.more, .slice (some ⟨g, 0, none⟩) ds.length c], .int .i64 (12 + z)] v1 (CutPost p ds (12 + z) v1)) := specCut_any p ⟨g, 0, none⟩ c ds (12 + z) v1 (RdB.of_own rfl S1.out.own) (by omega) hcc.1 hcc.2 (by omega) (by omega)
 (with_reducible refine KC.out.mono ?_)
 rintro e v2 ⟨gc, cc, ps, rfl, P2, hk2, b2⟩
 have S2 : Hid (WS w v2 p g c ds.length b5 rb lo ds) := S1.out.grown (grown_below b2)
 have R2 : Hid (Rdr v2 rb (M + 1)) := R1'.out.below b2
 have P2' : Hid (PL v2 (b5 + 1) (.slice (some ⟨gc, 0, none⟩) ps.length cc) ps) := P2.le (by have := S1.out.b5l; omega)
 have HK2 : Hid (ps.map PV.key = cutL p ds (12 + z)) := hk2
 go_simp
 refine hK.out _ _ S2.out.box (fun hH => ?_)
 clear hK K KC P2 hk2 b2
 (first | (simp only [zX, zY, zZ]) | skip)
 refine zTq hP 9 27 (.tuple #[.slice (some ⟨gc, 0, none⟩) ps.length cc, .int .i64 (cutC p ds.length (12 + z))]) rfl (fun w hS => by go_simp) hH ?_; simp only [Act.put, zX, zY, zZ]
 refine zTq hP 10 37 (.slice (some ⟨gc, 0, none⟩) ps.length cc) rfl (fun w hS => by go_simp) hH ?_; simp only [Act.put, zX, zY, zZ]
 refine zTq hP 11 38 (.int .i64 (cutC p ds.length (12 + z))) rfl (fun w hS => by go_simp) hH ?_; simp only [Act.put, zX, zY, zZ]
 refine zTq hP 12 6 (.slice (some ⟨gc, 0, none⟩) ps.length cc) rfl (fun w hS => by go_simp) hH ?_; simp only [Act.put, zX, zY, zZ]
 refine zTq hP 13 7 (.int .i64 (cutC p ds.length (12 + z))) rfl (fun w hS => by go_simp) hH ?_; simp only [Act.put, zX, zY, zZ]
 refine wpAnyH_done (by kernel_rfl) ?_ _
 refine frA_end (C := fun a => Q .normal a _) rfl rfl rfl (fun f => ?_)
 exact hQ.out f _ _ gc cc ps z z0 z2 S2.out R2.out P2'.out HK2.out
set_option maxHeartbeats 25600000 in
theorem am7 {Q : Exit → Act → World → Prop} {w v : World} {p : Pk} {ds : List Int} {g c lo b5 rb M gc cc : Nat} {ps : List PV} {v0 v1 v3 v7 v8 v9 v10 v11 : Value} {f : Nat → Value} (hM : M ≤ 800000) (hn : ps.length ≤ 1000) (S : WS w v p g c ds.length b5 rb lo ds) (hR : Rdr v rb M) (hL : PL v (b5 + 1) (.slice (some ⟨gc, 0, none⟩) ps.length cc) ps) (hQ : Hid (∀ f wx gq cq qs, WS w wx p g c ds.length b5 rb lo ds → Rdr wx rb (M + ps.length + 4) → PL wx (b5 + 1) (.slice (some ⟨gq, 0, none⟩) qs.length cq) qs → (∀ y ∈ qs, y ∈ ps) → (∀ y ∈ ps, y ∈ qs) → qs.length ≤ ps.length + 3 → Q .normal (frA v0 v1 (.pointer (some ⟨w.heap.size, 0, none⟩)) v3 (.pointer (some ⟨rb, 0, none⟩)) (.pointer (some ⟨b5, 0, none⟩)) (.slice (some ⟨gc, 0, none⟩) ps.length cc) v7 (.slice (some ⟨gq, 0, none⟩) qs.length cq) v9 v10 v11 f) wx)) : (Cd.fst (Cd.snd (Cd.snd (Cd.snd (Cd.snd (Cd.snd (Cd.snd (Option.getD Tryz.f17.body .skip)))))))).wp Tryz.prog Q (frA v0 v1 (.pointer (some ⟨w.heap.size, 0, none⟩)) v3 (.pointer (some ⟨rb, 0, none⟩)) (.pointer (some ⟨b5, 0, none⟩)) (.slice (some ⟨gc, 0, none⟩) ps.length cc) v7 v8 v9 v10 v11 f) v := by
 have hb5 := S.b5l
 have hrbl : rb < b5 := by have := S.rbl; have := S.lo5; omega
 have KM : Hid (Calls Tryz.prog 51 #[.pointer (some ⟨rb, 0, none⟩), .slice (some ⟨gc, 0, none⟩) ps.length cc] v fun e w' => ∃ (gq cq : Nat) (qs : List PV), e = .returned (.slice (some ⟨gq, 0, none⟩) qs.length cq) ∧ PL w' (b5 + 1) (.slice (some ⟨gq, 0, none⟩) qs.length cq) qs ∧ (∀ y ∈ qs, y ∈ ps) ∧ (∀ y ∈ ps, y ∈ qs) ∧ qs.length ≤ ps.length + 3 ∧ Rdr w' rb (M + ps.length + 4) ∧ v.grownBy w' (some rb)) := l5Mix_any rb M (b5 + 1) gc cc ps.length ps v rfl hR (by omega) hL (by omega) (by omega) (by omega)
 have HS : Hid (WS w v p g c ds.length b5 rb lo ds) := S
 clear S hR hL
 refine wp_is (c' := .region _ _ _) rfl ?_
 unfold frA
 go_wp2_with fail
 (with_reducible refine KM.out.mono ?_)
 rintro e v1 ⟨gq, cq, qs, rfl, P1, q1, q2, qn, R1, G1⟩
 have H1 : Hid (PL v1 (b5 + 1) (.slice (some ⟨gq, 0, none⟩) qs.length cq) qs ∧ Rdr v1 rb (M + ps.length + 4) ∧ (∀ y ∈ qs, y ∈ ps) ∧ (∀ y ∈ ps, y ∈ qs) ∧ qs.length ≤ ps.length + 3 ∧ WS w v1 p g c ds.length b5 rb lo ds) := ⟨P1, R1, q1, q2, qn, HS.out.grown G1⟩
 clear P1 R1 q1 q2 qn G1 KM HS
 go_wp2
 refine frA_end (C := fun a => Q .normal a _) rfl rfl rfl (fun f => ?_)
 exact hQ.out f _ gq cq qs H1.out.2.2.2.2.2 H1.out.2.1 H1.out.1 H1.out.2.2.1 H1.out.2.2.2.1 H1.out.2.2.2.2.1
set_option maxHeartbeats 25600000 in
theorem am8 {Q : Exit → Act → World → Prop} {w v : World} {p : Pk} {ds : List Int} {g c lo b5 rb M : Nat} {v0 v1 v3 v6 v7 v8 v9 v10 v11 : Value} {f : Nat → Value} (hM : M ≤ 800000) (S : WS w v p g c ds.length b5 rb lo ds) (hR : Rdr v rb M) (hQ : Hid (∀ f wx (t : Nat), t ≤ 12 → WS w wx p g c ds.length b5 rb lo ds → v.grownBy wx (some rb) → Rdr wx rb (M + 1) → Q .normal (frA v0 v1 (.pointer (some ⟨w.heap.size, 0, none⟩)) v3 (.pointer (some ⟨rb, 0, none⟩)) (.pointer (some ⟨b5, 0, none⟩)) v6 v7 v8 (.int .i64 t) v10 v11 f) wx)) : (Cd.fst (Cd.fst (Cd.snd (Cd.snd (Cd.snd (Cd.snd (Cd.snd (Cd.snd (Cd.snd (Option.getD Tryz.f17.body .skip)))))))))).wp Tryz.prog Q (frA v0 v1 (.pointer (some ⟨w.heap.size, 0, none⟩)) v3 (.pointer (some ⟨rb, 0, none⟩)) (.pointer (some ⟨b5, 0, none⟩)) v6 v7 v8 v9 v10 v11 f) v := by
 have KP : Hid (Calls Tryz.prog 23 #[.pointer (some ⟨rb, 0, none⟩), .int .i64 12] v (PickPost rb M 12 v)) := pick_any rb M 12 v hR (by omega) (by omega) (by omega)
 have HS : Hid (WS w v p g c ds.length b5 rb lo ds) := S
 clear S hR
 refine wp_is (c' := .region _ _ _) rfl ?_
 unfold frA
 go_wp2_with fail
 (with_reducible refine KP.out.mono ?_)
 rintro e v1 ⟨z, rfl, z0, z1, -, R1, G1⟩
 have z2 := z1 (by omega)
 obtain ⟨t, rfl⟩ := Int.eq_ofNat_of_zero_le z0
 have H1 : Hid (Rdr v1 rb (M + 1) ∧ v.grownBy v1 (some rb) ∧ WS w v1 p g c ds.length b5 rb lo ds) := ⟨R1, G1, HS.out.grown G1⟩
 clear R1 G1 KP HS
 go_wp2
 refine frA_end (C := fun a => Q .normal a _) rfl rfl rfl (fun f => ?_)
 exact hQ.out f _ t (by omega) H1.out.2.2 H1.out.2.1 H1.out.1
set_option maxHeartbeats 25600000 in
theorem am9 {Q : Exit → Act → World → Prop} {w v : World} {b5 rb t : Nat} {v0 v1 v3 v6 v7 v8 v10 v11 : Value} {f : Nat → Value} (hA : Hid (0 < t → ∀ f, Q .normal (frA v0 v1 (.pointer (some ⟨w.heap.size, 0, none⟩)) v3 (.pointer (some ⟨rb, 0, none⟩)) (.pointer (some ⟨b5, 0, none⟩)) v6 v7 v8 (.int .i64 t) v10 v11 f) v)) (hB : Hid (¬ 0 < t → ∀ f, Q (.exit 0) (frA v0 v1 (.pointer (some ⟨w.heap.size, 0, none⟩)) v3 (.pointer (some ⟨rb, 0, none⟩)) (.pointer (some ⟨b5, 0, none⟩)) v6 v7 v8 (.int .i64 t) v10 v11 f) v)) : (Cd.fst (Cd.inn (Cd.inn (Cd.snd (Cd.fst (Cd.snd (Cd.snd (Cd.snd (Cd.snd (Cd.snd (Cd.snd (Cd.snd (Option.getD Tryz.f17.body .skip))))))))))))).wp Tryz.prog Q (frA v0 v1 (.pointer (some ⟨w.heap.size, 0, none⟩)) v3 (.pointer (some ⟨rb, 0, none⟩)) (.pointer (some ⟨b5, 0, none⟩)) v6 v7 v8 (.int .i64 t) v10 v11 f) v := by
 refine wp_is (c' := .seq _ _) rfl ?_
 unfold frA
 by_cases hj : 0 < t
 ·have hj' : (0 : Int) < (t : Int) := by omega
  have HJ : Hid (0 < t) := hj
  clear hj
  go_wp2
  refine frA_end (C := fun a => Q .normal a _) rfl rfl rfl (fun f => ?_)
  exact hA.out HJ.out f
 ·have hj' : ¬ ((0 : Int) < (t : Int)) := by omega
  have HJ : Hid (¬ 0 < t) := hj
  clear hj
  go_wp2
  refine frA_end (C := fun a => Q (.exit 0) a _) rfl rfl rfl (fun f => ?_)
  exact hB.out HJ.out f
set_option maxHeartbeats 25600000 in
theorem am10 {Q : Exit → Act → World → Prop} {w v : World} {b5 rb t : Nat} {v0 v1 v3 v6 v7 v8 v10 v11 : Value} {f : Nat → Value} (ht : 0 < t) (ht2 : t ≤ 12) (hQ : Hid (∀ f, Q .normal (frA v0 v1 (.pointer (some ⟨w.heap.size, 0, none⟩)) v3 (.pointer (some ⟨rb, 0, none⟩)) (.pointer (some ⟨b5, 0, none⟩)) v6 v7 v8 (.int .i64 (t - 1 : Nat)) v10 v11 f) v)) : (Cd.snd (Cd.snd (Cd.inn (Cd.inn (Cd.snd (Cd.fst (Cd.snd (Cd.snd (Cd.snd (Cd.snd (Cd.snd (Cd.snd (Cd.snd (Option.getD Tryz.f17.body .skip)))))))))))))).wp Tryz.prog Q (frA v0 v1 (.pointer (some ⟨w.heap.size, 0, none⟩)) v3 (.pointer (some ⟨rb, 0, none⟩)) (.pointer (some ⟨b5, 0, none⟩)) v6 v7 v8 (.int .i64 t) v10 v11 f) v := by
 refine wp_is (c' := .region _ _ _) rfl ?_
 have hw : IntKind.i64.wrap ((t : Int) - 1) = ((t - 1 : Nat) : Int) := by rw [IntKind.wrap_i64]; omega
 unfold frA
 go_wp2
 refine frA_end (C := fun a => Q .normal a _) rfl rfl rfl (fun f => ?_)
 exact hQ.out f
set_option maxHeartbeats 25600000 in
theorem amLoop {Q : Exit → Act → World → Prop} (hP : PanicOk Q) {w v : World} {p : Pk} {ds : List Int} {g c lo b5 rb M gq m cq t : Nat} {qs : List PV} {v0 v1 v3 v6 v7 v10 v11 : Value} {f : Nat → Value} (ht : t ≤ 12) (hm1 : m ≤ 80) (hM : M ≤ 700000) (hm : qs.length = m) (S : WS w v p g c ds.length b5 rb lo ds) (hR : Rdr v rb M) (hL : PL v (b5 + 1) (.slice (some ⟨gq, 0, none⟩) m cq) qs) (hD : Drawn p ds qs) (hQ : Hid (∀ f u9 u10 u11 wx gq m cq qs, WS w wx p g c ds.length b5 rb lo ds → PL wx (b5 + 1) (.slice (some ⟨gq, 0, none⟩) m cq) qs → qs.length = m → m ≤ 100 → Drawn p ds qs → Q .normal (frA v0 v1 (.pointer (some ⟨w.heap.size, 0, none⟩)) v3 (.pointer (some ⟨rb, 0, none⟩)) (.pointer (some ⟨b5, 0, none⟩)) v6 v7 (.slice (some ⟨gq, 0, none⟩) m cq) (u9) (u10) (u11) f) wx)) : (Cd.snd (Cd.fst (Cd.snd (Cd.snd (Cd.snd (Cd.snd (Cd.snd (Cd.snd (Cd.snd (Option.getD Tryz.f17.body .skip)))))))))).wp Tryz.prog Q (frA v0 v1 (.pointer (some ⟨w.heap.size, 0, none⟩)) v3 (.pointer (some ⟨rb, 0, none⟩)) (.pointer (some ⟨b5, 0, none⟩)) v6 v7 (.slice (some ⟨gq, 0, none⟩) m cq) (.int .i64 t) v10 v11 f) v := by
 refine blk (i := 0) (by kernel_rfl) ?_
 refine wp_is (c' := .loop (Cd.inn (Cd.inn (Cd.snd (Cd.fst (Cd.snd (Cd.snd (Cd.snd (Cd.snd (Cd.snd (Cd.snd (Cd.snd (Option.getD Tryz.f17.body .skip))))))))))))) (by kernel_rfl) ?_
 refine wp_loop (fun a u => ∃ (t' gq m cq M : Nat) (qs : List PV) (v10 v11 : Value) (f : Nat → Value), t' ≤ t ∧ m + t' ≤ 92 ∧ M + 722 * t' ≤ 708664 ∧ qs.length = m ∧ a = frA v0 v1 (.pointer (some ⟨w.heap.size, 0, none⟩)) v3 (.pointer (some ⟨rb, 0, none⟩)) (.pointer (some ⟨b5, 0, none⟩)) v6 v7 (.slice (some ⟨gq, 0, none⟩) m cq) (.int .i64 t') v10 v11 f ∧ WS w u p g c ds.length b5 rb lo ds ∧ Rdr u rb M ∧ PL u (b5 + 1) (.slice (some ⟨gq, 0, none⟩) m cq) qs ∧ Drawn p ds qs) (fun a _ => (intOf (a.eval (.tmp 9))).toNat) ⟨t, gq, m, cq, M, qs, v10, v11, f, by omega, by omega, by omega, hm, rfl, S, hR, hL, hD⟩ ?_
 clear S hR hL hD hm hm1 hM
 rintro a u ⟨t', gq, m, cq, M, qs, v10, v11, f, ht', hmt, hMt, hm, rfl, S, hR, hL, hD⟩
 refine sq (by kernel_rfl) (am9 (fun h0 f => then_n ?_) (fun h0 f => then_x (then_x (blk_x (hQ.out f _ _ _ u gq m cq qs S hL hm (by omega) hD)))))
 refine sq (by kernel_rfl) (blk (i := 1) (by kernel_rfl) (amBody (((hP.blk 0).then _).then _ |>.blk 1) (by omega) (by omega) hm S hR hL hD (fun f u10 u11 wx g' c' qs' S' R' L' hm' D' => blk_n (then_n (am10 h0 (by omega) (fun f => then_n ⟨⟨t' - 1, g', m + 1, c', M + 722, qs', u10, u11, f, by omega, by omega, by omega, hm', rfl, S', R', L', D'⟩, ?_⟩))))))
 show (intOf (.int .i64 ((t' - 1 : Nat) : Int))).toNat < (intOf (.int .i64 (t' : Int))).toNat
 simp [intOf]
 omega
set_option maxHeartbeats 25600000 in
theorem amRest {Q : Exit → Act → World → Prop} (hP : PanicOk Q) {w v : World} {p : Pk} {ds : List Int} {g c lo b5 rb M : Nat} {v0 v1 v3 v6 v7 v8 v9 v10 v11 : Value} {f : Nat → Value} (h9 : p.src = 9) (hw : WholeOk p ds.length) (hby : ∀ z ∈ ds, 0 ≤ z ∧ z ≤ 255) (h13 : 13 ≤ ds.length) (hl : ds.length ≤ 200) (hM : M ≤ 600000) (S : WS w v p g c ds.length b5 rb lo ds) (hR : Rdr v rb M) (hE : Hid (∀ f u6 u7 u9 u10 u11 wx gq m cq qs, WS w wx p g c ds.length b5 rb lo ds → PL wx (b5 + 1) (.slice (some ⟨gq, 0, none⟩) m cq) qs → qs.length = m → m ≤ 100 → Drawn p ds qs → (Cd.snd (Cd.snd (Cd.snd (Cd.snd (Cd.snd (Cd.snd (Cd.snd (Cd.snd (Option.getD Tryz.f17.body .skip))))))))).wp Tryz.prog Q (frA v0 v1 (.pointer (some ⟨w.heap.size, 0, none⟩)) v3 (.pointer (some ⟨rb, 0, none⟩)) (.pointer (some ⟨b5, 0, none⟩)) (u6) (u7) (.slice (some ⟨gq, 0, none⟩) m cq) (u9) (u10) (u11) f) wx)) : (Cd.snd (Cd.snd (Cd.snd (Cd.snd (Cd.snd (Option.getD Tryz.f17.body .skip)))))).wp Tryz.prog Q (frA v0 v1 (.pointer (some ⟨w.heap.size, 0, none⟩)) v3 (.pointer (some ⟨rb, 0, none⟩)) (.pointer (some ⟨b5, 0, none⟩)) v6 v7 v8 v9 v10 v11 f) v := by
 refine sq (by kernel_rfl) (am6 (hP.then _) h13 hl (by omega) S hR (fun f u7 w1 gc cc ps z z0 z1 S1 R1 P1 hk1 => then_n ?_))
 have hps : ps.length ≤ 32 := by have := (cut_part hw (most := 12 + z) (by omega) (by omega)).2; rw [← hk1, List.length_map] at this; exact this
 refine sq (by kernel_rfl) (am7 (by omega) (by omega) S1 R1 P1 (fun f w2 gq cq qs S2 R2 P2 q1 q2 qn => then_n ?_))
 have D2 : Drawn p ds qs := Drawn.start hw h9 hby hk1 (by omega) (by omega) hl q1 q2 qn
 refine sq (by kernel_rfl) (sq (by kernel_rfl) (am8 (by omega) S2 R2 (fun f w3 t ht S3 G3 R3 => then_n ?_)))
 have hrb5 : rb < b5 + 1 := by have := S2.rbl; have := S2.lo5; omega
 exact amLoop ((hP.then _)) ht (by omega) (by omega) rfl S3 R3 (P2.grown G3 hrb5) D2 (fun f u9 u10 u11 wx gq m cq qs S4 P4 hm hm1 D4 => then_n (hE.out f _ _ _ _ _ wx gq m cq qs S4 P4 hm hm1 D4))
end Go.Proofs.YtjbkgmbakjnlhaaGreatDoor
