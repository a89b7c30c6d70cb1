import Derived.Test.YtjbkgmbakjnlhaaGreatDoorPartBc
import Derived.Test.YtjbkgmbakjnlhaaGreatDoorPartAw
namespace Go.Proofs.YtjbkgmbakjnlhaaGreatDoor
set_option maxRecDepth 100000
open Go.RowKit
set_option maxHeartbeats 12800000 in
theorem l5List_case1 (rb : Nat) (w : World) (N0 : Nat) (hN0 : N0 ≤ 500000) (hR : Rdr w rb N0) : (l5List_half rb w N0 hN0 hR).1.2.1 := by
 intro w1 u9 u10 u11 u12 u13 u14 u15 u16 u17 u18 u19 u20 u21 u22 u23 u24 u25 u26 u27 u28 u29 u30 u31 u32 u33 u34 u35 u36 u37 u38 u39 u40 u41 u42 u43 u44 u45 u46 u47 u48 u49 u50 u51 u52 u53 u54 u55 u56 u57 u58 u59 u60 u61 u62 u63 u64 u65 u66 u67 u68 u69 u70 u71 u72 u73 u74 u75 u76 u77 u78 u79 u80 u81 u82 u83 u84 u85 u86 u87 u88 u89 u90 u91 u92 u93 u94 u95 u96 u97 u98 u99 u100 u101 u102 u103 u104 u105 u106 u107 u108 u109 u110 u111 u112 u113 u114 u115 u116 u117 u118 u119 u120 u121 u122 u123 u124 u125 u126 u127 u128 u129 u130 u131 u132 u133 u134 u135 u136 u137 u138 u139 u140 u141 u142 u143 u144 u145 u146 u147 u148 u149 u150 u151 u152 u153 u154 u155 u156 u157 u158 u159 u160 u161 u162 u163 u164 u165 gl n cl ls hn w5 B hB w6 k hk w7 x x0 x8 L7 hB7 J K2 a1 a2 hB7' SAME RO hcc hkn hkn' y HY CE OY hyl HYB HYK hx0 hb0 hx1
 obtain ⟨ti, hti, hy0, hy1, hy2⟩ := info_parts Tryz.info29
 have hrl := hR.lt
 clear hR
 subst hx1
 obtain ⟨e0, e1, e2, e3, e4, e5, e6, e7, e8⟩ := id CE.out
 by_cases hyz : y.zs.length = 0
 ·have hyz' : ¬ ((0 : Int) < (y.zs.length : Int)) := by omega
  have HYZ : Hid (y.zs.length = 0) := hyz
  clear hyz
  go_wp2_with fail
  go_meet
  case rel => exact SAME.out
 have hyp : (0 : Int) < (y.zs.length : Int) := by omega
 clear SAME
 go_wp2_with fail
 refine (l1Copy_any y.p ⟨y.g, 0, none⟩ y.zs.length y.c y.zs _ (RdB.of_own rfl OY.out) (by omega)).mono ?_
 rintro e w8 ⟨g8, c8, rfl, o8, b8⟩
 have GB : Hid (w7.grownBy w8 (some rb)) := grown_below b8
 have s8 := b8.size
 have R8 := L7.out.rd.below b8
 have o8' := Joins.ownsRow_le o8 hB7
 have lg8 := own_lt o8 g8 rfl
 clear o8 b8 e0 e1 e2 e3 e4 e5 e6 e7 e8
 unfold Pk.val
 have KP : Hid (Calls Tryz.prog 23 #[.pointer (some ⟨rb, 0, none⟩), .int .i64 (y.zs.length : Int)] (w8.alloc (.cells (pcells y.p (.slice (some ⟨g8, 0, none⟩) y.zs.length c8)) 29)).drew (PickPost rb (N0 + 8002) (y.zs.length : Int) (w8.alloc (.cells (pcells y.p (.slice (some ⟨g8, 0, none⟩) y.zs.length c8)) 29)).drew)) := pick_any rb (N0 + 8002) (y.zs.length : Int) _ ((R8.below (zBa _ _)).below (draw1 _)) (by omega) (by omega) (by omega)
 have X8 : Hid ((w8.alloc (.cells (pcells y.p (.slice (some ⟨g8, 0, none⟩) y.zs.length c8)) 29)).drew.heap[w8.heap.size]? = some (.cells (pcells y.p (.slice (some ⟨g8, 0, none⟩) y.zs.length c8)) 29 (0, 0))) := heap_new _ _ _ rfl
 have O8 : Hid ((w8.alloc (.cells (pcells y.p (.slice (some ⟨g8, 0, none⟩) y.zs.length c8)) 29)).drew.ownsRow B 5 1 (.slice (some ⟨g8, 0, none⟩) y.zs.length c8) y.zs.length (y.zs.map (.int .u8))) := own_below (own_below o8' (zBa _ _)) (draw1 _)
 have G8 : Hid (w7.grownBy (w8.alloc (.cells (pcells y.p (.slice (some ⟨g8, 0, none⟩) y.zs.length c8)) 29)).drew (some rb)) := grown_trans (grown_trans GB.out (grown_below (zBa _ _))) (grown_below (draw1 _))
 clear o8' R8 GB
 have hrb7 : rb < w7.heap.size := by omega
 go_wp2_with fail
 refine wp_region_held_drew (S := fun v => v.heap[w8.heap.size]? = some (.cells (pcells y.p (.slice (some ⟨g8, 0, none⟩) y.zs.length c8)) 29 (0, 0))) (by kernel_rfl) X8.out (fun hH => ?_)
 refine zTk 0 74 (.pointer (some ⟨w8.heap.size, 8, none⟩)) rfl (fun w hS => by obtain ⟨lx, s0, s1, s2, s3, s4, s5, s6, s7, s8⟩ := Boxed.of_block hS; go_simp) hH ?_; simp only [Act.put, zX, zY, zZ]
 refine zTk 1 75 (.slice (some ⟨g8, 0, none⟩) y.zs.length c8) rfl (fun w hS => by obtain ⟨lx, s0, s1, s2, s3, s4, s5, s6, s7, s8⟩ := Boxed.of_block hS; go_simp) hH ?_; simp only [Act.put, zX, zY, zZ]
 refine zTk 2 76 (.pointer (some ⟨rb, 0, none⟩)) rfl (fun w hS => by obtain ⟨lx, s0, s1, s2, s3, s4, s5, s6, s7, s8⟩ := Boxed.of_block hS; go_simp) hH ?_; simp only [Act.put, zX, zY, zZ]
 refine zTk 3 77 (.pointer (some ⟨w8.heap.size, 8, none⟩)) rfl (fun w hS => by obtain ⟨lx, s0, s1, s2, s3, s4, s5, s6, s7, s8⟩ := Boxed.of_block hS; go_simp) hH ?_; simp only [Act.put, zX, zY, zZ]
 refine zTk 4 78 (.slice (some ⟨g8, 0, none⟩) y.zs.length c8) rfl (fun w hS => by obtain ⟨lx, s0, s1, s2, s3, s4, s5, s6, s7, s8⟩ := Boxed.of_block hS; go_simp) hH ?_; simp only [Act.put, zX, zY, zZ]
 refine zTk 5 79 (.int .i64 (y.zs.length : Int)) rfl (fun w hS => by obtain ⟨lx, s0, s1, s2, s3, s4, s5, s6, s7, s8⟩ := Boxed.of_block hS; go_simp) hH ?_; simp only [Act.put, zX, zY, zZ]
 refine zTk 7 81 (.pointer (some ⟨rb, 0, none⟩)) rfl (fun w hS => by obtain ⟨lx, s0, s1, s2, s3, s4, s5, s6, s7, s8⟩ := Boxed.of_block hS; go_simp) hH ?_; simp only [Act.put, zX, zY, zZ]
 refine zRd 6 (by kernel_rfl) rfl (fun K hK => ?_)
 go_simp
 refine KP.out.mono ?_
 rintro e w9 ⟨ii, rfl, i0, i1, -, R9, G9⟩
 obtain ⟨I, rfl⟩ := Int.eq_ofNat_of_zero_le i0
 have hI : I < y.zs.length := by have := i1 (by omega); omega
 have hrne : ∀ b, rb < b → some b ≠ some rb := fun b hb e => by have := Option.some.inj e; omega
 have X9 : w9.heap[w8.heap.size]? = some (.cells (pcells y.p (.slice (some ⟨g8, 0, none⟩) y.zs.length c8)) 29 (0, 0)) := (G9.block _ (lt_of_block X8.out) (hrne _ (by omega))).trans X8.out
 have O9 := own_grown O8.out G9 (by omega)
 have G79 := grown_trans G8.out G9
 clear i0 i1 G9 KP O8 G8 X8
 go_simp
 refine hK.out _ _ X9 (fun hH => ?_)
 clear hK K
 refine zRd 8 (by kernel_rfl) rfl (fun K hK => ?_)
 go_simp
 refine (pick_any rb (N0 + 8003) 4 w9 R9 (by omega) (by omega) (by omega)).mono ?_
 rintro e wa ⟨t, rfl, t0, t1, -, Ra, Ga⟩
 have t4 := t1 (by omega)
 have Xa : wa.heap[w8.heap.size]? = some (.cells (pcells y.p (.slice (some ⟨g8, 0, none⟩) y.zs.length c8)) 29 (0, 0)) := (Ga.block _ (lt_of_block X9) (hrne _ (by omega))).trans X9
 have OA : Hid (wa.ownsRow B 5 1 (.slice (some ⟨g8, 0, none⟩) y.zs.length c8) y.zs.length (y.zs.map (.int .u8))) := own_grown O9 Ga (by omega)
 have GA : Hid (w7.grownBy wa (some rb)) := grown_trans G79 Ga
 have RA : Hid (Rdr wa rb (N0 + 8004)) := Ra
 clear G79 Ga Ra O9 X9 R9 t1
 go_simp
 refine hK.out _ _ Xa (fun hH => ?_)
 clear hK K
 have hwt : IntKind.u8.wrap t = t := (by rw [IntKind.wrap_u8]; omega)
 refine zTk 9 83 (.int .u8 t) rfl (fun w hS => by obtain ⟨lx, s0, s1, s2, s3, s4, s5, s6, s7, s8⟩ := Boxed.of_block hS; go_simp) hH ?_; simp only [Act.put, zX, zY, zZ]
 refine zTk 10 84 (.pointer (some ⟨g8, I, none⟩)) rfl (fun w hS => by obtain ⟨lx, s0, s1, s2, s3, s4, s5, s6, s7, s8⟩ := Boxed.of_block hS; go_simp) hH ?_; simp only [Act.put, zX, zY, zZ]
 have hI' : (I : Int) < (y.zs.length : Int) := by omega
 have ca : wa.cell? ⟨g8, I, none⟩ = some (.int .u8 (y.zs[I])) := (by rw [OA.out.cellAt I (by simpa using hI)]; simp)
 have fa : wa.frozen? ⟨g8, I, none⟩ = false := own_frozen OA.out I
 refine zRd 11 (by kernel_rfl) rfl (fun K hK => ?_)
 go_simp
 refine hK.out _ _ ((zHs (show w8.heap.size ≠ g8 by omega)).trans Xa) (fun hH => ?_)
 clear hK K
 refine wpAnyH_done (by kernel_rfl) ?_ _
 have sa : w8.heap.size < wa.heap.size := lt_of_block Xa
 have hg8n : ¬ (w8.heap.size = g8) := by omega
 have hg8n' : ¬ (g8 = w8.heap.size) := by omega
 obtain ⟨lx, d0, d1, d2, d3, d4, d5, d6, d7, d8⟩ := Boxed.of_block Xa
 have BW : ∀ o, Below w7.heap.size wa ((wa.setCell ⟨g8, I, none⟩ (.int .u8 t)).alloc o) := fun o => ((Below.refl _ wa).setCell (show w7.heap.size ≤ g8 by omega) _).alloc (by simp; omega) o
 have OU : Hid ((wa.setCell ⟨g8, I, none⟩ (.int .u8 t)).ownsRow B 5 1 (.slice (some ⟨g8, 0, none⟩) (y.zs.set I t).length c8) (y.zs.set I t).length ((y.zs.set I t).map (.int .u8))) := (by rw [List.length_set, List.map_set]; exact own_set OA.out _)
 have HU : Hid (∀ z ∈ y.zs.set I t, 0 ≤ z ∧ z ≤ 255) := fun z hz => (by rcases List.mem_or_eq_of_mem_set hz with a | rfl; exact HYB.out z a; omega)
 have EL : Hid ((y.zs.set I t).length = y.zs.length) := List.length_set
 clear ca fa
 go_wp2_with (at_builtin; refine wpList_append_own _ rfl _ _ 23 rfl B 29 ti _ 9 88 Tryz.underlying23 hti hy0 hy1 hy2 rfl (by decide) (.slice (some ⟨gl, 0, none⟩) n cl) n (ls.flatMap PV.cells) rfl (L7.out.over GA.out (BW _) RA.out (by omega) hrb7).row ⟨wa.heap.size, 0, none⟩ 1 1 (PV.cells ⟨y.p, g8, c8, y.zs⟩) rfl rfl ?h1 ?h2 ?h3 ?h4 ?h5 ?_)
 case h1 => exact nine_at (y := ⟨y.p, g8, c8, y.zs⟩) (heap_new _ _ _ (by simp))
 case h2 => exact nine_one _ _ _ _
 case h3 => unfold maxLen; omega
 case h4 => omega
 case h5 => simp; omega
 intro v9 wb hown hgrow hnil
 obtain ⟨g9, c9, rfl⟩ : ∃ g9 c9, v9 = .slice (some ⟨g9, 0, none⟩) (n + 1) c9 := form_of hown hnil
 have ec : PV.cells ⟨y.p, g8, c8, y.zs⟩ = PV.cells ⟨y.p, g8, c8, y.zs.set I t⟩ := (by unfold PV.cells PV.data; rw [EL.out])
 rw [ec] at hown
 have LA : Hid (LS w wb rb (N0 + 12000) B g9 (n + 1) c9 (ls ++ [⟨y.p, g8, c8, y.zs.set I t⟩])) := ((L7.out.over GA.out (BW _) RA.out (by omega) hrb7).add (u := ⟨y.p, g8, c8, y.zs.set I t⟩) (by omega) (by omega) (own_below OU.out (zBa _ _)) (by rw [EL.out]; exact hyl) HU.out hown hgrow).mono (by omega)
 clear hown hgrow hnil OU HU GA RA OA d0 d1 d2 d3 d4 d5 d6 d7 d8 lx
 go_wp2_with fail
 go_meet
 case rel => exact ⟨g9, n + 1, c9, _, rfl, by omega, LA.out⟩
set_option maxHeartbeats 12800000 in
theorem l5List_case2 (rb : Nat) (w : World) (N0 : Nat) (hN0 : N0 ≤ 500000) (hR : Rdr w rb N0) : (l5List_half rb w N0 hN0 hR).1.2.2.1 := by
 intro w1 u9 u10 u11 u12 u13 u14 u15 u16 u17 u18 u19 u20 u21 u22 u23 u24 u25 u26 u27 u28 u29 u30 u31 u32 u33 u34 u35 u36 u37 u38 u39 u40 u41 u42 u43 u44 u45 u46 u47 u48 u49 u50 u51 u52 u53 u54 u55 u56 u57 u58 u59 u60 u61 u62 u63 u64 u65 u66 u67 u68 u69 u70 u71 u72 u73 u74 u75 u76 u77 u78 u79 u80 u81 u82 u83 u84 u85 u86 u87 u88 u89 u90 u91 u92 u93 u94 u95 u96 u97 u98 u99 u100 u101 u102 u103 u104 u105 u106 u107 u108 u109 u110 u111 u112 u113 u114 u115 u116 u117 u118 u119 u120 u121 u122 u123 u124 u125 u126 u127 u128 u129 u130 u131 u132 u133 u134 u135 u136 u137 u138 u139 u140 u141 u142 u143 u144 u145 u146 u147 u148 u149 u150 u151 u152 u153 u154 u155 u156 u157 u158 u159 u160 u161 u162 u163 u164 u165 gl n cl ls hn w5 B hB w6 k hk w7 x x0 x8 L7 hB7 J K2 a1 a2 hB7' SAME RO hcc hkn hkn' y HY CE OY hyl HYB HYK hx0 hb0 hx1 hb1 hx2
 obtain ⟨ti, hti, hy0, hy1, hy2⟩ := info_parts Tryz.info29
 have hrl := hR.lt
 clear hR
 subst hx2
 clear SAME
 obtain ⟨e0, e1, e2, e3, e4, e5, e6, e7, e8⟩ := id CE.out
 go_wp2_with fail
 refine (l1Copy_any y.p ⟨y.g, 0, none⟩ y.zs.length y.c y.zs _ (RdB.of_own rfl OY.out) (by omega)).mono ?_
 rintro e w8 ⟨g8, c8, rfl, o8, b8⟩
 have L8 := L7.out.below b8
 have GB : Hid (w7.grownBy w8 (some rb)) := grown_below b8
 have s8 := b8.size
 have o8' := Joins.ownsRow_le o8 hB7
 have lg8 := own_lt o8 g8 rfl
 clear o8 b8 e0 e1 e2 e3 e4 e5 e6 e7 e8
 unfold Pk.val
 go_wp2_with fail
 refine (pick_any rb (N0 + 8002) 9 _ (L8.rd.below (zBa _ _)) (by omega) (by omega) (by omega)).mono ?_
 rintro e w9 ⟨t, rfl, t0, t1, -, R9, G9⟩
 have G79 : Hid (w7.grownBy w9 (some rb)) := grown_trans (grown_trans GB.out (grown_below (zBa _ _))) G9
 have R9' : Hid (Rdr w9 rb (N0 + 8003)) := R9
 have X9 : w9.heap[w8.heap.size]? = some (.cells (pcells y.p (.slice (some ⟨g8, 0, none⟩) y.zs.length c8)) 29 (0, 0)) := (G9.block _ (by simp) (fun e => by have := Option.some.inj e; omega)).trans (heap_new _ _ _ rfl)
 have O9 : Hid (w9.ownsRow B 5 1 (.slice (some ⟨g8, 0, none⟩) y.zs.length c8) y.zs.length (y.zs.map (.int .u8))) := own_grown (own_below o8' (zBa w8 (.cells (pcells y.p (.slice (some ⟨g8, 0, none⟩) y.zs.length c8)) 29))) G9 (by omega)
 have f9 : ∀ o, w9.frozen? ⟨w8.heap.size, o, none⟩ = false := fun o => zUf X9 o
 have s9 : w8.heap.size < w9.heap.size := lt_of_block X9
 obtain ⟨lx, d0, d1, d2, d3, d4, d5, d6, d7, d8⟩ := Boxed.of_block X9
 have ht : IntKind.i64.wrap (1 + t) = 1 + t := (by rw [IntKind.wrap_i64]; have := t1 (by omega); omega)
 clear L8 o8' G9 R9 X9 GB
 have hsb : w8.heap.size ≤ w9.heap.size := Nat.le_of_lt s9
 have hrb7 : rb < w7.heap.size := by omega
 go_wp2_with (at_builtin; refine wpList_append_own _ rfl _ _ 23 rfl B 29 ti _ 9 88 Tryz.underlying23 hti hy0 hy1 hy2 rfl (by decide) (.slice (some ⟨gl, 0, none⟩) n cl) n (ls.flatMap PV.cells) rfl (L7.out.set2 G79.out R9'.out (by omega) hrb7 s8 hsb _ _ _).row ⟨w9.heap.size, 0, none⟩ 1 1 (PV.cells ⟨⟨y.p.src, y.p.dst, y.p.kind, y.p.id, 1 + t, y.p.whole, y.p.off, !y.p.more⟩, g8, c8, y.zs⟩) rfl rfl ?h1 ?h2 ?h3 ?h4 ?h5 ?_)
 case h1 => exact nine_at (y := ⟨⟨y.p.src, y.p.dst, y.p.kind, y.p.id, 1 + t, y.p.whole, y.p.off, !y.p.more⟩, g8, c8, y.zs⟩) (heap_new _ _ _ (by simp))
 case h2 => exact nine_one _ _ _ _
 case h3 => unfold maxLen; omega
 case h4 => omega
 case h5 => simp; omega
 intro v9 wa hown hgrow hnil
 obtain ⟨g9, c9, rfl⟩ : ∃ g9 c9, v9 = .slice (some ⟨g9, 0, none⟩) (n + 1) c9 := form_of hown hnil
 have LA : Hid (LS w wa rb (N0 + 12000) B g9 (n + 1) c9 (ls ++ [⟨⟨y.p.src, y.p.dst, y.p.kind, y.p.id, 1 + t, y.p.whole, y.p.off, !y.p.more⟩, g8, c8, y.zs⟩])) := ((L7.out.set2 G79.out R9'.out (by omega) hrb7 s8 hsb _ _ _).add (u := ⟨⟨y.p.src, y.p.dst, y.p.kind, y.p.id, 1 + t, y.p.whole, y.p.off, !y.p.more⟩, g8, c8, y.zs⟩) (by omega) (by omega) (own_set2 O9.out lg8.2 hsb _ _ _) hyl HYB.out hown hgrow).mono (by omega)
 clear hown hgrow hnil O9 G79 R9' d0 d1 d2 d3 d4 d5 d6 d7 d8 lx
 go_wp2_with fail
 go_meet
 case rel => exact ⟨g9, n + 1, c9, _, rfl, by omega, LA.out⟩
set_option maxHeartbeats 12800000 in
theorem l5List_case4 (rb : Nat) (w : World) (N0 : Nat) (hN0 : N0 ≤ 500000) (hR : Rdr w rb N0) : (l5List_half rb w N0 hN0 hR).1.2.2.2.1 := by
 intro w1 u9 u10 u11 u12 u13 u14 u15 u16 u17 u18 u19 u20 u21 u22 u23 u24 u25 u26 u27 u28 u29 u30 u31 u32 u33 u34 u35 u36 u37 u38 u39 u40 u41 u42 u43 u44 u45 u46 u47 u48 u49 u50 u51 u52 u53 u54 u55 u56 u57 u58 u59 u60 u61 u62 u63 u64 u65 u66 u67 u68 u69 u70 u71 u72 u73 u74 u75 u76 u77 u78 u79 u80 u81 u82 u83 u84 u85 u86 u87 u88 u89 u90 u91 u92 u93 u94 u95 u96 u97 u98 u99 u100 u101 u102 u103 u104 u105 u106 u107 u108 u109 u110 u111 u112 u113 u114 u115 u116 u117 u118 u119 u120 u121 u122 u123 u124 u125 u126 u127 u128 u129 u130 u131 u132 u133 u134 u135 u136 u137 u138 u139 u140 u141 u142 u143 u144 u145 u146 u147 u148 u149 u150 u151 u152 u153 u154 u155 u156 u157 u158 u159 u160 u161 u162 u163 u164 u165 gl n cl ls hn w5 B hB w6 k hk w7 x x0 x8 L7 hB7 J K2 a1 a2 hB7' SAME RO hcc hkn hkn' y HY CE OY hyl HYB HYK hx0 hb0 hx1 hb1 hx2 hb2 hx3 hb3 hx4
 obtain ⟨ti, hti, hy0, hy1, hy2⟩ := info_parts Tryz.info29
 have hrl := hR.lt
 clear hR
 subst hx4
 clear SAME
 go_wp2_with fail
 refine (pick_any rb (N0 + 8002) 3 _ L7.out.rd (by omega) (by omega) (by omega)).mono ?_
 rintro e w8 ⟨t, rfl, t0, t1, -, R8, G8⟩
 have L8 : Hid (LS w w8 rb (N0 + 8003) B gl n cl ls) := L7.out.grown G8 (by omega) R8
 have OY8 : Hid (w8.ownsRow B 5 1 (.slice (some ⟨y.g, 0, none⟩) y.zs.length y.c) y.zs.length (y.zs.map (.int .u8))) := own_grown OY.out G8 (by omega)
 have hB8 := Nat.le_trans hB7 G8.size
 clear R8 G8 L7 RO OY CE t1
 by_cases ht : t = 0
 ·subst ht
  obtain ⟨e0, e1, e2, e3, e4, e5, e6, e7, e8⟩ := id (L8.out.pl.elemI L8.out.len HYK.out)
  go_wp2_with fail
  refine (l5Spoil_any rb (N0 + 8003) B y.p y.g y.c y.zs _ L8.out.rd (by omega) OY8.out (by omega) hB8 hyl HYB).mono ?_
  rintro e w9 ⟨q, g9, c9, len9, zs, rfl, o9, hz9, hl9, -, R9, G9, hby9⟩
  subst hz9
  have L9 : Hid (LS w w9 rb (N0 + 8003 + 720) B gl n cl ls) := L8.out.grown G9 (by omega) R9
  have O9 : Hid (w9.ownsRow B 5 1 (.slice (some ⟨g9, 0, none⟩) zs.length c9) zs.length (zs.map (.int .u8))) := o9
  have HB9 : Hid (∀ z ∈ zs, 0 ≤ z ∧ z ≤ 255) := hby9
  clear R9 G9 o9 hby9 L8 OY8 e0 e1 e2 e3 e4 e5 e6 e7 e8
  have f9 : ∀ o, w9.frozen? ⟨gl, o, none⟩ = false := fun o => own_frozen L9.out.row o
  obtain ⟨e0, e1, e2, e3, e4, e5, e6, e7, e8⟩ := id (L9.out.pl.elemI L9.out.len HYK.out)
  unfold Pk.val
  go_wp2_with fail
  go_meet
  case rel => exact ⟨gl, n, cl, ls.set k ⟨q, g9, c9, zs⟩, rfl, by omega, (L9.out.put (u := ⟨q, g9, c9, zs⟩) (by omega) (by omega) hkn O9.out hl9 HB9.out).mono (by omega)⟩
 ·have htb : (t == 0) = false := by simp [ht]
  go_wp2_with fail
  go_meet
  case rel => exact ⟨gl, n, cl, ls, rfl, by omega, L8.out.mono (by omega)⟩
set_option maxHeartbeats 12800000 in
theorem l5List_rest (rb : Nat) (w : World) (N0 : Nat) (hN0 : N0 ≤ 500000) (hR : Rdr w rb N0) : (l5List_half rb w N0 hN0 hR).1.2.2.2.2 := by
 intro w1 gl n cl ls w5 B hB w6 k w7 x u6 u7 u9 u10 u11 u12 u13 u14 u15 u16 u17 u18 u19 u20 u21 u22 u23 u24 u25 u26 u27 u28 u29 u30 u31 u32 u33 u34 u35 u36 u37 u38 u39 u40 u41 u42 u43 u44 u45 u46 u47 u48 u49 u50 u51 u52 u53 u54 u55 u56 u57 u58 u59 u60 u61 u62 u63 u64 u65 u66 u67 u68 u69 u70 u71 u72 u73 u74 u75 u76 u77 u78 u79 u80 u81 u82 u83 u84 u85 u86 u87 u88 u89 u90 u91 u92 u93 u94 u95 u96 u97 u98 u99 u100 u101 u102 u103 u104 u105 u106 u107 u108 u109 u110 u111 u112 u113 u114 u115 u116 u117 u118 u119 u120 u121 u122 u123 u124 u125 u126 u127 u128 u129 u130 u131 u132 u133 u134 u135 u136 u137 u138 u139 u140 u141 u142 u143 u144 u145 u146 u147 u148 u149 u150 u151 u152 u153 u154 u155 u156 u157 u158 u159 u160 u161 u162 u163 u164 u165 ga na ca us hna w8 LA
 obtain ⟨ti, hti, hy0, hy1, hy2⟩ := info_parts Tryz.info29
 have hrl := hR.lt
 clear hR
 go_wp2
 go_loopg [4] 40 (fun gk v wr => ∃ (g n c : Nat) (qs : List PV), 40 ≤ n + gk ∧ v = .slice (some ⟨g, 0, none⟩) n c ∧ n ≤ 2200 ∧ Hid (LS w wr rb (N0 + 12000 + 2 * n) B g n c qs))
 case atStart => exact ⟨ga, na, ca, us, by omega, rfl, hna, LA.out.mono (by omega)⟩
 case round =>
  obtain ⟨gb, nb, cb, bs, hgk, rfl, hnb, LB⟩ := hrel
  go_wp2_with fail
  refine (pick_any rb (N0 + 12000 + 2 * nb) 40 _ LB.out.rd (by omega) (by omega) (by omega)).mono ?_
  rintro e wp ⟨y, rfl, y0, y1, -, R8, G8⟩
  have LC : Hid (LS w wp rb (N0 + 12000 + 2 * nb + 1) B gb nb cb bs) := LB.out.grown G8 (by omega) R8
  clear LB R8 G8 y1
  have FIN : Hid (ListPost rb (N0 + 40000) w (.returned (.slice (some ⟨gb, 0, none⟩) nb cb)) wp) := ⟨gb, nb, cb, bs, rfl, (LC.out.mono (by omega)).le (by omega), by omega⟩
  by_cases hy : y = 0
  ·subst hy
   by_cases hn0 : nb = 0
   ·subst hn0
    go_wp2
    go_ret
    exact FIN.out
   have hnp : (0 : Int) < (nb : Int) := by omega
   by_cases hn40 : 40 ≤ nb
   ·have hn40' : ¬ ((nb : Int) < 40) := by omega
    go_wp2
    go_ret
    exact FIN.out
   have hn40' : (nb : Int) < 40 := by omega
   clear FIN
   go_wp2_with fail
   refine (pick_any rb (N0 + 12000 + 2 * nb + 1) 2 _ LC.out.rd (by omega) (by omega) (by omega)).mono ?_
   rintro e wq ⟨zi, rfl, z0, z1, -, R9, G9⟩
   obtain ⟨z, rfl⟩ := Int.eq_ofNat_of_zero_le z0
   have hz1 : z ≤ 1 := by have := z1 (by omega); omega
   have LD : Hid (LS w wq rb (N0 + 12000 + 2 * nb + 2) B gb nb cb bs) := LC.out.grown G9 (by omega) R9
   clear LC R9 G9 z1 z0
   go_wp2
   go_loopg [4] (40 + z - nb) (fun gj v wx => ∃ (g m c : Nat) (qs : List PV), m + gj = 40 + z ∧ 1 ≤ m ∧ v = .slice (some ⟨g, 0, none⟩) m c ∧ Hid (LS w wx rb (N0 + 12000 + 2 * nb + 2) B g m c qs))
   case atStart => exact ⟨gb, nb, cb, bs, by omega, by omega, rfl, LD.out⟩
   case round =>
    clear LD
    obtain ⟨gm, m, cm, ms, hgj, hm1, rfl, LM⟩ := hrel
    by_cases hmz : m = 40 + z
    ·have hmz' : ¬ ((m : Int) < 40 + (z : Int)) := by omega
     have HMZ : Hid (m = 40 + z) := hmz
     clear hmz
     go_wp2
     have hmz := HMZ.out
     go_roundg 0
     case measure => omega
     case rel => exact ⟨gm, m, cm, ms, by omega, rfl, by omega, LM.out.mono (by omega)⟩
    ·have hmz' : (m : Int) < 40 + (z : Int) := by omega
     have hmp : (0 : Int) < (m : Int) := by omega
     obtain ⟨u, hu⟩ := get_of_lt (show 0 < ms.length by rw [LM.out.len]; omega)
     obtain ⟨c0, c1, c2, c3, c4, c5, c6, c7, c8⟩ := id (LM.out.pl.elemI LM.out.len hu)
     simp only [Nat.zero_mul, Nat.zero_add] at c0 c1 c2 c3 c4 c5 c6 c7 c8
     have HU : Hid (u ∈ ms) := List.mem_of_getElem? hu
     have RO : Hid (wr.ownsRow B 29 9 (.slice (some ⟨gm, 0, none⟩) m cm) m (ms.flatMap PV.cells)) := (by have h := LM.out.pl.row; rw [LM.out.len] at h; exact h)
     have hBr : B ≤ wr.heap.size := Nat.le_trans (own_lt RO.out gm rfl).1 (Nat.le_of_lt (own_lt RO.out gm rfl).2)
     clear hu
     go_wp2_with (at_builtin; refine wpList_append_own _ rfl _ _ 23 rfl B 29 ti _ 9 88 Tryz.underlying23 hti hy0 hy1 hy2 rfl (by decide) (.slice (some ⟨gm, 0, none⟩) m cm) m (ms.flatMap PV.cells) rfl (RO.out.alloc _) ⟨wr.heap.size, 0, none⟩ 1 1 (PV.cells u) rfl rfl ?h1 ?h2 ?h3 ?h4 ?h5 ?_)
     case h1 => exact nine_new wr _ _
     case h2 => exact nine_one _ _ _ _
     case h3 => unfold maxLen; omega
     case h4 => omega
     case h5 => simp; omega
     intro v1 wt hown hgrow hnil
     obtain ⟨g', c', rfl⟩ : ∃ g' c', v1 = .slice (some ⟨g', 0, none⟩) (m + 1) c' := form_of hown hnil
     have LT : Hid (LS w wt rb (N0 + 12000 + 2 * nb + 2) B g' (m + 1) c' (ms ++ [u])) := (LM.out.below (zBa _ _)).add (by omega) (by omega) (own_below (LM.out.pl.each u HU.out) (zBa _ _)) (LM.out.small u HU.out) (LM.out.byte u HU.out) hown hgrow
     clear hown hgrow hnil RO LM c0 c1 c2 c3 c4 c5 c6 c7 c8
     go_wp2
     go_roundg (40 + z - (m + 1))
     case measure => omega
     case rel => exact ⟨g', m + 1, c', _, by omega, by omega, rfl, LT.out⟩
  ·go_wp2
   go_ret
   exact FIN.out
theorem l5List_any (rb : Nat) (w : World) (N0 : Nat) (hN0 : N0 ≤ 500000) (hR : Rdr w rb N0) : Calls Tryz.prog 25 #[.pointer (some ⟨rb, 0, none⟩)] w (ListPost rb (N0 + 40000) w) :=
 (l5List_parts rb w N0 hN0 hR).2 ((l5List_half rb w N0 hN0 hR).2 (l5List_case0 rb w N0 hN0 hR) (l5List_case1 rb w N0 hN0 hR) (l5List_case2 rb w N0 hN0 hR) (l5List_case4 rb w N0 hN0 hR) (l5List_rest rb w N0 hN0 hR))
theorem rises_all {ss : List SV} (h : ∀ (j : Nat) s, ss[j]? = some s → rises ss j s) : ∀ (d i : Nat) (r s : SV), ss[i]? = some r → ss[i + d]? = some s → r.since ≤ s.since
 | 0, i, r, s, hr, hs => by
  rw [Nat.add_zero] at hs
  rw [hr] at hs
  obtain rfl := Option.some.inj hs
  exact Int.le_refl _
 | d + 1, i, r, s, hr, hs => by
  have hlt := (List.getElem?_eq_some_iff.1 hs).1
  have hq : ss[i + d]? = some ss[i + d] := List.getElem?_eq_getElem (by omega)
  have h1 := rises_all h d i r _ hr hq
  have h2 := h (i + (d + 1)) s hs ss[i + d] (by omega) (by rw [show i + (d + 1) - 1 = i + d by omega]; exact hq)
  omega
def benchPw (now : Int) (ss : List SV) : Prop := (0 ≤ now ∧ now ≤ 1000000) ∧ ss.length ≤ 4 ∧ (∀ s ∈ ss, sinceOk now s ∧ waits s) ∧ ss.Pairwise fun r s => r.since ≤ s.since ∧ ¬ firstAlike r s
theorem benchOk_pw {now : Int} {ss : List SV} : benchOk now ss ↔ benchPw now ss := by
 constructor
 ·rintro ⟨h1, h2, h3⟩
  refine ⟨h1, h2, fun s hs => ?_, List.pairwise_iff_getElem.2 fun i j hi hj hij => ⟨?_, ?_⟩⟩
  ·obtain ⟨j, hj⟩ := List.getElem?_of_mem hs
   exact ⟨(h3 j s hj).1, (h3 j s hj).2.1⟩
  ·refine rises_all (fun j s hs => (h3 j s hs).2.2.1) (j - i) i _ _ (List.getElem?_eq_getElem hi) ?_
   rw [show i + (j - i) = j by omega]
   exact List.getElem?_eq_getElem hj
  ·exact (h3 j _ (List.getElem?_eq_getElem hj)).2.2.2 i _ hij (List.getElem?_eq_getElem hi)
 ·rintro ⟨h1, h2, h3, h4⟩
  have hp := List.pairwise_iff_getElem.1 h4
  refine ⟨h1, h2, fun j s hs => ?_⟩
  obtain ⟨hj, rfl⟩ := List.getElem?_eq_some_iff.1 hs
  refine ⟨(h3 _ (List.getElem_mem hj)).1, (h3 _ (List.getElem_mem hj)).2, fun r h0 hr => ?_, fun i r hi hr => ?_⟩
  ·obtain ⟨hr1, rfl⟩ := List.getElem?_eq_some_iff.1 hr
   exact (hp (j - 1) j hr1 hj (by omega)).1
  ·obtain ⟨hr1, rfl⟩ := List.getElem?_eq_some_iff.1 hr
   exact (hp i j hr1 hj hi).2
theorem tick_ok {now : Int} {ss ts : List SV} (h : benchOk now ss) (hn : now ≠ 1000000) (hk : ts.map SV.key = (ss.map SV.key).filter (fun k => decide (now + 1 - 6 < k.2.1))) : benchOk (now + 1) ts ∧ ∀ t ∈ ts, ∃ s ∈ ss, t.since = s.since := by
 have hk2 : ts.map SV.key = (ss.filter fun s => decide (now + 1 - 6 < s.since)).map SV.key := by
  rw [hk, List.filter_map]
  rfl
 obtain ⟨h1, h2, h3, h4⟩ := benchOk_pw.1 h
 have hsub : List.Sublist (ss.filter fun s => decide (now + 1 - 6 < s.since)) ss := List.filter_sublist
 refine ⟨(benchOk_iff hk2).2 (benchOk_pw.2 ⟨⟨by omega, by omega⟩, Nat.le_trans hsub.length_le h2, fun s hs => ?_, h4.sublist hsub⟩), fun t ht => ?_⟩
 ·obtain ⟨hs1, hs2⟩ := List.mem_filter.1 hs
  have h5 := h3 s hs1
  have h6 : now + 1 - 6 < s.since := of_decide_eq_true hs2
  refine ⟨⟨?_, h5.1.2.1, h6⟩, h5.2⟩
  have := h5.1.1
  omega
 ·have hm : t.key ∈ (ss.filter fun s => decide (now + 1 - 6 < s.since)).map SV.key := by rw [← hk2]; exact List.mem_map.2 ⟨t, ht, rfl⟩
  obtain ⟨s, hs, hsk⟩ := List.mem_map.1 hm
  exact ⟨s, (List.mem_filter.1 hs).1, (congrArg (fun k => k.2.1) hsk).symm⟩
end Go.Proofs.YtjbkgmbakjnlhaaGreatDoor
