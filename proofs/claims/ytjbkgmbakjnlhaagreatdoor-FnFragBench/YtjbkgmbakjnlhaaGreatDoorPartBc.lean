import Derived.Test.YtjbkgmbakjnlhaaGreatDoorDrawLA
namespace Go.Proofs.YtjbkgmbakjnlhaaGreatDoor
set_option maxRecDepth 100000
open Go.RowKit
def mk5 {C P0 P1 P2 P3 P4 : Prop} (h : Shut1 P0 → Shut1 P1 → Shut1 P2 → Shut1 P3 → Shut1 P4 → C) : {P : Prop × Prop × Prop × Prop × Prop // P.1 → P.2.1 → P.2.2.1 → P.2.2.2.1 → P.2.2.2.2 → C} := ⟨(P0, P1, P2, P3, P4), fun p0 p1 p2 p3 p4 => h ⟨p0⟩ ⟨p1⟩ ⟨p2⟩ ⟨p3⟩ ⟨p4⟩⟩
set_option maxHeartbeats 12800000 in
def l5List_half (rb : Nat) (w : World) (N0 : Nat) (hN0 : N0 ≤ 500000) (hR : Rdr w rb N0) : {P : Prop × Prop × Prop × Prop × Prop // P.1 → P.2.1 → P.2.2.1 → P.2.2.2.1 → P.2.2.2.2 → (l5List_parts rb w N0 hN0 hR).1} := by
 apply mk5
 case h =>
  intro HP0 HP1 HP2 HP3 HP4
  intro w1 u9 u10 u11 u12 u13 u14 u15 u16 u17 u18 u19 u20 u21 u22 u23 u24 u25 u26 u27 u28 u29 u30 u31 u32 u33 u34 u35 u36 u37 u38 u39 u40 u41 u42 u43 u44 u45 u46 u47 u48 u49 u50 u51 u52 u53 u54 u55 u56 u57 u58 u59 u60 u61 u62 u63 u64 u65 u66 u67 u68 u69 u70 u71 u72 u73 u74 u75 u76 u77 u78 u79 u80 u81 u82 u83 u84 u85 u86 u87 u88 u89 u90 u91 u92 u93 u94 u95 u96 u97 u98 u99 u100 u101 u102 u103 u104 u105 u106 u107 u108 u109 u110 u111 u112 u113 u114 u115 u116 u117 u118 u119 u120 u121 u122 u123 u124 u125 u126 u127 u128 u129 u130 u131 u132 u133 u134 u135 u136 u137 u138 u139 u140 u141 u142 u143 u144 u145 u146 u147 u148 u149 u150 u151 u152 u153 u154 u155 u156 u157 u158 u159 u160 u161 u162 u163 u164 u165 gl n cl ls hn w5 B hB5 hB LL
  obtain ⟨ti, hti, hy0, hy1, hy2⟩ := info_parts Tryz.info29
  have hrl := hR.lt
  go_wp2_with fail
  refine (pick_any rb (N0 + 8000) (n + 1) _ LL.out.rd (by omega) (by omega) (by omega)).mono ?_
  rintro e w6 ⟨kk, rfl, k0, k1, -, R6, G6⟩
  obtain ⟨k, rfl⟩ := Int.eq_ofNat_of_zero_le k0
  have hk : k ≤ n := by have := k1 (by omega); omega
  have L6 := LL.out.grown G6 (by omega) R6
  have hB6 := Nat.le_trans hB5 G6.size
  clear LL R6 G6 hB5 k1 k0
  go_wp2_with fail
  refine (pick_any rb (N0 + 8001) 8 _ L6.rd (by omega) (by omega) (by omega)).mono ?_
  rintro e w7 ⟨x, rfl, x0, x1, -, R7, G7⟩
  have x8 := x1 (by omega)
  have L7 : Hid (LS w w7 rb (N0 + 8002) B gl n cl ls) := L6.grown G7 (by omega) R7
  have hB7 := Nat.le_trans hB6 G7.size
  clear L6 R7 G7 hB6 x1
  go_upto_block 0 with fail
  go_cut [4] from 9 (fun s4 wx => ∃ (g n c : Nat) (qs : List PV), s4 = .slice (some ⟨g, 0, none⟩) n c ∧ n ≤ 2200 ∧ Hid (LS w wx rb (N0 + 12000) B g n c qs))
  case first =>
   have hl7 := L7.out.len
   have hB7' : w.heap.size ≤ w7.heap.size := by omega
   have SAME : Hid (∃ (g n' c : Nat) (qs : List PV), Value.slice (some ⟨gl, 0, none⟩) n cl = .slice (some ⟨g, 0, none⟩) n' c ∧ n' ≤ 2200 ∧ Hid (LS w w7 rb (N0 + 12000) B g n' c qs)) := ⟨gl, n, cl, ls, rfl, by omega, L7.out.mono (by omega)⟩
   have RO : Hid (w7.ownsRow B 29 9 (.slice (some ⟨gl, 0, none⟩) n cl) n (ls.flatMap PV.cells)) := (by have h := L7.out.pl.row; rw [hl7] at h; exact h)
   have hcc := own_caps RO.out
   clear hl7
   by_cases hkn : k < n
   ·have hkn' : (k : Int) < (n : Int) := by omega
    obtain ⟨y, hy⟩ := get_of_lt (show k < ls.length by rw [L7.out.len]; omega)
    have HY : Hid (y ∈ ls) := List.mem_of_getElem? hy
    have CE : Hid (Elem w7 gl k y) := L7.out.pl.elemI L7.out.len hy
    have OY : Hid (w7.ownsRow B 5 1 (.slice (some ⟨y.g, 0, none⟩) y.zs.length y.c) y.zs.length (y.zs.map (.int .u8))) := L7.out.pl.each y HY.out
    have hyl := L7.out.small y HY.out
    have HYB : Hid (∀ z ∈ y.zs, 0 ≤ z ∧ z ≤ 255) := L7.out.byte y HY.out
    have HYK : Hid (ls[k]? = some y) := hy
    clear hy
    by_cases hx0 : x = 0
    ·rename_i K0 aK J K2 a1 a2
     clear aK K0 hrl hti hy0 hy1 hy2
     clear ti
     revert w1 u9 u10 u11 u12 u13 u14 u15 u16 u17 u18 u19 u20 u21 u22 u23 u24 u25 u26 u27 u28 u29 u30 u31 u32 u33 u34 u35 u36 u37 u38 u39 u40 u41 u42 u43 u44 u45 u46 u47 u48 u49 u50 u51 u52 u53 u54 u55 u56 u57 u58 u59 u60 u61 u62 u63 u64 u65 u66 u67 u68 u69 u70 u71 u72 u73 u74 u75 u76 u77 u78 u79 u80 u81 u82 u83 u84 u85 u86 u87 u88 u89 u90 u91 u92 u93 u94 u95 u96 u97 u98 u99 u100 u101 u102 u103 u104 u105 u106 u107 u108 u109 u110 u111 u112 u113 u114 u115 u116 u117 u118 u119 u120 u121 u122 u123 u124 u125 u126 u127 u128 u129 u130 u131 u132 u133 u134 u135 u136 u137 u138 u139 u140 u141 u142 u143 u144 u145 u146 u147 u148 u149 u150 u151 u152 u153 u154 u155 u156 u157 u158 u159 u160 u161 u162 u163 u164 u165 gl n cl ls hn w5 B hB w6 k hk w7 x x0 x8 L7 hB7 J K2 a1 a2 hB7' SAME RO hcc hkn hkn' y HY CE OY hyl HYB HYK hx0
     exact HP0.out
    have hb0 : (x == 0) = false := by simp [hx0]
    by_cases hx1 : x = 1
    ·rename_i K0 aK J K2 a1 a2
     clear aK K0 hrl hti hy0 hy1 hy2
     clear ti
     revert w1 u9 u10 u11 u12 u13 u14 u15 u16 u17 u18 u19 u20 u21 u22 u23 u24 u25 u26 u27 u28 u29 u30 u31 u32 u33 u34 u35 u36 u37 u38 u39 u40 u41 u42 u43 u44 u45 u46 u47 u48 u49 u50 u51 u52 u53 u54 u55 u56 u57 u58 u59 u60 u61 u62 u63 u64 u65 u66 u67 u68 u69 u70 u71 u72 u73 u74 u75 u76 u77 u78 u79 u80 u81 u82 u83 u84 u85 u86 u87 u88 u89 u90 u91 u92 u93 u94 u95 u96 u97 u98 u99 u100 u101 u102 u103 u104 u105 u106 u107 u108 u109 u110 u111 u112 u113 u114 u115 u116 u117 u118 u119 u120 u121 u122 u123 u124 u125 u126 u127 u128 u129 u130 u131 u132 u133 u134 u135 u136 u137 u138 u139 u140 u141 u142 u143 u144 u145 u146 u147 u148 u149 u150 u151 u152 u153 u154 u155 u156 u157 u158 u159 u160 u161 u162 u163 u164 u165 gl n cl ls hn w5 B hB w6 k hk w7 x x0 x8 L7 hB7 J K2 a1 a2 hB7' SAME RO hcc hkn hkn' y HY CE OY hyl HYB HYK hx0 hb0 hx1
     exact HP1.out
    have hb1 : (x == 1) = false := by simp [hx1]
    by_cases hx2 : x = 2
    ·rename_i K0 aK J K2 a1 a2
     clear aK K0 hrl hti hy0 hy1 hy2
     clear ti
     revert w1 u9 u10 u11 u12 u13 u14 u15 u16 u17 u18 u19 u20 u21 u22 u23 u24 u25 u26 u27 u28 u29 u30 u31 u32 u33 u34 u35 u36 u37 u38 u39 u40 u41 u42 u43 u44 u45 u46 u47 u48 u49 u50 u51 u52 u53 u54 u55 u56 u57 u58 u59 u60 u61 u62 u63 u64 u65 u66 u67 u68 u69 u70 u71 u72 u73 u74 u75 u76 u77 u78 u79 u80 u81 u82 u83 u84 u85 u86 u87 u88 u89 u90 u91 u92 u93 u94 u95 u96 u97 u98 u99 u100 u101 u102 u103 u104 u105 u106 u107 u108 u109 u110 u111 u112 u113 u114 u115 u116 u117 u118 u119 u120 u121 u122 u123 u124 u125 u126 u127 u128 u129 u130 u131 u132 u133 u134 u135 u136 u137 u138 u139 u140 u141 u142 u143 u144 u145 u146 u147 u148 u149 u150 u151 u152 u153 u154 u155 u156 u157 u158 u159 u160 u161 u162 u163 u164 u165 gl n cl ls hn w5 B hB w6 k hk w7 x x0 x8 L7 hB7 J K2 a1 a2 hB7' SAME RO hcc hkn hkn' y HY CE OY hyl HYB HYK hx0 hb0 hx1 hb1 hx2
     exact HP2.out
    have hb2 : (x == 2) = false := by simp [hx2]
    by_cases hx3 : x = 3
    ·subst hx3
     clear SAME
     go_wp2_with fail
     refine (l5Any_any rb (N0 + 8002) _ L7.out.rd (by omega)).mono ?_
     rintro e w8 ⟨q, g8, c8, len8, zs, rfl, o8, hz8, hl8, -, R8, G8, hby8⟩
     subst hz8
     have L8 := L7.out.grown G8 (by omega) R8
     have o8' := Joins.ownsRow_le o8 hB7
     have R8' : Hid (w8.ownsRow B 29 9 (.slice (some ⟨gl, 0, none⟩) n cl) n (ls.flatMap PV.cells)) := own_grown RO.out G8 (by omega)
     have hB8 := Nat.le_trans hB7 G8.size
     clear R8 G8 o8
     unfold Pk.val
     go_wp2_with (at_builtin; refine wpList_append_own _ rfl _ _ 23 rfl B 29 ti _ 9 88 Tryz.underlying23 hti hy0 hy1 hy2 rfl (by decide) (.slice (some ⟨gl, 0, none⟩) n cl) n (ls.flatMap PV.cells) rfl (R8'.out.alloc _) ⟨w8.heap.size, 0, none⟩ 1 1 (PV.cells ⟨q, g8, c8, zs⟩) rfl rfl ?h1 ?h2 ?h3 ?h4 ?h5 ?_)
     case h1 => exact nine_new w8 _ _
     case h2 => exact nine_one _ _ _ _
     case h3 => unfold maxLen; omega
     case h4 => omega
     case h5 => simp; omega
     intro v9 w9 hown hgrow hnil
     obtain ⟨g9, c9, rfl⟩ : ∃ g9 c9, v9 = .slice (some ⟨g9, 0, none⟩) (n + 1) c9 := form_of hown hnil
     have L9 : Hid (LS w w9 rb (N0 + 12000) B g9 (n + 1) c9 (ls ++ [⟨q, g8, c8, zs⟩])) := ((L8.below (zBa _ _)).add (by omega) (by omega) (own_below o8' (zBa _ _)) hl8 hby8 hown hgrow).mono (by omega)
     clear hown hgrow hnil L8 o8' R8' hby8
     go_wp2_with fail
     go_meet
     case rel => exact ⟨g9, n + 1, c9, _, rfl, by omega, L9.out⟩
    have hb3 : (x == 3) = false := by simp [hx3]
    by_cases hx4 : x = 4
    ·rename_i K0 aK J K2 a1 a2
     clear aK K0 hrl hti hy0 hy1 hy2
     clear ti
     revert w1 u9 u10 u11 u12 u13 u14 u15 u16 u17 u18 u19 u20 u21 u22 u23 u24 u25 u26 u27 u28 u29 u30 u31 u32 u33 u34 u35 u36 u37 u38 u39 u40 u41 u42 u43 u44 u45 u46 u47 u48 u49 u50 u51 u52 u53 u54 u55 u56 u57 u58 u59 u60 u61 u62 u63 u64 u65 u66 u67 u68 u69 u70 u71 u72 u73 u74 u75 u76 u77 u78 u79 u80 u81 u82 u83 u84 u85 u86 u87 u88 u89 u90 u91 u92 u93 u94 u95 u96 u97 u98 u99 u100 u101 u102 u103 u104 u105 u106 u107 u108 u109 u110 u111 u112 u113 u114 u115 u116 u117 u118 u119 u120 u121 u122 u123 u124 u125 u126 u127 u128 u129 u130 u131 u132 u133 u134 u135 u136 u137 u138 u139 u140 u141 u142 u143 u144 u145 u146 u147 u148 u149 u150 u151 u152 u153 u154 u155 u156 u157 u158 u159 u160 u161 u162 u163 u164 u165 gl n cl ls hn w5 B hB w6 k hk w7 x x0 x8 L7 hB7 J K2 a1 a2 hB7' SAME RO hcc hkn hkn' y HY CE OY hyl HYB HYK hx0 hb0 hx1 hb1 hx2 hb2 hx3 hb3 hx4
     exact HP3.out
    have hb4 : (x == 4) = false := by simp [hx4]
    go_wp2_with fail
    go_meet
    case rel => exact SAME.out
   ·have hkn' : ¬ ((k : Int) < (n : Int)) := by omega
    by_cases hx0 : x = 0
    ·subst hx0
     go_wp2_with fail
     go_meet
     case rel => exact SAME.out
    have hb0 : (x == 0) = false := by simp [hx0]
    by_cases hx1 : x = 1
    ·subst hx1
     go_wp2_with fail
     go_meet
     case rel => exact SAME.out
    have hb1 : (x == 1) = false := by simp [hx1]
    by_cases hx2 : x = 2
    ·subst hx2
     go_wp2_with fail
     go_meet
     case rel => exact SAME.out
    have hb2 : (x == 2) = false := by simp [hx2]
    by_cases hx3 : x = 3
    ·subst hx3
     clear SAME
     go_wp2_with fail
     refine (l5Any_any rb (N0 + 8002) _ L7.out.rd (by omega)).mono ?_
     rintro e w8 ⟨q, g8, c8, len8, zs, rfl, o8, hz8, hl8, -, R8, G8, hby8⟩
     subst hz8
     have L8 := L7.out.grown G8 (by omega) R8
     have o8' := Joins.ownsRow_le o8 hB7
     have R8' : Hid (w8.ownsRow B 29 9 (.slice (some ⟨gl, 0, none⟩) n cl) n (ls.flatMap PV.cells)) := own_grown RO.out G8 (by omega)
     have hB8 := Nat.le_trans hB7 G8.size
     clear R8 G8 o8
     unfold Pk.val
     go_wp2_with (at_builtin; refine wpList_append_own _ rfl _ _ 23 rfl B 29 ti _ 9 88 Tryz.underlying23 hti hy0 hy1 hy2 rfl (by decide) (.slice (some ⟨gl, 0, none⟩) n cl) n (ls.flatMap PV.cells) rfl (R8'.out.alloc _) ⟨w8.heap.size, 0, none⟩ 1 1 (PV.cells ⟨q, g8, c8, zs⟩) rfl rfl ?h1 ?h2 ?h3 ?h4 ?h5 ?_)
     case h1 => exact nine_new w8 _ _
     case h2 => exact nine_one _ _ _ _
     case h3 => unfold maxLen; omega
     case h4 => omega
     case h5 => simp; omega
     intro v9 w9 hown hgrow hnil
     obtain ⟨g9, c9, rfl⟩ : ∃ g9 c9, v9 = .slice (some ⟨g9, 0, none⟩) (n + 1) c9 := form_of hown hnil
     have L9 : Hid (LS w w9 rb (N0 + 12000) B g9 (n + 1) c9 (ls ++ [⟨q, g8, c8, zs⟩])) := ((L8.below (zBa _ _)).add (by omega) (by omega) (own_below o8' (zBa _ _)) hl8 hby8 hown hgrow).mono (by omega)
     clear hown hgrow hnil L8 o8' R8' hby8
     go_wp2_with fail
     go_meet
     case rel => exact ⟨g9, n + 1, c9, _, rfl, by omega, L9.out⟩
    have hb3 : (x == 3) = false := by simp [hx3]
    by_cases hx4 : x = 4
    ·subst hx4
     go_wp2_with fail
     go_meet
     case rel => exact SAME.out
    have hb4 : (x == 4) = false := by simp [hx4]
    go_wp2_with fail
    go_meet
    case rel => exact SAME.out
  case rest =>
   clear L7 hB7 x0 x8 hk hn
   obtain ⟨ga, na, ca, us, rfl, hna, LA⟩ := hcut
   obtain ⟨w8, rfl⟩ : ∃ w8, w8 = wc := ⟨_, rfl⟩
   rename_i d0 d1 d2 d3 d4 d5 d6 d7 d8 d9 d10 d11 d12 d13 d14 d15 d16 d17 d18 d19 d20 d21 d22 d23 d24 d25 d26 d27 d28 d29 d30 d31 d32 d33 d34 d35 d36 d37 d38 d39 d40 d41 d42 d43 d44 d45 d46 d47 d48 d49 d50 d51 d52 d53 d54 d55 d56 d57 d58 d59 d60 d61 d62 d63 d64 d65 d66 d67 d68 d69 d70 d71 d72 d73 d74 d75 d76 d77 d78 d79 d80 d81 d82 d83 d84 d85 d86 d87 d88 d89 d90 d91 d92 d93 d94 d95 d96 d97 d98 d99 d100 d101 d102 d103 d104 d105 d106 d107 d108 d109 d110 d111 d112 d113 d114 d115 d116 d117 d118 d119 d120 d121 d122 d123 d124 d125 d126 d127 d128 d129 d130 d131 d132 d133 d134 d135 d136 d137 d138 d139 d140 d141 d142 d143 d144 d145 d146 d147 d148 d149 d150 d151 d152 d153 d154 d155 d156 K0 a0
   refine a0 _ _ ?_
   clear a0 K0 d0 d1 d2 d3 d4 d5 d6 d7 d8 d9 d10 d11 d12 d13 d14 d15 d16 d17 d18 d19 d20 d21 d22 d23 d24 d25 d26 d27 d28 d29 d30 d31 d32 d33 d34 d35 d36 d37 d38 d39 d40 d41 d42 d43 d44 d45 d46 d47 d48 d49 d50 d51 d52 d53 d54 d55 d56 d57 d58 d59 d60 d61 d62 d63 d64 d65 d66 d67 d68 d69 d70 d71 d72 d73 d74 d75 d76 d77 d78 d79 d80 d81 d82 d83 d84 d85 d86 d87 d88 d89 d90 d91 d92 d93 d94 d95 d96 d97 d98 d99 d100 d101 d102 d103 d104 d105 d106 d107 d108 d109 d110 d111 d112 d113 d114 d115 d116 d117 d118 d119 d120 d121 d122 d123 d124 d125 d126 d127 d128 d129 d130 d131 d132 d133 d134 d135 d136 d137 d138 d139 d140 d141 d142 d143 d144 d145 d146 d147 d148 d149 d150 d151 d152 d153 d154 d155 d156 hrl hti hy0 hy1 hy2
   clear ti
   revert w1 gl n cl ls w5 B hB w6 k w7 x u6 u7 u9 u10 u11 u12 u13 u14 u15 u16 u17 u18 u19 u20 u21 u22 u23 u24 u25 u26 u27 u28 u29 u30 u31 u32 u33 u34 u35 u36 u37 u38 u39 u40 u41 u42 u43 u44 u45 u46 u47 u48 u49 u50 u51 u52 u53 u54 u55 u56 u57 u58 u59 u60 u61 u62 u63 u64 u65 u66 u67 u68 u69 u70 u71 u72 u73 u74 u75 u76 u77 u78 u79 u80 u81 u82 u83 u84 u85 u86 u87 u88 u89 u90 u91 u92 u93 u94 u95 u96 u97 u98 u99 u100 u101 u102 u103 u104 u105 u106 u107 u108 u109 u110 u111 u112 u113 u114 u115 u116 u117 u118 u119 u120 u121 u122 u123 u124 u125 u126 u127 u128 u129 u130 u131 u132 u133 u134 u135 u136 u137 u138 u139 u140 u141 u142 u143 u144 u145 u146 u147 u148 u149 u150 u151 u152 u153 u154 u155 u156 u157 u158 u159 u160 u161 u162 u163 u164 u165 ga na ca us hna w8 LA
   exact HP4.out
set_option maxHeartbeats 12800000 in
theorem l5List_case0 (rb : Nat) (w : World) (N0 : Nat) (hN0 : N0 ≤ 500000) (hR : Rdr w rb N0) : (l5List_half rb w N0 hN0 hR).1.1 := by
 intro w1 u9 u10 u11 u12 u13 u14 u15 u16 u17 u18 u19 u20 u21 u22 u23 u24 u25 u26 u27 u28 u29 u30 u31 u32 u33 u34 u35 u36 u37 u38 u39 u40 u41 u42 u43 u44 u45 u46 u47 u48 u49 u50 u51 u52 u53 u54 u55 u56 u57 u58 u59 u60 u61 u62 u63 u64 u65 u66 u67 u68 u69 u70 u71 u72 u73 u74 u75 u76 u77 u78 u79 u80 u81 u82 u83 u84 u85 u86 u87 u88 u89 u90 u91 u92 u93 u94 u95 u96 u97 u98 u99 u100 u101 u102 u103 u104 u105 u106 u107 u108 u109 u110 u111 u112 u113 u114 u115 u116 u117 u118 u119 u120 u121 u122 u123 u124 u125 u126 u127 u128 u129 u130 u131 u132 u133 u134 u135 u136 u137 u138 u139 u140 u141 u142 u143 u144 u145 u146 u147 u148 u149 u150 u151 u152 u153 u154 u155 u156 u157 u158 u159 u160 u161 u162 u163 u164 u165 gl n cl ls hn w5 B hB w6 k hk w7 x x0 x8 L7 hB7 J K2 a1 a2 hB7' SAME RO hcc hkn hkn' y HY CE OY hyl HYB HYK hx0
 obtain ⟨ti, hti, hy0, hy1, hy2⟩ := info_parts Tryz.info29
 have hrl := hR.lt
 clear hR
 subst hx0
 clear SAME
 have hkle : k ≤ n := by omega
 have hkc : k ≤ cl := by omega
 have hk1 : k + 1 ≤ n := by omega
 have hk1c : k + 1 ≤ cl := by omega
 have hk1i : (k : Int) + 1 ≤ (n : Int) := by omega
 have hwk : IntKind.i64.wrap ((k : Int) + 1) = (k : Int) + 1 := (by rw [IntKind.wrap_i64]; omega)
 have FT : Hid (((ls.take k).flatMap PV.cells).length = k * 9) := (show _ = _ by rw [flat_take_len _ _ (by rw [L7.out.len]; omega)])
 have FD : Hid (((ls.drop (k + 1)).flatMap PV.cells).length = (n - (k + 1)) * 9) := (show _ = _ by rw [flat_drop_len, L7.out.len])
 by_cases hcs : cl = k + 1
 ·have HCS : Hid (cl = k + 1) := hcs
  have hnk : n - (k + 1) = 0 := by omega
  clear hcs
  go_wp2_with fail
  refine wp_region_held_drew (S := fun _ => True) (by kernel_rfl) trivial (fun hH => ?_)
  refine take_held 1 (some 45) (.slice (some ⟨gl, 0, none⟩) n cl) rfl rfl (by kernel_rfl) (by kernel_rfl) (by kernel_rfl) (fun _ _ _ h => h) (by rfl) (fun w _ => by go_simp <;> (intro h; omega)) hH ?_
  simp only [Act.put, zX, zY, zZ]
  refine take_held 2 (some 46) (.int .i64 k) rfl rfl (by kernel_rfl) (by kernel_rfl) (by kernel_rfl) (fun _ _ _ h => h) (by rfl) (fun w _ => by go_simp <;> (intro h; omega)) hH ?_
  simp only [Act.put, zX, zY, zZ]
  refine take_held 3 (some 47) (.slice (some ⟨gl, 0, none⟩) k cl) rfl rfl (by kernel_rfl) (by kernel_rfl) (by kernel_rfl) (fun _ _ _ h => h) (by rfl) (fun w _ => by go_simp <;> (intro h; omega)) hH ?_
  simp only [Act.put, zX, zY, zZ]
  refine take_held 5 (some 49) (.slice (some ⟨gl, 0, none⟩) n cl) rfl rfl (by kernel_rfl) (by kernel_rfl) (by kernel_rfl) (fun _ _ _ h => h) (by rfl) (fun w _ => by go_simp <;> (intro h; omega)) hH ?_
  simp only [Act.put, zX, zY, zZ]
  refine take_held 6 (some 50) (.int .i64 k) rfl rfl (by kernel_rfl) (by kernel_rfl) (by kernel_rfl) (fun _ _ _ h => h) (by rfl) (fun w _ => by go_simp <;> (intro h; omega)) hH ?_
  simp only [Act.put, zX, zY, zZ]
  refine take_held 7 (some 51) (.int .i64 ((k : Int) + 1)) rfl rfl (by kernel_rfl) (by kernel_rfl) (by kernel_rfl) (fun _ _ _ h => h) (by rfl) (fun w _ => by go_simp <;> (intro h; omega)) hH ?_
  simp only [Act.put, zX, zY, zZ]
  refine take_held 8 (some 52) (.slice (some ⟨gl, 0, none⟩) 0 (cl - (k + 1))) rfl rfl (by kernel_rfl) (by kernel_rfl) (by kernel_rfl) (fun _ _ _ h => h) (by rfl) (fun w _ => by have hq := HCS.out; go_simp <;> first | (intro h; omega) | simp [hq] | (split <;> omega)) hH ?_
  simp only [Act.put, zX, zY, zZ]
  refine zRd 0 (by kernel_rfl) rfl (fun K hK => ?_)
  go_simp
  refine hK.out _ _ trivial (fun hH => ?_)
  clear hK K
  refine zRd 4 (by kernel_rfl) rfl (fun K hK => ?_)
  refine step_append_d rfl (some 48) rfl (.tmp 44) (.tmp 47) 23 rfl w7.heap.size 29 ti _ 9 88 Tryz.underlying23 hti hy0 hy1 hy2 rfl (by decide) (.slice (some ⟨w7.heap.size, 0, none⟩) 0 0) 0 [] rfl ?_ ⟨gl, 0, none⟩ k cl ((ls.take k).flatMap PV.cells) rfl FT.out ?_ (flat_one _) (by unfold maxLen; omega) (by omega) ?_ ?_
  ·exact (PL.nil w7.drew _ _ rfl (Nat.le_refl _)).row
  ·exact (L7.out.pl.below (((Below.refl _ w7).drew).trans ((zBa w7.drew (.cells #[] 29)).mono (Nat.le_refl _)))).src_takeI L7.out.len k
  ·exact (((Below.refl _ w7).drew).trans ((zBa w7.drew (.cells #[] 29)).mono (Nat.le_refl _))).size
  intro v1 w8 ho8 hg8 hn8
  rw [Nat.zero_add, List.nil_append] at ho8
  obtain ⟨ga, ca, rfl⟩ : ∃ ga ca, v1 = .slice (some ⟨ga, 0, none⟩) k ca := form_of ho8 (fun e => nomatch (hn8.1 e).1)
  have b8 : Below w7.heap.size w7 w8 := (((Below.refl _ w7).drew).trans ((zBa w7.drew (.cells #[] 29)).mono (Nat.le_refl _))).grown hg8 (((Below.refl _ w7).drew).trans ((zBa w7.drew (.cells #[] 29)).mono (Nat.le_refl _))).size (fun j hj => by cases hj; exact Nat.le_refl _)
  refine hK.out _ _ trivial (fun hH => ?_)
  clear hK K
  simp only [Act.put, zX, zY, zZ]
  refine zRd 9 (by kernel_rfl) rfl (fun K hK => ?_)
  refine step_append_d rfl (some 53) rfl (.tmp 48) (.tmp 52) 23 rfl w7.heap.size 29 ti _ 9 88 Tryz.underlying23 hti hy0 hy1 hy2 rfl (by decide) (.slice (some ⟨ga, 0, none⟩) k ca) k ((ls.take k).flatMap PV.cells) rfl ho8 ⟨gl, 0, none⟩ 0 (cl - (k + 1)) [] rfl rfl (fun j u h => nomatch h) (fun u h => nomatch h) (by unfold maxLen; omega) (by omega) b8.size ?_
  intro v2 w9 ho9 hg9 hn9
  obtain ⟨gt, ct, rfl⟩ : ∃ gt ct, v2 = .slice (some ⟨gt, 0, none⟩) (k + 0) ct := form_of ho9 (fun e => nomatch (hn9.1 e).1)
  have b9 : Below w7.heap.size w7 w9 := b8.grown hg9 b8.size (fun j hj => (own_lt ho8 j hj).1)
  refine hK.out _ _ trivial (fun hH => ?_)
  clear hK K
  simp only [Act.put, zX, zY, zZ]
  refine take_held 10 (some 4) (.slice (some ⟨gt, 0, none⟩) (k + 0) ct) rfl rfl (by kernel_rfl) (by kernel_rfl) (by kernel_rfl) (fun _ _ _ h => h) (by rfl) (fun w _ => by go_simp <;> (intro h; omega)) hH ?_
  simp only [Act.put, zX, zY, zZ]
  refine wpAnyH_done (by kernel_rfl) ?_ _
  have LN : Hid (LS w w9 rb (N0 + 12000) B gt (k + 0) ct (ls.take k ++ ls.drop (k + 1))) := (L7.out.less (k + 0) hB7 hkn (by omega) b9 (by have h := ho9; rw [List.drop_eq_nil_of_le (by rw [L7.out.len]; omega)]; simpa using h)).mono (by omega)
  clear ho8 hg8 hn8 ho9 hg9 hn9 b8 b9
  go_wp2_with fail
  go_meet
  case rel => exact ⟨gt, k + 0, ct, _, rfl, by omega, LN.out⟩
 ·go_wp2_with fail
  refine wp_region_held_drew (S := fun _ => True) (by kernel_rfl) trivial (fun hH => ?_)
  refine take_held 1 (some 45) (.slice (some ⟨gl, 0, none⟩) n cl) rfl rfl (by kernel_rfl) (by kernel_rfl) (by kernel_rfl) (fun _ _ _ h => h) (by rfl) (fun w _ => by go_simp <;> (intro h; omega)) hH ?_
  simp only [Act.put, zX, zY, zZ]
  refine take_held 2 (some 46) (.int .i64 k) rfl rfl (by kernel_rfl) (by kernel_rfl) (by kernel_rfl) (fun _ _ _ h => h) (by rfl) (fun w _ => by go_simp <;> (intro h; omega)) hH ?_
  simp only [Act.put, zX, zY, zZ]
  refine take_held 3 (some 47) (.slice (some ⟨gl, 0, none⟩) k cl) rfl rfl (by kernel_rfl) (by kernel_rfl) (by kernel_rfl) (fun _ _ _ h => h) (by rfl) (fun w _ => by go_simp <;> (intro h; omega)) hH ?_
  simp only [Act.put, zX, zY, zZ]
  refine take_held 5 (some 49) (.slice (some ⟨gl, 0, none⟩) n cl) rfl rfl (by kernel_rfl) (by kernel_rfl) (by kernel_rfl) (fun _ _ _ h => h) (by rfl) (fun w _ => by go_simp <;> (intro h; omega)) hH ?_
  simp only [Act.put, zX, zY, zZ]
  refine take_held 6 (some 50) (.int .i64 k) rfl rfl (by kernel_rfl) (by kernel_rfl) (by kernel_rfl) (fun _ _ _ h => h) (by rfl) (fun w _ => by go_simp <;> (intro h; omega)) hH ?_
  simp only [Act.put, zX, zY, zZ]
  refine take_held 7 (some 51) (.int .i64 ((k : Int) + 1)) rfl rfl (by kernel_rfl) (by kernel_rfl) (by kernel_rfl) (fun _ _ _ h => h) (by rfl) (fun w _ => by go_simp <;> (intro h; omega)) hH ?_
  simp only [Act.put, zX, zY, zZ]
  refine take_held 8 (some 52) (.slice (some ⟨gl, (k + 1) * 9, none⟩) (n - (k + 1)) (cl - (k + 1))) rfl rfl (by kernel_rfl) (by kernel_rfl) (by kernel_rfl) (fun _ _ _ h => h) (by rfl) (fun w _ => by go_simp <;> (intro h; omega)) hH ?_
  simp only [Act.put, zX, zY, zZ]
  refine zRd 0 (by kernel_rfl) rfl (fun K hK => ?_)
  go_simp
  refine hK.out _ _ trivial (fun hH => ?_)
  clear hK K
  refine zRd 4 (by kernel_rfl) rfl (fun K hK => ?_)
  refine step_append_d rfl (some 48) rfl (.tmp 44) (.tmp 47) 23 rfl w7.heap.size 29 ti _ 9 88 Tryz.underlying23 hti hy0 hy1 hy2 rfl (by decide) (.slice (some ⟨w7.heap.size, 0, none⟩) 0 0) 0 [] rfl ?_ ⟨gl, 0, none⟩ k cl ((ls.take k).flatMap PV.cells) rfl FT.out ?_ (flat_one _) (by unfold maxLen; omega) (by omega) ?_ ?_
  ·exact (PL.nil w7.drew _ _ rfl (Nat.le_refl _)).row
  ·exact (L7.out.pl.below (((Below.refl _ w7).drew).trans ((zBa w7.drew (.cells #[] 29)).mono (Nat.le_refl _)))).src_takeI L7.out.len k
  ·exact (((Below.refl _ w7).drew).trans ((zBa w7.drew (.cells #[] 29)).mono (Nat.le_refl _))).size
  intro v1 w8 ho8 hg8 hn8
  rw [Nat.zero_add, List.nil_append] at ho8
  obtain ⟨ga, ca, rfl⟩ : ∃ ga ca, v1 = .slice (some ⟨ga, 0, none⟩) k ca := form_of ho8 (fun e => nomatch (hn8.1 e).1)
  have b8 : Below w7.heap.size w7 w8 := (((Below.refl _ w7).drew).trans ((zBa w7.drew (.cells #[] 29)).mono (Nat.le_refl _))).grown hg8 (((Below.refl _ w7).drew).trans ((zBa w7.drew (.cells #[] 29)).mono (Nat.le_refl _))).size (fun j hj => by cases hj; exact Nat.le_refl _)
  refine hK.out _ _ trivial (fun hH => ?_)
  clear hK K
  simp only [Act.put, zX, zY, zZ]
  refine zRd 9 (by kernel_rfl) rfl (fun K hK => ?_)
  refine step_append_d rfl (some 53) rfl (.tmp 48) (.tmp 52) 23 rfl w7.heap.size 29 ti _ 9 88 Tryz.underlying23 hti hy0 hy1 hy2 rfl (by decide) (.slice (some ⟨ga, 0, none⟩) k ca) k ((ls.take k).flatMap PV.cells) rfl ho8 ⟨gl, (k + 1) * 9, none⟩ (n - (k + 1)) (cl - (k + 1)) ((ls.drop (k + 1)).flatMap PV.cells) rfl FD.out ((L7.out.pl.below b8).src_dropI L7.out.len (k + 1)) (flat_one _) (by unfold maxLen; omega) (by omega) b8.size ?_
  intro v2 w9 ho9 hg9 hn9
  obtain ⟨gt, ct, rfl⟩ : ∃ gt ct, v2 = .slice (some ⟨gt, 0, none⟩) (k + (n - (k + 1))) ct := form_of ho9 (fun e => nomatch (hn9.1 e).1)
  have b9 : Below w7.heap.size w7 w9 := b8.grown hg9 b8.size (fun j hj => (own_lt ho8 j hj).1)
  refine hK.out _ _ trivial (fun hH => ?_)
  clear hK K
  simp only [Act.put, zX, zY, zZ]
  refine take_held 10 (some 4) (.slice (some ⟨gt, 0, none⟩) (k + (n - (k + 1))) ct) rfl rfl (by kernel_rfl) (by kernel_rfl) (by kernel_rfl) (fun _ _ _ h => h) (by rfl) (fun w _ => by go_simp <;> (intro h; omega)) hH ?_
  simp only [Act.put, zX, zY, zZ]
  refine wpAnyH_done (by kernel_rfl) ?_ _
  have LN : Hid (LS w w9 rb (N0 + 12000) B gt (k + (n - (k + 1))) ct (ls.take k ++ ls.drop (k + 1))) := (L7.out.less (k + (n - (k + 1))) hB7 hkn (by omega) b9 (by rw [List.flatMap_append]; exact ho9)).mono (by omega)
  clear ho8 hg8 hn8 ho9 hg9 hn9 b8 b9
  go_wp2_with fail
  go_meet
  case rel => exact ⟨gt, k + (n - (k + 1)), ct, _, rfl, by omega, LN.out⟩
end Go.Proofs.YtjbkgmbakjnlhaaGreatDoor
