/- l5List: a piece told otherwise, or spoilt. -/
import Derived.Test.YtjbkgmbakjnlhaaDrawLB
namespace Go.Proofs.Ytjbkgmbakjnlhaa
open Go.RowKit

set_option maxRecDepth 100000 in
set_option maxHeartbeats 12800000 in
theorem l5List_case2 (rb : Nat) (w : World) (hR : Rdr w rb 0) : (l5List_half rb w hR).1.2.2.1 := by
  intro w1 u9 u10 u11 u12 u13 u14 u15 u16 u17 u18 u19 u20 u21 u22 u23 u24 u25 u26 u27 u28 u29 u30 u31 u32 u33 u34 u35 u36 u37 u38 u39 u40 u41 u42 u43 u44 u45 u46 u47 u48 u49 u50 u51 u52 u53 u54 u55 u56 u57 u58 u59 u60 u61 u62 u63 u64 u65 u66 u67 u68 u69 u70 u71 u72 u73 u74 u75 u76 u77 u78 u79 u80 u81 u82 u83 u84 u85 u86 u87 u88 u89 u90 u91 u92 u93 u94 u95 u96 u97 u98 u99 u100 u101 u102 u103 u104 u105 u106 u107 u108 u109 u110 u111 u112 u113 u114 u115 u116 u117 u118 u119 u120 u121 u122 u123 u124 u125 u126 u127 u128 u129 u130 u131 u132 u133 u134 u135 u136 u137 u138 u139 u140 u141 u142 u143 u144 u145 u146 u147 u148 u149 u150 u151 u152 u153 u154 u155 u156 u157 u158 u159 u160 u161 u162 u163 u164 u165 gl n cl ls hn w5 B hB w6 k hk w7 x x0 x8 L7 hB7 J K2 a1 a2 hB7' SAME RO hcc hkn hkn' y HY CE OY hyl HYB HYK hx0 hb0 hx1 hb1 hx2
  obtain ⟨ti, hti, hy0, hy1, hy2⟩ := info_parts Try.info24
  have hrl := hR.lt
  clear hR
  subst hx2
  clear SAME
  obtain ⟨e0, e1, e2, e3, e4, e5, e6, e7, e8⟩ := id CE.out
  go_wp2_with fail
  refine (l1Copy_any y.p ⟨y.g, 0, none⟩ y.zs.length y.c y.zs _ (RdB.of_own rfl OY.out) (by omega)).mono ?_
  rintro e w8 ⟨g8, c8, rfl, o8, b8⟩
  have L8 := L7.out.below b8
  have GB : Hid (w7.grownBy w8 (some rb)) := grown_below b8
  have s8 := b8.size
  have o8' := Joins.ownsRow_le o8 hB7
  have lg8 := own_lt o8 g8 rfl
  clear o8 b8 e0 e1 e2 e3 e4 e5 e6 e7 e8
  unfold Pk.val
  go_wp2_with fail
  refine (pick_any rb 8002 9 _ (L8.rd.below (Joins.below_alloc1 _ _)) (by omega) (by omega) (by omega)).mono ?_
  rintro e w9 ⟨t, rfl, t0, t1, -, R9, G9⟩
  have G79 : Hid (w7.grownBy w9 (some rb)) := grown_trans (grown_trans GB.out (grown_below (Joins.below_alloc1 _ _))) G9
  have R9' : Hid (Rdr w9 rb 8003) := R9
  have X9 : w9.heap[w8.heap.size]? = some (.cells (pcells y.p (.slice (some ⟨g8, 0, none⟩) y.zs.length c8)) 24 (0, 0)) := (G9.block _ (by simp) (fun e => by have := Option.some.inj e; omega)).trans (heap_new _ _ _ rfl)
  have O9 : Hid (w9.ownsRow B 5 1 (.slice (some ⟨g8, 0, none⟩) y.zs.length c8) y.zs.length (y.zs.map (.int .u8))) := own_grown (own_below o8' (Joins.below_alloc1 w8 (.cells (pcells y.p (.slice (some ⟨g8, 0, none⟩) y.zs.length c8)) 24))) G9 (by omega)
  have f9 : ∀ o, w9.frozen? ⟨w8.heap.size, o, none⟩ = false := fun o => Joins.unfrozen_of_block X9 o
  have s9 : w8.heap.size < w9.heap.size := lt_of_block X9
  obtain ⟨lx, d0, d1, d2, d3, d4, d5, d6, d7, d8⟩ := Boxed.of_block X9
  have ht : IntKind.i64.wrap (1 + t) = 1 + t := (by rw [IntKind.wrap_i64]; have := t1 (by omega); omega)
  clear L8 o8' G9 R9 X9 GB
  have hsb : w8.heap.size ≤ w9.heap.size := Nat.le_of_lt s9
  have hrb7 : rb < w7.heap.size := by omega
  go_wp2_with (at_builtin; refine wpList_append_own _ rfl _ _ 25 rfl B 24 ti (.agg #[.int .i64 0, .int .i64 0, .int .i64 0, .int .i64 0, .int .i64 0, .bool false, .int .i64 0, .bool false, .slice none 0 0]) 9 88 Try.underlying25 hti hy0 hy1 hy2 rfl (by decide) (.slice (some ⟨gl, 0, none⟩) n cl) n (ls.flatMap PV.cells) rfl (L7.out.set2 G79.out R9'.out (by omega) hrb7 s8 hsb _ _ _).row ⟨w9.heap.size, 0, none⟩ 1 1 (PV.cells ⟨⟨y.p.src, y.p.dst, y.p.kind, y.p.id, 1 + t, y.p.whole, y.p.off, !y.p.more⟩, g8, c8, y.zs⟩) rfl rfl ?h1 ?h2 ?h3 ?h4 ?h5 ?_)
  case h1 => exact nine_at (y := ⟨⟨y.p.src, y.p.dst, y.p.kind, y.p.id, 1 + t, y.p.whole, y.p.off, !y.p.more⟩, g8, c8, y.zs⟩) (heap_new _ _ _ (by simp))
  case h2 => exact nine_one _ _ _ _
  case h3 => unfold maxLen; omega
  case h4 => omega
  case h5 => simp; omega
  intro v9 wa hown hgrow hnil
  obtain ⟨g9, c9, rfl⟩ : ∃ g9 c9, v9 = .slice (some ⟨g9, 0, none⟩) (n + 1) c9 := form_of hown hnil
  have LA : Hid (LS w wa rb 12000 B g9 (n + 1) c9 (ls ++ [⟨⟨y.p.src, y.p.dst, y.p.kind, y.p.id, 1 + t, y.p.whole, y.p.off, !y.p.more⟩, g8, c8, y.zs⟩])) := ((L7.out.set2 G79.out R9'.out (by omega) hrb7 s8 hsb _ _ _).add (u := ⟨⟨y.p.src, y.p.dst, y.p.kind, y.p.id, 1 + t, y.p.whole, y.p.off, !y.p.more⟩, g8, c8, y.zs⟩) (by omega) (by omega) (own_set2 O9.out lg8.2 hsb _ _ _) hyl HYB.out hown hgrow).mono (by omega)
  clear hown hgrow hnil O9 G79 R9' d0 d1 d2 d3 d4 d5 d6 d7 d8 lx
  go_wp2_with fail
  go_meet
  case rel => exact ⟨g9, n + 1, c9, _, rfl, by omega, LA.out⟩

set_option maxRecDepth 100000 in
set_option maxHeartbeats 12800000 in
theorem l5List_case4 (rb : Nat) (w : World) (hR : Rdr w rb 0) : (l5List_half rb w hR).1.2.2.2.1 := by
  intro w1 u9 u10 u11 u12 u13 u14 u15 u16 u17 u18 u19 u20 u21 u22 u23 u24 u25 u26 u27 u28 u29 u30 u31 u32 u33 u34 u35 u36 u37 u38 u39 u40 u41 u42 u43 u44 u45 u46 u47 u48 u49 u50 u51 u52 u53 u54 u55 u56 u57 u58 u59 u60 u61 u62 u63 u64 u65 u66 u67 u68 u69 u70 u71 u72 u73 u74 u75 u76 u77 u78 u79 u80 u81 u82 u83 u84 u85 u86 u87 u88 u89 u90 u91 u92 u93 u94 u95 u96 u97 u98 u99 u100 u101 u102 u103 u104 u105 u106 u107 u108 u109 u110 u111 u112 u113 u114 u115 u116 u117 u118 u119 u120 u121 u122 u123 u124 u125 u126 u127 u128 u129 u130 u131 u132 u133 u134 u135 u136 u137 u138 u139 u140 u141 u142 u143 u144 u145 u146 u147 u148 u149 u150 u151 u152 u153 u154 u155 u156 u157 u158 u159 u160 u161 u162 u163 u164 u165 gl n cl ls hn w5 B hB w6 k hk w7 x x0 x8 L7 hB7 J K2 a1 a2 hB7' SAME RO hcc hkn hkn' y HY CE OY hyl HYB HYK hx0 hb0 hx1 hb1 hx2 hb2 hx3 hb3 hx4
  obtain ⟨ti, hti, hy0, hy1, hy2⟩ := info_parts Try.info24
  have hrl := hR.lt
  clear hR
  subst hx4
  clear SAME
  go_wp2_with fail
  refine (pick_any rb 8002 3 _ L7.out.rd (by omega) (by omega) (by omega)).mono ?_
  rintro e w8 ⟨t, rfl, t0, t1, -, R8, G8⟩
  have L8 : Hid (LS w w8 rb 8003 B gl n cl ls) := L7.out.grown G8 (by omega) R8
  have OY8 : Hid (w8.ownsRow B 5 1 (.slice (some ⟨y.g, 0, none⟩) y.zs.length y.c) y.zs.length (y.zs.map (.int .u8))) := own_grown OY.out G8 (by omega)
  have hB8 := Nat.le_trans hB7 G8.size
  clear R8 G8 L7 RO OY CE t1
  by_cases ht : t = 0
  · subst ht
    obtain ⟨e0, e1, e2, e3, e4, e5, e6, e7, e8⟩ := id (L8.out.pl.elemI L8.out.len HYK.out)
    go_wp2_with fail
    refine (l5Spoil_any rb 8003 B y.p y.g y.c y.zs _ L8.out.rd (by omega) OY8.out (by omega) hB8 hyl HYB).mono ?_
    rintro e w9 ⟨q, g9, c9, len9, zs, rfl, o9, hz9, hl9, -, R9, G9, hby9⟩
    subst hz9
    have L9 : Hid (LS w w9 rb (8003 + 720) B gl n cl ls) := L8.out.grown G9 (by omega) R9
    have O9 : Hid (w9.ownsRow B 5 1 (.slice (some ⟨g9, 0, none⟩) zs.length c9) zs.length (zs.map (.int .u8))) := o9
    have HB9 : Hid (∀ z ∈ zs, 0 ≤ z ∧ z ≤ 255) := hby9
    clear R9 G9 o9 hby9 L8 OY8 e0 e1 e2 e3 e4 e5 e6 e7 e8
    have f9 : ∀ o, w9.frozen? ⟨gl, o, none⟩ = false := fun o => own_frozen L9.out.row o
    obtain ⟨e0, e1, e2, e3, e4, e5, e6, e7, e8⟩ := id (L9.out.pl.elemI L9.out.len HYK.out)
    unfold Pk.val
    go_wp2_with fail
    go_meet
    case rel => exact ⟨gl, n, cl, ls.set k ⟨q, g9, c9, zs⟩, rfl, by omega, (L9.out.put (u := ⟨q, g9, c9, zs⟩) (by omega) (by omega) hkn O9.out hl9 HB9.out).mono (by omega)⟩
  · have htb : (t == 0) = false := by simp [ht]
    go_wp2_with fail
    go_meet
    case rel => exact ⟨gl, n, cl, ls, rfl, by omega, L8.out.mono (by omega)⟩
end Go.Proofs.Ytjbkgmbakjnlhaa
