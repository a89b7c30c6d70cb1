/- The contract of l5List: drawn pieces, some of them spoilt. -/
import Derived.Test.YtjbkgmbakjnlhaaDrawLC
import Derived.Test.YtjbkgmbakjnlhaaDrawLD
import Derived.Test.YtjbkgmbakjnlhaaDrawLE
namespace Go.Proofs.Ytjbkgmbakjnlhaa
open Go.RowKit

set_option maxRecDepth 100000 in
set_option maxHeartbeats 12800000 in
theorem l5List_rest (rb : Nat) (w : World) (hR : Rdr w rb 0) : (l5List_half rb w hR).1.2.2.2.2 := by
  intro w1 gl n cl ls w5 B hB w6 k w7 x u6 u7 u9 u10 u11 u12 u13 u14 u15 u16 u17 u18 u19 u20 u21 u22 u23 u24 u25 u26 u27 u28 u29 u30 u31 u32 u33 u34 u35 u36 u37 u38 u39 u40 u41 u42 u43 u44 u45 u46 u47 u48 u49 u50 u51 u52 u53 u54 u55 u56 u57 u58 u59 u60 u61 u62 u63 u64 u65 u66 u67 u68 u69 u70 u71 u72 u73 u74 u75 u76 u77 u78 u79 u80 u81 u82 u83 u84 u85 u86 u87 u88 u89 u90 u91 u92 u93 u94 u95 u96 u97 u98 u99 u100 u101 u102 u103 u104 u105 u106 u107 u108 u109 u110 u111 u112 u113 u114 u115 u116 u117 u118 u119 u120 u121 u122 u123 u124 u125 u126 u127 u128 u129 u130 u131 u132 u133 u134 u135 u136 u137 u138 u139 u140 u141 u142 u143 u144 u145 u146 u147 u148 u149 u150 u151 u152 u153 u154 u155 u156 u157 u158 u159 u160 u161 u162 u163 u164 u165 ga na ca us hna w8 LA
  obtain ⟨ti, hti, hy0, hy1, hy2⟩ := info_parts Try.info24
  have hrl := hR.lt
  clear hR
  go_wp2
  go_loopg [4] 40 (fun gk v wr => ∃ (g n c : Nat) (qs : List PV), 40 ≤ n + gk ∧ v = .slice (some ⟨g, 0, none⟩) n c ∧ n ≤ 2200 ∧ Hid (LS w wr rb (12000 + 2 * n) B g n c qs))
  case atStart => exact ⟨ga, na, ca, us, by omega, rfl, hna, LA.out.mono (by omega)⟩
  case round =>
    obtain ⟨gb, nb, cb, bs, hgk, rfl, hnb, LB⟩ := hrel
    go_wp2_with fail
    refine (pick_any rb (12000 + 2 * nb) 40 _ LB.out.rd (by omega) (by omega) (by omega)).mono ?_
    rintro e wp ⟨y, rfl, y0, y1, -, R8, G8⟩
    have LC : Hid (LS w wp rb (12000 + 2 * nb + 1) B gb nb cb bs) := LB.out.grown G8 (by omega) R8
    clear LB R8 G8 y1
    have FIN : Hid (ListPost rb 40000 w (.returned (.slice (some ⟨gb, 0, none⟩) nb cb)) wp) := ⟨gb, nb, cb, bs, rfl, (LC.out.mono (by omega)).le (by omega), by omega⟩
    by_cases hy : y = 0
    · subst hy
      by_cases hn0 : nb = 0
      · subst hn0
        go_wp2
        go_ret
        exact FIN.out
      have hnp : (0 : Int) < (nb : Int) := by omega
      by_cases hn40 : 40 ≤ nb
      · have hn40' : ¬ ((nb : Int) < 40) := by omega
        go_wp2
        go_ret
        exact FIN.out
      have hn40' : (nb : Int) < 40 := by omega
      clear FIN
      go_wp2_with fail
      refine (pick_any rb (12000 + 2 * nb + 1) 2 _ LC.out.rd (by omega) (by omega) (by omega)).mono ?_
      rintro e wq ⟨zi, rfl, z0, z1, -, R9, G9⟩
      obtain ⟨z, rfl⟩ := Int.eq_ofNat_of_zero_le z0
      have hz1 : z ≤ 1 := by have := z1 (by omega); omega
      have LD : Hid (LS w wq rb (12000 + 2 * nb + 2) B gb nb cb bs) := LC.out.grown G9 (by omega) R9
      clear LC R9 G9 z1 z0
      go_wp2
      go_loopg [4] (40 + z - nb) (fun gj v wx => ∃ (g m c : Nat) (qs : List PV), m + gj = 40 + z ∧ 1 ≤ m ∧ v = .slice (some ⟨g, 0, none⟩) m c ∧ Hid (LS w wx rb (12000 + 2 * nb + 2) B g m c qs))
      case atStart => exact ⟨gb, nb, cb, bs, by omega, by omega, rfl, LD.out⟩
      case round =>
        clear LD
        obtain ⟨gm, m, cm, ms, hgj, hm1, rfl, LM⟩ := hrel
        by_cases hmz : m = 40 + z
        · have hmz' : ¬ ((m : Int) < 40 + (z : Int)) := by omega
          have HMZ : Hid (m = 40 + z) := hmz
          clear hmz
          go_wp2
          have hmz := HMZ.out
          go_roundg 0
          case measure => omega
          case rel => exact ⟨gm, m, cm, ms, by omega, rfl, by omega, LM.out.mono (by omega)⟩
        · have hmz' : (m : Int) < 40 + (z : Int) := by omega
          have hmp : (0 : Int) < (m : Int) := by omega
          obtain ⟨u, hu⟩ := get_of_lt (show 0 < ms.length by rw [LM.out.len]; omega)
          obtain ⟨c0, c1, c2, c3, c4, c5, c6, c7, c8⟩ := id (LM.out.pl.elemI LM.out.len hu)
          simp only [Nat.zero_mul, Nat.zero_add] at c0 c1 c2 c3 c4 c5 c6 c7 c8
          have HU : Hid (u ∈ ms) := List.mem_of_getElem? hu
          have RO : Hid (wr.ownsRow B 24 9 (.slice (some ⟨gm, 0, none⟩) m cm) m (ms.flatMap PV.cells)) := (by have h := LM.out.pl.row; rw [LM.out.len] at h; exact h)
          have hBr : B ≤ wr.heap.size := Nat.le_trans (own_lt RO.out gm rfl).1 (Nat.le_of_lt (own_lt RO.out gm rfl).2)
          clear hu
          go_wp2_with (at_builtin; refine wpList_append_own _ rfl _ _ 25 rfl B 24 ti (.agg #[.int .i64 0, .int .i64 0, .int .i64 0, .int .i64 0, .int .i64 0, .bool false, .int .i64 0, .bool false, .slice none 0 0]) 9 88 Try.underlying25 hti hy0 hy1 hy2 rfl (by decide) (.slice (some ⟨gm, 0, none⟩) m cm) m (ms.flatMap PV.cells) rfl (RO.out.alloc _) ⟨wr.heap.size, 0, none⟩ 1 1 (PV.cells u) rfl rfl ?h1 ?h2 ?h3 ?h4 ?h5 ?_)
          case h1 => exact nine_new wr _ _
          case h2 => exact nine_one _ _ _ _
          case h3 => unfold maxLen; omega
          case h4 => omega
          case h5 => simp; omega
          intro v1 wt hown hgrow hnil
          obtain ⟨g', c', rfl⟩ : ∃ g' c', v1 = .slice (some ⟨g', 0, none⟩) (m + 1) c' := form_of hown hnil
          have LT : Hid (LS w wt rb (12000 + 2 * nb + 2) B g' (m + 1) c' (ms ++ [u])) := (LM.out.below (Joins.below_alloc1 _ _)).add (by omega) (by omega) (own_below (LM.out.pl.each u HU.out) (Joins.below_alloc1 _ _)) (LM.out.small u HU.out) (LM.out.byte u HU.out) hown hgrow
          clear hown hgrow hnil RO LM c0 c1 c2 c3 c4 c5 c6 c7 c8
          go_wp2
          go_roundg (40 + z - (m + 1))
          case measure => omega
          case rel => exact ⟨g', m + 1, c', _, by omega, by omega, rfl, LT.out⟩
    · go_wp2
      go_ret
      exact FIN.out

theorem l5List_any (rb : Nat) (w : World) (hR : Rdr w rb 0) : Calls Try.prog 50 #[.pointer (some ⟨rb, 0, none⟩)] w (ListPost rb 40000 w) :=
  (l5List_parts rb w hR).2 ((l5List_half rb w hR).2 (l5List_case0 rb w hR) (l5List_case1 rb w hR) (l5List_case2 rb w hR) (l5List_case4 rb w hR) (l5List_rest rb w hR))
end Go.Proofs.Ytjbkgmbakjnlhaa
