/- l5List: a piece is left out. -/
import Derived.Test.YtjbkgmbakjnlhaaDrawLB
namespace Go.Proofs.Ytjbkgmbakjnlhaa
open Go.RowKit

set_option maxRecDepth 100000 in
set_option maxHeartbeats 12800000 in
theorem l5List_case0 (rb : Nat) (w : World) (hR : Rdr w rb 0) : (l5List_half rb w hR).1.1 := by
  intro w1 u9 u10 u11 u12 u13 u14 u15 u16 u17 u18 u19 u20 u21 u22 u23 u24 u25 u26 u27 u28 u29 u30 u31 u32 u33 u34 u35 u36 u37 u38 u39 u40 u41 u42 u43 u44 u45 u46 u47 u48 u49 u50 u51 u52 u53 u54 u55 u56 u57 u58 u59 u60 u61 u62 u63 u64 u65 u66 u67 u68 u69 u70 u71 u72 u73 u74 u75 u76 u77 u78 u79 u80 u81 u82 u83 u84 u85 u86 u87 u88 u89 u90 u91 u92 u93 u94 u95 u96 u97 u98 u99 u100 u101 u102 u103 u104 u105 u106 u107 u108 u109 u110 u111 u112 u113 u114 u115 u116 u117 u118 u119 u120 u121 u122 u123 u124 u125 u126 u127 u128 u129 u130 u131 u132 u133 u134 u135 u136 u137 u138 u139 u140 u141 u142 u143 u144 u145 u146 u147 u148 u149 u150 u151 u152 u153 u154 u155 u156 u157 u158 u159 u160 u161 u162 u163 u164 u165 gl n cl ls hn w5 B hB w6 k hk w7 x x0 x8 L7 hB7 J K2 a1 a2 hB7' SAME RO hcc hkn hkn' y HY CE OY hyl HYB HYK hx0
  obtain ⟨ti, hti, hy0, hy1, hy2⟩ := info_parts Try.info24
  have hrl := hR.lt
  clear hR
  subst hx0
  clear SAME
  have hkle : k ≤ n := by omega
  have hkc : k ≤ cl := by omega
  have hk1 : k + 1 ≤ n := by omega
  have hk1c : k + 1 ≤ cl := by omega
  have hk1i : (k : Int) + 1 ≤ (n : Int) := by omega
  have hwk : IntKind.i64.wrap ((k : Int) + 1) = (k : Int) + 1 := (by rw [IntKind.wrap_i64]; omega)
  have FT : Hid (((ls.take k).flatMap PV.cells).length = k * 9) := (show _ = _ by rw [flat_take_len _ _ (by rw [L7.out.len]; omega)])
  have FD : Hid (((ls.drop (k + 1)).flatMap PV.cells).length = (n - (k + 1)) * 9) := (show _ = _ by rw [flat_drop_len, L7.out.len])
  by_cases hcs : cl = k + 1
  · have HCS : Hid (cl = k + 1) := hcs
    have hnk : n - (k + 1) = 0 := by omega
    clear hcs
    go_wp2_with fail
    refine wp_region_held_drew (S := fun _ => True) (by kernel_rfl) trivial (fun hH => ?_)
    refine take_held 1 (some 45) (.slice (some ⟨gl, 0, none⟩) n cl) rfl rfl (by kernel_rfl) (by kernel_rfl) (by kernel_rfl) (fun _ _ _ h => h) (by rfl) (fun w _ => by go_simp <;> (intro h; omega)) hH ?_
    simp only [Act.put, List.setIfInBounds_toArray, List.set_cons_zero, List.set_cons_succ]
    refine take_held 2 (some 46) (.int .i64 k) rfl rfl (by kernel_rfl) (by kernel_rfl) (by kernel_rfl) (fun _ _ _ h => h) (by rfl) (fun w _ => by go_simp <;> (intro h; omega)) hH ?_
    simp only [Act.put, List.setIfInBounds_toArray, List.set_cons_zero, List.set_cons_succ]
    refine take_held 3 (some 47) (.slice (some ⟨gl, 0, none⟩) k cl) rfl rfl (by kernel_rfl) (by kernel_rfl) (by kernel_rfl) (fun _ _ _ h => h) (by rfl) (fun w _ => by go_simp <;> (intro h; omega)) hH ?_
    simp only [Act.put, List.setIfInBounds_toArray, List.set_cons_zero, List.set_cons_succ]
    refine take_held 5 (some 49) (.slice (some ⟨gl, 0, none⟩) n cl) rfl rfl (by kernel_rfl) (by kernel_rfl) (by kernel_rfl) (fun _ _ _ h => h) (by rfl) (fun w _ => by go_simp <;> (intro h; omega)) hH ?_
    simp only [Act.put, List.setIfInBounds_toArray, List.set_cons_zero, List.set_cons_succ]
    refine take_held 6 (some 50) (.int .i64 k) rfl rfl (by kernel_rfl) (by kernel_rfl) (by kernel_rfl) (fun _ _ _ h => h) (by rfl) (fun w _ => by go_simp <;> (intro h; omega)) hH ?_
    simp only [Act.put, List.setIfInBounds_toArray, List.set_cons_zero, List.set_cons_succ]
    refine take_held 7 (some 51) (.int .i64 ((k : Int) + 1)) rfl rfl (by kernel_rfl) (by kernel_rfl) (by kernel_rfl) (fun _ _ _ h => h) (by rfl) (fun w _ => by go_simp <;> (intro h; omega)) hH ?_
    simp only [Act.put, List.setIfInBounds_toArray, List.set_cons_zero, List.set_cons_succ]
    refine take_held 8 (some 52) (.slice (some ⟨gl, 0, none⟩) 0 (cl - (k + 1))) rfl rfl (by kernel_rfl) (by kernel_rfl) (by kernel_rfl) (fun _ _ _ h => h) (by rfl) (fun w _ => by have hq := HCS.out; go_simp <;> first | (intro h; omega) | simp [hq] | (split <;> omega)) hH ?_
    simp only [Act.put, List.setIfInBounds_toArray, List.set_cons_zero, List.set_cons_succ]
    refine wpAnyH_ready (rs := [0]) (by kernel_rfl) (by simp) ?_
    refine AllReadyH.cons rfl (fun K hK => ?_) AllReadyH.nil
    go_simp
    refine hK.out _ _ trivial (fun hH => ?_)
    clear hK K
    refine wpAnyH_ready (rs := [4]) (by kernel_rfl) (by simp) ?_
    refine AllReadyH.cons rfl (fun K hK => ?_) AllReadyH.nil
    refine step_append_d rfl (some 48) rfl (.tmp 44) (.tmp 47) 25 rfl w7.heap.size 24 ti (.agg #[.int .i64 0, .int .i64 0, .int .i64 0, .int .i64 0, .int .i64 0, .bool false, .int .i64 0, .bool false, .slice none 0 0]) 9 88 Try.underlying25 hti hy0 hy1 hy2 rfl (by decide) (.slice (some ⟨w7.heap.size, 0, none⟩) 0 0) 0 [] rfl ?_ ⟨gl, 0, none⟩ k cl ((ls.take k).flatMap PV.cells) rfl FT.out ?_ (flat_one _) (by unfold maxLen; omega) (by omega) ?_ ?_
    · exact (PL.nil w7.drew _ _ rfl (Nat.le_refl _)).row
    · exact (L7.out.pl.below (((Below.refl _ w7).drew).trans ((Joins.below_alloc1 w7.drew (.cells #[] 24)).mono (Nat.le_refl _)))).src_takeI L7.out.len k
    · exact (((Below.refl _ w7).drew).trans ((Joins.below_alloc1 w7.drew (.cells #[] 24)).mono (Nat.le_refl _))).size
    intro v1 w8 ho8 hg8 hn8
    rw [Nat.zero_add, List.nil_append] at ho8
    obtain ⟨ga, ca, rfl⟩ : ∃ ga ca, v1 = .slice (some ⟨ga, 0, none⟩) k ca := form_of ho8 (fun e => nomatch (hn8.1 e).1)
    have b8 : Below w7.heap.size w7 w8 := (((Below.refl _ w7).drew).trans ((Joins.below_alloc1 w7.drew (.cells #[] 24)).mono (Nat.le_refl _))).grown hg8 (((Below.refl _ w7).drew).trans ((Joins.below_alloc1 w7.drew (.cells #[] 24)).mono (Nat.le_refl _))).size (fun j hj => by cases hj; exact Nat.le_refl _)
    refine hK.out _ _ trivial (fun hH => ?_)
    clear hK K
    simp only [Act.put, List.setIfInBounds_toArray, List.set_cons_zero, List.set_cons_succ]
    refine wpAnyH_ready (rs := [9]) (by kernel_rfl) (by simp) ?_
    refine AllReadyH.cons rfl (fun K hK => ?_) AllReadyH.nil
    refine step_append_d rfl (some 53) rfl (.tmp 48) (.tmp 52) 25 rfl w7.heap.size 24 ti (.agg #[.int .i64 0, .int .i64 0, .int .i64 0, .int .i64 0, .int .i64 0, .bool false, .int .i64 0, .bool false, .slice none 0 0]) 9 88 Try.underlying25 hti hy0 hy1 hy2 rfl (by decide) (.slice (some ⟨ga, 0, none⟩) k ca) k ((ls.take k).flatMap PV.cells) rfl ho8 ⟨gl, 0, none⟩ 0 (cl - (k + 1)) [] rfl rfl (fun j u h => nomatch h) (fun u h => nomatch h) (by unfold maxLen; omega) (by omega) b8.size ?_
    intro v2 w9 ho9 hg9 hn9
    obtain ⟨gt, ct, rfl⟩ : ∃ gt ct, v2 = .slice (some ⟨gt, 0, none⟩) (k + 0) ct := form_of ho9 (fun e => nomatch (hn9.1 e).1)
    have b9 : Below w7.heap.size w7 w9 := b8.grown hg9 b8.size (fun j hj => (own_lt ho8 j hj).1)
    refine hK.out _ _ trivial (fun hH => ?_)
    clear hK K
    simp only [Act.put, List.setIfInBounds_toArray, List.set_cons_zero, List.set_cons_succ]
    refine take_held 10 (some 4) (.slice (some ⟨gt, 0, none⟩) (k + 0) ct) rfl rfl (by kernel_rfl) (by kernel_rfl) (by kernel_rfl) (fun _ _ _ h => h) (by rfl) (fun w _ => by go_simp <;> (intro h; omega)) hH ?_
    simp only [Act.put, List.setIfInBounds_toArray, List.set_cons_zero, List.set_cons_succ]
    refine wpAnyH_done (by kernel_rfl) ?_ _
    have LN : Hid (LS w w9 rb 12000 B gt (k + 0) ct (ls.take k ++ ls.drop (k + 1))) := (L7.out.less (k + 0) hB7 hkn (by omega) b9 (by have h := ho9; rw [List.drop_eq_nil_of_le (by rw [L7.out.len]; omega)]; simpa using h)).mono (by omega)
    clear ho8 hg8 hn8 ho9 hg9 hn9 b8 b9
    go_wp2_with fail
    go_meet
    case rel => exact ⟨gt, k + 0, ct, _, rfl, by omega, LN.out⟩
  · go_wp2_with fail
    refine wp_region_held_drew (S := fun _ => True) (by kernel_rfl) trivial (fun hH => ?_)
    refine take_held 1 (some 45) (.slice (some ⟨gl, 0, none⟩) n cl) rfl rfl (by kernel_rfl) (by kernel_rfl) (by kernel_rfl) (fun _ _ _ h => h) (by rfl) (fun w _ => by go_simp <;> (intro h; omega)) hH ?_
    simp only [Act.put, List.setIfInBounds_toArray, List.set_cons_zero, List.set_cons_succ]
    refine take_held 2 (some 46) (.int .i64 k) rfl rfl (by kernel_rfl) (by kernel_rfl) (by kernel_rfl) (fun _ _ _ h => h) (by rfl) (fun w _ => by go_simp <;> (intro h; omega)) hH ?_
    simp only [Act.put, List.setIfInBounds_toArray, List.set_cons_zero, List.set_cons_succ]
    refine take_held 3 (some 47) (.slice (some ⟨gl, 0, none⟩) k cl) rfl rfl (by kernel_rfl) (by kernel_rfl) (by kernel_rfl) (fun _ _ _ h => h) (by rfl) (fun w _ => by go_simp <;> (intro h; omega)) hH ?_
    simp only [Act.put, List.setIfInBounds_toArray, List.set_cons_zero, List.set_cons_succ]
    refine take_held 5 (some 49) (.slice (some ⟨gl, 0, none⟩) n cl) rfl rfl (by kernel_rfl) (by kernel_rfl) (by kernel_rfl) (fun _ _ _ h => h) (by rfl) (fun w _ => by go_simp <;> (intro h; omega)) hH ?_
    simp only [Act.put, List.setIfInBounds_toArray, List.set_cons_zero, List.set_cons_succ]
    refine take_held 6 (some 50) (.int .i64 k) rfl rfl (by kernel_rfl) (by kernel_rfl) (by kernel_rfl) (fun _ _ _ h => h) (by rfl) (fun w _ => by go_simp <;> (intro h; omega)) hH ?_
    simp only [Act.put, List.setIfInBounds_toArray, List.set_cons_zero, List.set_cons_succ]
    refine take_held 7 (some 51) (.int .i64 ((k : Int) + 1)) rfl rfl (by kernel_rfl) (by kernel_rfl) (by kernel_rfl) (fun _ _ _ h => h) (by rfl) (fun w _ => by go_simp <;> (intro h; omega)) hH ?_
    simp only [Act.put, List.setIfInBounds_toArray, List.set_cons_zero, List.set_cons_succ]
    refine take_held 8 (some 52) (.slice (some ⟨gl, (k + 1) * 9, none⟩) (n - (k + 1)) (cl - (k + 1))) rfl rfl (by kernel_rfl) (by kernel_rfl) (by kernel_rfl) (fun _ _ _ h => h) (by rfl) (fun w _ => by go_simp <;> (intro h; omega)) hH ?_
    simp only [Act.put, List.setIfInBounds_toArray, List.set_cons_zero, List.set_cons_succ]
    refine wpAnyH_ready (rs := [0]) (by kernel_rfl) (by simp) ?_
    refine AllReadyH.cons rfl (fun K hK => ?_) AllReadyH.nil
    go_simp
    refine hK.out _ _ trivial (fun hH => ?_)
    clear hK K
    refine wpAnyH_ready (rs := [4]) (by kernel_rfl) (by simp) ?_
    refine AllReadyH.cons rfl (fun K hK => ?_) AllReadyH.nil
    refine step_append_d rfl (some 48) rfl (.tmp 44) (.tmp 47) 25 rfl w7.heap.size 24 ti (.agg #[.int .i64 0, .int .i64 0, .int .i64 0, .int .i64 0, .int .i64 0, .bool false, .int .i64 0, .bool false, .slice none 0 0]) 9 88 Try.underlying25 hti hy0 hy1 hy2 rfl (by decide) (.slice (some ⟨w7.heap.size, 0, none⟩) 0 0) 0 [] rfl ?_ ⟨gl, 0, none⟩ k cl ((ls.take k).flatMap PV.cells) rfl FT.out ?_ (flat_one _) (by unfold maxLen; omega) (by omega) ?_ ?_
    · exact (PL.nil w7.drew _ _ rfl (Nat.le_refl _)).row
    · exact (L7.out.pl.below (((Below.refl _ w7).drew).trans ((Joins.below_alloc1 w7.drew (.cells #[] 24)).mono (Nat.le_refl _)))).src_takeI L7.out.len k
    · exact (((Below.refl _ w7).drew).trans ((Joins.below_alloc1 w7.drew (.cells #[] 24)).mono (Nat.le_refl _))).size
    intro v1 w8 ho8 hg8 hn8
    rw [Nat.zero_add, List.nil_append] at ho8
    obtain ⟨ga, ca, rfl⟩ : ∃ ga ca, v1 = .slice (some ⟨ga, 0, none⟩) k ca := form_of ho8 (fun e => nomatch (hn8.1 e).1)
    have b8 : Below w7.heap.size w7 w8 := (((Below.refl _ w7).drew).trans ((Joins.below_alloc1 w7.drew (.cells #[] 24)).mono (Nat.le_refl _))).grown hg8 (((Below.refl _ w7).drew).trans ((Joins.below_alloc1 w7.drew (.cells #[] 24)).mono (Nat.le_refl _))).size (fun j hj => by cases hj; exact Nat.le_refl _)
    refine hK.out _ _ trivial (fun hH => ?_)
    clear hK K
    simp only [Act.put, List.setIfInBounds_toArray, List.set_cons_zero, List.set_cons_succ]
    refine wpAnyH_ready (rs := [9]) (by kernel_rfl) (by simp) ?_
    refine AllReadyH.cons rfl (fun K hK => ?_) AllReadyH.nil
    refine step_append_d rfl (some 53) rfl (.tmp 48) (.tmp 52) 25 rfl w7.heap.size 24 ti (.agg #[.int .i64 0, .int .i64 0, .int .i64 0, .int .i64 0, .int .i64 0, .bool false, .int .i64 0, .bool false, .slice none 0 0]) 9 88 Try.underlying25 hti hy0 hy1 hy2 rfl (by decide) (.slice (some ⟨ga, 0, none⟩) k ca) k ((ls.take k).flatMap PV.cells) rfl ho8 ⟨gl, (k + 1) * 9, none⟩ (n - (k + 1)) (cl - (k + 1)) ((ls.drop (k + 1)).flatMap PV.cells) rfl FD.out ((L7.out.pl.below b8).src_dropI L7.out.len (k + 1)) (flat_one _) (by unfold maxLen; omega) (by omega) b8.size ?_
    intro v2 w9 ho9 hg9 hn9
    obtain ⟨gt, ct, rfl⟩ : ∃ gt ct, v2 = .slice (some ⟨gt, 0, none⟩) (k + (n - (k + 1))) ct := form_of ho9 (fun e => nomatch (hn9.1 e).1)
    have b9 : Below w7.heap.size w7 w9 := b8.grown hg9 b8.size (fun j hj => (own_lt ho8 j hj).1)
    refine hK.out _ _ trivial (fun hH => ?_)
    clear hK K
    simp only [Act.put, List.setIfInBounds_toArray, List.set_cons_zero, List.set_cons_succ]
    refine take_held 10 (some 4) (.slice (some ⟨gt, 0, none⟩) (k + (n - (k + 1))) ct) rfl rfl (by kernel_rfl) (by kernel_rfl) (by kernel_rfl) (fun _ _ _ h => h) (by rfl) (fun w _ => by go_simp <;> (intro h; omega)) hH ?_
    simp only [Act.put, List.setIfInBounds_toArray, List.set_cons_zero, List.set_cons_succ]
    refine wpAnyH_done (by kernel_rfl) ?_ _
    have LN : Hid (LS w w9 rb 12000 B gt (k + (n - (k + 1))) ct (ls.take k ++ ls.drop (k + 1))) := (L7.out.less (k + (n - (k + 1))) hB7 hkn (by omega) b9 (by rw [List.flatMap_append]; exact ho9)).mono (by omega)
    clear ho8 hg8 hn8 ho9 hg9 hn9 b8 b9
    go_wp2_with fail
    go_meet
    case rel => exact ⟨gt, k + (n - (k + 1)), ct, _, rfl, by omega, LN.out⟩
end Go.Proofs.Ytjbkgmbakjnlhaa
