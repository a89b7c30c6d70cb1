/- Contracts of copyPacket and of the two FragHop. -/
import Derived.Test.YtjbkgmbakjnlhaaCopy
import Derived.Test.YtjbkgmbakjnlhaaOk
namespace Go.Proofs.Ytjbkgmbakjnlhaa
open Go.RowKit

set_option maxHeartbeats 800000 in
theorem copyPacket_any (p : Pk) (ad : Addr) (len cap : Nat) (zs : List Int) (w : World) (hr : RdB w (some ad) len zs) (hl : len ≤ 1048576) :
    Calls Try.prog 55 #[p.val (.slice (some ad) len cap)] w fun e w' => ∃ g c, e = .returned (p.val (.slice (some ⟨g, 0, none⟩) len c)) ∧ w'.ownsRow w.heap.size 5 1 (.slice (some ⟨g, 0, none⟩) len c) len (zs.map (.int .u8)) ∧ Below w.heap.size w w' := by
  unfold Pk.val
  go_enter Try.func55, Try.ntmps55
  go_wp2_with fail
  refine (clone_any ad len cap zs _ (hr.below (Joins.below_alloc2 _ _ _)) hl).mono ?_
  rintro e w1 ⟨g, c, rfl, hown, hb⟩
  have hf := (bcell hb).2
  have X : Boxed w1 w.heap.size p (.slice (some ad) len cap) := ((Boxed.new w p (.slice (some ad) len cap) 24).below (Joins.below_alloc1 _ _)).below hb
  have Z : Boxed w1 (w.heap.size + 1) zeroPk (.slice none 0 0) := (Boxed.newAt (w.alloc _) (w.heap.size + 1) zeroPk (.slice none 0 0) 24 (by simp)).below hb
  have HB : Hid (Below w.heap.size w w1) := (Joins.below_alloc2 _ _ _).trans (hb.mono (by simp; omega))
  have HO : Hid (w1.ownsRow (w.heap.size + 2) 5 1 (.slice (some ⟨g, 0, none⟩) len c) len (zs.map (.int .u8))) := Joins.ownsRow_le hown (by simp)
  obtain ⟨hlt0, c0, c1, c2, c3, c4, c5, c6, c7, c8⟩ := X
  obtain ⟨hlt1, z0, z1, z2, z3, z4, z5, z6, z7, z8⟩ := Z
  have hf0 : ∀ o, w1.frozen? ⟨w.heap.size, o, none⟩ = false := fun o => by rw [hf _ _ (by simp; omega)]; go_simp
  have hf1 : ∀ o, w1.frozen? ⟨w.heap.size + 1, o, none⟩ = false := fun o => by rw [hf _ _ (by simp)]; go_simp
  clear hown hb hf
  go_wp2
  refine bodyPost_ret (v := .agg #[.int .i64 p.src, .int .i64 p.dst, .int .i64 p.kind, .int .i64 p.id, .int .i64 p.hops, .bool p.whole, .int .i64 p.off, .bool p.more, .slice (some ⟨g, 0, none⟩) len c]) (by simp [results, Try.results55, go_sem, z0, z1, z2, z3, z4, z5, z6, z7, z8]) rfl ⟨g, c, rfl, ?_, ?_⟩
  · exact Joins.ownsRow_le (own9 (ownsRow_setCell_below HO.out (by simp) _) (by omega) _ _ _ _ _ _ _ _ _) (by omega)
  · exact below9 (Below.setCell HB.out (by simp) _) (by omega) _ _ _ _ _ _ _ _ _

/-- what FragHop answers: the code, the packet, its bytes -/
def hopC (p : Pk) (len : Nat) : Int := if okB p len = true then (if p.hops = 1 then 2 else 0) else 1
def hopP (p : Pk) (len : Nat) : Pk := if hopC p len = 0 then ⟨p.src, p.dst, p.kind, p.id, p.hops - 1, p.whole, p.off, p.more⟩ else zeroPk
def hopD (p : Pk) (zs : List Int) : List Int := if hopC p zs.length = 0 then zs else []

theorem ok_hops {p : Pk} {len : Nat} (h : okB p len = true) : 1 ≤ p.hops ∧ p.hops ≤ 64 := by
  simp only [okB, headB, inB, Bool.and_eq_true, decide_eq_true_eq] at h
  omega
/-- what is in memory when FragHop has answered -/
def HopPost (p : Pk) (len : Nat) (zs : List Int) (w : World) (e : Ending) (w' : World) : Prop :=
  ∃ ao c, e = .returned (.tuple #[(hopP p len).val (.slice ao (hopD p zs).length c), .int .i64 (hopC p len)]) ∧ w'.ownsRow w.heap.size 5 1 (.slice ao (hopD p zs).length c) (hopD p zs).length ((hopD p zs).map (.int .u8)) ∧ Below w.heap.size w w'

theorem hopPost_none {p : Pk} {len : Nat} {zs : List Int} {w w' : World} {e : Ending} {k : Int} (hz : zs.length = len) (hc : hopC p len = k) (hk : k ≠ 0) (he : e = .returned (.tuple #[zeroPk.val (.slice none 0 0), .int .i64 k])) (hb : Below w.heap.size w w') : HopPost p len zs w e w' := by
  have h1 : hopP p len = zeroPk := by rw [hopP, hc, if_neg hk]
  have h2 : hopD p zs = [] := by rw [hopD, hz, hc, if_neg hk]
  refine ⟨none, 0, ?_, ?_, hb⟩
  · rw [h1, h2, hc]; exact he
  · rw [h2]; exact World.ownsRow_nil _ _ _ _

theorem hopPost_go {p : Pk} {len g c : Nat} {zs : List Int} {w w' : World} {e : Ending} (hz : zs.length = len) (hc : hopC p len = 0)
    (he : e = .returned (.tuple #[Pk.val ⟨p.src, p.dst, p.kind, p.id, p.hops - 1, p.whole, p.off, p.more⟩ (.slice (some ⟨g, 0, none⟩) len c), .int .i64 0]))
    (ho : w'.ownsRow w.heap.size 5 1 (.slice (some ⟨g, 0, none⟩) len c) len (zs.map (.int .u8))) (hb : Below w.heap.size w w') : HopPost p len zs w e w' := by
  have h1 : hopP p len = ⟨p.src, p.dst, p.kind, p.id, p.hops - 1, p.whole, p.off, p.more⟩ := by rw [hopP, hc, if_pos rfl]
  have h2 : hopD p zs = zs := by rw [hopD, hz, hc, if_pos rfl]
  refine ⟨some ⟨g, 0, none⟩, c, ?_, ?_, hb⟩
  · rw [h1, h2, hc, hz]; exact he
  · rw [h2, hz]; exact ho

set_option maxHeartbeats 1600000 in
theorem specHop_any (p : Pk) (ad : Addr) (len cap : Nat) (zs : List Int) (w : World) (hr : RdB w (some ad) len zs) (hl : len ≤ 1048576) :
    Calls Try.prog 20 #[p.val (.slice (some ad) len cap)] w (HopPost p len zs w) := by
  unfold Pk.val
  cases hv : okB p len
  · have HC : Hid (hopC p len = 1) := by unfold hopC; rw [hv]; rfl
    go_enter Try.func20, Try.ntmps20
    go_wp2_with fail
    refine (specOk_any p (some ad) len cap _ hl).mono ?_
    rintro e w1 ⟨rfl, hb⟩
    have hf := (bcell hb).2
    have X : Boxed w1 w.heap.size p (.slice (some ad) len cap) := ((Boxed.new w p (.slice (some ad) len cap) 24).below (Joins.below_alloc1 _ _)).below hb
    have Z : Boxed w1 (w.heap.size + 1) zeroPk (.slice none 0 0) := (Boxed.newAt (w.alloc _) (w.heap.size + 1) zeroPk (.slice none 0 0) 24 (by simp)).below hb
    have HB : Hid (Below w.heap.size w w1) := (Joins.below_alloc2 _ _ _).trans (hb.mono (by simp; omega))
    have hf1 : ∀ o, w1.frozen? ⟨w.heap.size + 1, o, none⟩ = false := fun o => by rw [hf _ _ (by simp)]; go_simp
    clear hf
    obtain ⟨hlt0, c0, c1, c2, c3, c4, c5, c6, c7, c8⟩ := X
    obtain ⟨hlt1, z0, z1, z2, z3, z4, z5, z6, z7, z8⟩ := Z
    clear hb
    go_wp2
    exact bodyPost_ret (v := .tuple #[.agg #[.int .i64 0, .int .i64 0, .int .i64 0, .int .i64 0, .int .i64 0, .bool false, .int .i64 0, .bool false, .slice none 0 0], .int .i64 1]) (by simp [results, Try.results20, go_sem, z0, z1, z2, z3, z4, z5, z6, z7, z8]) rfl (hopPost_none hr.1 HC.out (by omega) rfl (below9 HB.out (by omega) _ _ _ _ _ _ _ _ _))
  by_cases h1 : p.hops = 1
  · have HC : Hid (hopC p len = 2) := by show hopC p len = 2; unfold hopC; rw [hv, if_pos rfl, if_pos h1]
    have h1b : (p.hops == 1) = true := by simp [h1]
    clear h1
    go_enter Try.func20, Try.ntmps20
    go_wp2_with fail
    refine (specOk_any p (some ad) len cap _ hl).mono ?_
    rintro e w1 ⟨rfl, hb⟩
    have hf := (bcell hb).2
    have X : Boxed w1 w.heap.size p (.slice (some ad) len cap) := ((Boxed.new w p (.slice (some ad) len cap) 24).below (Joins.below_alloc1 _ _)).below hb
    have Z : Boxed w1 (w.heap.size + 1) zeroPk (.slice none 0 0) := (Boxed.newAt (w.alloc _) (w.heap.size + 1) zeroPk (.slice none 0 0) 24 (by simp)).below hb
    have HB : Hid (Below w.heap.size w w1) := (Joins.below_alloc2 _ _ _).trans (hb.mono (by simp; omega))
    have hf1 : ∀ o, w1.frozen? ⟨w.heap.size + 1, o, none⟩ = false := fun o => by rw [hf _ _ (by simp)]; go_simp
    clear hf
    obtain ⟨hlt0, c0, c1, c2, c3, c4, c5, c6, c7, c8⟩ := X
    obtain ⟨hlt1, z0, z1, z2, z3, z4, z5, z6, z7, z8⟩ := Z
    clear hb
    go_wp2
    exact bodyPost_ret (v := .tuple #[.agg #[.int .i64 0, .int .i64 0, .int .i64 0, .int .i64 0, .int .i64 0, .bool false, .int .i64 0, .bool false, .slice none 0 0], .int .i64 2]) (by simp [results, Try.results20, go_sem, z0, z1, z2, z3, z4, z5, z6, z7, z8]) rfl (hopPost_none hr.1 HC.out (by omega) rfl (below9 HB.out (by omega) _ _ _ _ _ _ _ _ _))
  · have HC : Hid (hopC p len = 0) := by show hopC p len = 0; unfold hopC; rw [hv, if_pos rfl, if_neg h1]
    have h1b : (p.hops == 1) = false := by simp [h1]
    obtain ⟨hh1, hh2⟩ := ok_hops hv
    clear h1
    go_enter Try.func20, Try.ntmps20
    go_wp2_with fail
    refine (specOk_any p (some ad) len cap _ hl).mono ?_
    rintro e w1 ⟨rfl, hb⟩
    have hf := (bcell hb).2
    have X : Boxed w1 w.heap.size p (.slice (some ad) len cap) := ((Boxed.new w p (.slice (some ad) len cap) 24).below (Joins.below_alloc1 _ _)).below hb
    have Z : Boxed w1 (w.heap.size + 1) zeroPk (.slice none 0 0) := (Boxed.newAt (w.alloc _) (w.heap.size + 1) zeroPk (.slice none 0 0) 24 (by simp)).below hb
    have HB : Hid (Below w.heap.size w w1) := (Joins.below_alloc2 _ _ _).trans (hb.mono (by simp; omega))
    have hf1 : ∀ o, w1.frozen? ⟨w.heap.size + 1, o, none⟩ = false := fun o => by rw [hf _ _ (by simp)]; go_simp
    clear hf
    have r1 : RdB w1 (some ad) len zs := (hr.below (Joins.below_alloc2 _ _ _)).below hb
    have X1 := X
    have Z1 := Z
    obtain ⟨hlt0, c0, c1, c2, c3, c4, c5, c6, c7, c8⟩ := X
    obtain ⟨hlt1, z0, z1, z2, z3, z4, z5, z6, z7, z8⟩ := Z
    clear hb
    go_wp2_with fail
    refine (l1Copy_any p ad len cap zs _ r1 hl).mono ?_
    rintro e w2 ⟨g, c, rfl, hown, hb2⟩
    unfold Pk.val
    have X2 := X1.below hb2
    have Z2 := Z1.below hb2
    have hf2 : ∀ o, w2.frozen? ⟨w.heap.size + 1, o, none⟩ = false := fun o => by rw [(bcell hb2).2 _ _ hlt1, hf1]
    have HB2 : Hid (Below w.heap.size w w2) := HB.out.trans (hb2.mono (by omega))
    have hlt2 : w1.heap.size ≤ w2.heap.size := hb2.size
    have HO : Hid (w2.ownsRow w1.heap.size 5 1 (.slice (some ⟨g, 0, none⟩) len c) len (zs.map (.int .u8))) := hown
    clear c0 c1 c2 c3 c4 c5 c6 c7 c8 z0 z1 z2 z3 z4 z5 z6 z7 z8 hown hb2 X1 Z1 HB hf1
    obtain ⟨hlt3, c0, c1, c2, c3, c4, c5, c6, c7, c8⟩ := X2
    obtain ⟨hlt4, z0, z1, z2, z3, z4, z5, z6, z7, z8⟩ := Z2
    go_wp2
    refine bodyPost_ret (v := .tuple #[.agg #[.int .i64 p.src, .int .i64 p.dst, .int .i64 p.kind, .int .i64 p.id, .int .i64 (p.hops - 1), .bool p.whole, .int .i64 p.off, .bool p.more, .slice (some ⟨g, 0, none⟩) len c], .int .i64 0]) (by simp [results, Try.results20, go_sem, z0, z1, z2, z3, z4, z5, z6, z7, z8, hlt4]) rfl (hopPost_go hr.1 HC.out rfl ?_ ?_)
    · exact (Joins.ownsRow_le (own9 HO.out (by omega) _ _ _ _ _ _ _ _ _) (by omega)).alloc _
    · exact (below9 HB2.out (by omega) _ _ _ _ _ _ _ _ _).alloc (by simp; omega) _

set_option maxHeartbeats 1600000 in
theorem implHop_any (p : Pk) (ad : Addr) (len cap : Nat) (zs : List Int) (w : World) (hr : RdB w (some ad) len zs) (hl : len ≤ 1048576) :
    Calls Try.prog 19 #[p.val (.slice (some ad) len cap)] w (HopPost p len zs w) := by
  unfold Pk.val
  cases hv : okB p len
  · have HC : Hid (hopC p len = 1) := by unfold hopC; rw [hv]; rfl
    go_enter Try.func19, Try.ntmps19
    go_wp2_with fail
    refine (implOk_any p (some ad) len cap _ hl).mono ?_
    rintro e w1 ⟨rfl, hb⟩
    have hf := (bcell hb).2
    have X : Boxed w1 w.heap.size p (.slice (some ad) len cap) := ((Boxed.new w p (.slice (some ad) len cap) 24).below (Joins.below_alloc1 _ _)).below hb
    have Z : Boxed w1 (w.heap.size + 1) zeroPk (.slice none 0 0) := (Boxed.newAt (w.alloc _) (w.heap.size + 1) zeroPk (.slice none 0 0) 24 (by simp)).below hb
    have HB : Hid (Below w.heap.size w w1) := (Joins.below_alloc2 _ _ _).trans (hb.mono (by simp; omega))
    have hf1 : ∀ o, w1.frozen? ⟨w.heap.size + 1, o, none⟩ = false := fun o => by rw [hf _ _ (by simp)]; go_simp
    clear hf
    obtain ⟨hlt0, c0, c1, c2, c3, c4, c5, c6, c7, c8⟩ := X
    obtain ⟨hlt1, z0, z1, z2, z3, z4, z5, z6, z7, z8⟩ := Z
    clear hb
    go_wp2
    exact bodyPost_ret (v := .tuple #[.agg #[.int .i64 0, .int .i64 0, .int .i64 0, .int .i64 0, .int .i64 0, .bool false, .int .i64 0, .bool false, .slice none 0 0], .int .i64 1]) (by simp [results, Try.results19, go_sem, z0, z1, z2, z3, z4, z5, z6, z7, z8]) rfl (hopPost_none hr.1 HC.out (by omega) rfl (below9 HB.out (by omega) _ _ _ _ _ _ _ _ _))
  by_cases h1 : p.hops = 1
  · have HC : Hid (hopC p len = 2) := by show hopC p len = 2; unfold hopC; rw [hv, if_pos rfl, if_pos h1]
    have h1b : (p.hops == 1) = true := by simp [h1]
    clear h1
    go_enter Try.func19, Try.ntmps19
    go_wp2_with fail
    refine (implOk_any p (some ad) len cap _ hl).mono ?_
    rintro e w1 ⟨rfl, hb⟩
    have hf := (bcell hb).2
    have X : Boxed w1 w.heap.size p (.slice (some ad) len cap) := ((Boxed.new w p (.slice (some ad) len cap) 24).below (Joins.below_alloc1 _ _)).below hb
    have Z : Boxed w1 (w.heap.size + 1) zeroPk (.slice none 0 0) := (Boxed.newAt (w.alloc _) (w.heap.size + 1) zeroPk (.slice none 0 0) 24 (by simp)).below hb
    have HB : Hid (Below w.heap.size w w1) := (Joins.below_alloc2 _ _ _).trans (hb.mono (by simp; omega))
    have hf1 : ∀ o, w1.frozen? ⟨w.heap.size + 1, o, none⟩ = false := fun o => by rw [hf _ _ (by simp)]; go_simp
    clear hf
    obtain ⟨hlt0, c0, c1, c2, c3, c4, c5, c6, c7, c8⟩ := X
    obtain ⟨hlt1, z0, z1, z2, z3, z4, z5, z6, z7, z8⟩ := Z
    clear hb
    go_wp2
    exact bodyPost_ret (v := .tuple #[.agg #[.int .i64 0, .int .i64 0, .int .i64 0, .int .i64 0, .int .i64 0, .bool false, .int .i64 0, .bool false, .slice none 0 0], .int .i64 2]) (by simp [results, Try.results19, go_sem, z0, z1, z2, z3, z4, z5, z6, z7, z8]) rfl (hopPost_none hr.1 HC.out (by omega) rfl (below9 HB.out (by omega) _ _ _ _ _ _ _ _ _))
  · have HC : Hid (hopC p len = 0) := by show hopC p len = 0; unfold hopC; rw [hv, if_pos rfl, if_neg h1]
    have h1b : (p.hops == 1) = false := by simp [h1]
    obtain ⟨hh1, hh2⟩ := ok_hops hv
    clear h1
    go_enter Try.func19, Try.ntmps19
    go_wp2_with fail
    refine (implOk_any p (some ad) len cap _ hl).mono ?_
    rintro e w1 ⟨rfl, hb⟩
    have hf := (bcell hb).2
    have X : Boxed w1 w.heap.size p (.slice (some ad) len cap) := ((Boxed.new w p (.slice (some ad) len cap) 24).below (Joins.below_alloc1 _ _)).below hb
    have Z : Boxed w1 (w.heap.size + 1) zeroPk (.slice none 0 0) := (Boxed.newAt (w.alloc _) (w.heap.size + 1) zeroPk (.slice none 0 0) 24 (by simp)).below hb
    have HB : Hid (Below w.heap.size w w1) := (Joins.below_alloc2 _ _ _).trans (hb.mono (by simp; omega))
    have hf1 : ∀ o, w1.frozen? ⟨w.heap.size + 1, o, none⟩ = false := fun o => by rw [hf _ _ (by simp)]; go_simp
    clear hf
    have r1 : RdB w1 (some ad) len zs := (hr.below (Joins.below_alloc2 _ _ _)).below hb
    have X1 := X
    have Z1 := Z
    obtain ⟨hlt0, c0, c1, c2, c3, c4, c5, c6, c7, c8⟩ := X
    obtain ⟨hlt1, z0, z1, z2, z3, z4, z5, z6, z7, z8⟩ := Z
    clear hb
    go_wp2_with fail
    refine (copyPacket_any p ad len cap zs _ r1 hl).mono ?_
    rintro e w2 ⟨g, c, rfl, hown, hb2⟩
    unfold Pk.val
    have X2 := X1.below hb2
    have Z2 := Z1.below hb2
    have hf2 : ∀ o, w2.frozen? ⟨w.heap.size + 1, o, none⟩ = false := fun o => by rw [(bcell hb2).2 _ _ hlt1, hf1]
    have HB2 : Hid (Below w.heap.size w w2) := HB.out.trans (hb2.mono (by omega))
    have hlt2 : w1.heap.size ≤ w2.heap.size := hb2.size
    have HO : Hid (w2.ownsRow w1.heap.size 5 1 (.slice (some ⟨g, 0, none⟩) len c) len (zs.map (.int .u8))) := hown
    clear c0 c1 c2 c3 c4 c5 c6 c7 c8 z0 z1 z2 z3 z4 z5 z6 z7 z8 hown hb2 X1 Z1 HB hf1
    obtain ⟨hlt3, c0, c1, c2, c3, c4, c5, c6, c7, c8⟩ := X2
    obtain ⟨hlt4, z0, z1, z2, z3, z4, z5, z6, z7, z8⟩ := Z2
    go_wp2
    refine bodyPost_ret (v := .tuple #[.agg #[.int .i64 p.src, .int .i64 p.dst, .int .i64 p.kind, .int .i64 p.id, .int .i64 (p.hops - 1), .bool p.whole, .int .i64 p.off, .bool p.more, .slice (some ⟨g, 0, none⟩) len c], .int .i64 0]) (by simp [results, Try.results19, go_sem, z0, z1, z2, z3, z4, z5, z6, z7, z8, hlt4]) rfl (hopPost_go hr.1 HC.out rfl ?_ ?_)
    · exact (Joins.ownsRow_le (own9 HO.out (by omega) _ _ _ _ _ _ _ _ _) (by omega)).alloc _
    · exact (below9 HB2.out (by omega) _ _ _ _ _ _ _ _ _).alloc (by simp; omega) _

end Go.Proofs.Ytjbkgmbakjnlhaa
