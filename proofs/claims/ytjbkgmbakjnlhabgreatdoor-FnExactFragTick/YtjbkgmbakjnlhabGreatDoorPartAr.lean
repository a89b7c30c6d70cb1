/- The program's FragTick. -/
import Derived.Test.YtjbkgmbakjnlhabGreatDoorTickB
import Derived.Test.YtjbkgmbakjnlhabGreatDoorPartAd
namespace Go.Proofs.YtjbkgmbakjnlhabGreatDoor
set_option maxRecDepth 100000
open Go.RowKit

/-- a slot, plain: the pieces with their bytes, since, bad -/
abbrev SK := List PB × Int × Bool
/-- what a bench's slots own -/
def AnsV (w : World) (lo : Nat) (oa : Option Addr) (ts : List SV) : Prop := (oa = none ∧ ts = []) ∨ ∃ gS, oa = some ⟨gS, 0, none⟩ ∧ AnsB w lo gS ts
theorem AnsV.below {w w' : World} {lo : Nat} {oa : Option Addr} {ts : List SV} (h : AnsV w lo oa ts) (hb : Below w.heap.size w w') : AnsV w' lo oa ts := by
  rcases h with h | ⟨g, h1, h2⟩
  · exact Or.inl h
  · exact Or.inr ⟨g, h1, h2.below hb⟩
theorem AnsV.le {w : World} {lo lo' : Nat} {oa : Option Addr} {ts : List SV} (h : AnsV w lo oa ts) (hl : lo' ≤ lo) : AnsV w lo' oa ts := by
  rcases h with h | ⟨g, h1, h2⟩
  · exact Or.inl h
  · exact Or.inr ⟨g, h1, h2.le hl⟩
theorem AnsV.slq {w : World} {lo : Nat} {oa : Option Addr} {ts : List SV} (h : AnsV w lo oa ts) : SLq w oa ts := by
  rcases h with ⟨_, h⟩ | ⟨g, h1, h2⟩
  · exact Or.inl h
  · exact Or.inr ⟨g, h1, h2.sl⟩
/-- a bench that was handed out -/
structure BAns (w : World) (lo : Nat) (v : Value) (now : Int) (ks : List SK) : Prop where
  at_ : ∃ oa c ts, v = .agg #[.int .i64 now, .slice oa ts.length c] ∧ ts.map SV.key = ks ∧ ts.length ≤ 4 ∧ ts.length ≤ c ∧ c ≤ 9223372036854775807 ∧ AnsV w lo oa ts
theorem BAns.below {w w' : World} {lo : Nat} {v : Value} {now : Int} {ks : List SK} (h : BAns w lo v now ks) (hb : Below w.heap.size w w') : BAns w' lo v now ks := by
  obtain ⟨oa, c, ts, h1, h2, h3, h4, h5, h6⟩ := h.at_
  exact ⟨oa, c, ts, h1, h2, h3, h4, h5, h6.below hb⟩
theorem BAns.le {w : World} {lo lo' : Nat} {v : Value} {now : Int} {ks : List SK} (h : BAns w lo v now ks) (hl : lo' ≤ lo) : BAns w lo' v now ks := by
  obtain ⟨oa, c, ts, h1, h2, h3, h4, h5, h6⟩ := h.at_
  exact ⟨oa, c, ts, h1, h2, h3, h4, h5, h6.le hl⟩
/-- what FragTick answers -/
def TickP (now : Int) (ss : List SV) (now' : Int) (ks : List SK) (c : Int) : Prop :=
  (¬ benchOk now ss ∧ now' = 0 ∧ ks = [] ∧ c = 1) ∨ (benchOk now ss ∧ now = 1000000 ∧ now' = now ∧ ks = ss.map SV.key ∧ c = 2) ∨ (benchOk now ss ∧ now ≠ 1000000 ∧ now' = now + 1 ∧ ks = (ss.map SV.key).filter (fun k => decide (now + 1 - 6 < k.2.1)) ∧ c = 0)
theorem TickP.same {now : Int} {ss ss' : List SV} {a a' : Int} {ks ks' : List SK} {c c' : Int} (h : TickP now ss a ks c) (h' : TickP now ss' a' ks' c') (hk : ss'.map SV.key = ss.map SV.key) : a = a' ∧ ks = ks' ∧ c = c' := by
  have hb := benchOk_iff (now := now) hk
  unfold TickP at h'
  rw [hb, hk] at h'
  rcases h with ⟨n, h1, h2, h3⟩ | ⟨n, m, h1, h2, h3⟩ | ⟨n, m, h1, h2, h3⟩ <;> rcases h' with ⟨n', h1', h2', h3'⟩ | ⟨n', m', h1', h2', h3'⟩ | ⟨n', m', h1', h2', h3'⟩
  all_goals first | (exact absurd n' n) | (exact absurd n n') | (exact absurd m m') | (exact absurd m' m) | (exact ⟨h1.trans h1'.symm, h2.trans h2'.symm, h3.trans h3'.symm⟩)
def TickPost (now : Int) (ss : List SV) (w : World) (e : Ending) (w' : World) : Prop :=
  ∃ v now' ks c, e = .returned (.tuple #[v, .int .i64 c]) ∧ TickP now ss now' ks c ∧ BAns w' w.heap.size v now' ks ∧ Below w.heap.size w w'
theorem keeps_keys (now : Int) (es : List Ent) : (es.filter (keeps now)).map (fun e => e.s.key) = (es.map fun e => e.s.key).filter (fun k => decide (now - 6 < k.2.1)) := by
  rw [List.filter_map]
  rfl
theorem map_len {α β γ : Type} {f : α → γ} {g : β → γ} {l : List α} {l' : List β} (h : l.map f = l'.map g) : l.length = l'.length := by
  have := congrArg List.length h
  simpa using this

set_option maxRecDepth 100000 in
set_option maxHeartbeats 6400000 in
theorem implTick_any (now : Int) (oa : Option Addr) (cl : Nat) (ss : List SV) (w : World) (hL : SLq w oa ss) (hm : ss.length ≤ 1048576) (hc : ss.length ≤ cl) (hcm : cl ≤ 9223372036854775807) (hg : GoodErr w) :
    Calls Tryz.prog 18 #[.agg #[.int .i64 now, .slice oa ss.length cl]] w (TickPost now ss w) := by
  have lg := hg.lt
  have HG : Hid (GoodErr w) := hg
  have KO : Hid (∀ W : World, Below w.heap.size w W → Calls Tryz.prog 30 #[.agg #[.int .i64 now, .slice oa ss.length cl]] W fun e w' => Below W.heap.size W w' ∧ ((¬ benchOk now ss ∧ e = .returned (.tuple #[.pointer none, errVal 1])) ∨
      (benchOk now ss ∧ ∃ ob mb ov es, e = .returned (.tuple #[.pointer (some ⟨ob, 0, none⟩), errVal 0]) ∧ OpenB w' W.heap.size ob mb ov now es ∧ es.map (fun e => e.s.key) = ss.map SV.key ∧ ∀ e ∈ es, e.good))) := fun W h => opened_any now oa cl ss W (hL.below h) hm hc hcm
  clear hL hg
  go_enter Tryz.func18, Tryz.ntmps18
  go_wp2_with fail
  refine (KO.out _ (Joins.below_alloc2 _ _ _)).mono ?_
  rintro e w1 ⟨b1, hcase⟩
  have B1 : Hid (Below w.heap.size w w1) := (Joins.below_alloc2 _ _ _).trans (b1.mono (by simp; omega))
  have r0 : w1.heap[w.heap.size + 1]? = some (.cells #[.int .i64 0, .slice none 0 0] 32 (0, 0)) := (b1.block _ (by simp)).trans (heap_new _ _ _ (by simp))
  have s1 : w.heap.size + 2 ≤ w1.heap.size := by have := b1.size; simp at this; omega
  have G1 : Hid (GoodErr w1) := HG.out.below B1.out lg
  clear KO b1
  rcases hcase with ⟨hn, rfl⟩ | ⟨hB, ob, mb, ov, es, rfl, O1, hk1, hgd⟩
  · have KE : Hid (∀ W : World, GoodErr W → Calls Tryz.prog 31 #[.iface 86 (.agg #[.int .i64 1])] W fun e w' => e = .returned (.int .i64 1) ∧ Below W.heap.size W w') := fun W h => codeOf_any 1 W h
    rw [errVal_ne (show (1 : Int) ≠ 0 by decide)]
    have HB : Hid (¬ benchOk now ss) := hn
    have R0 : Hid (w1.heap[w.heap.size + 1]? = some (.cells #[.int .i64 0, .slice none 0 0] 32 (0, 0))) := r0
    clear hn r0
    go_wp2_with fail
    refine (KE.out _ G1.out).mono ?_
    rintro e w2 ⟨rfl, b2⟩
    have B2 : Hid (Below w.heap.size w w2) := B1.out.trans (b2.mono (by omega))
    have R2 := (b2.block _ (lt_of_block R0.out)).trans R0.out
    have z0 : w2.cell? ⟨w.heap.size + 1, 0, none⟩ = some (.int .i64 0) := cell_of_row _ _ _ _ _ _ R2
    have z1 : w2.cell? ⟨w.heap.size + 1, 1, none⟩ = some (.slice none 0 0) := cell_of_row _ _ _ _ _ _ R2
    have fz : ∀ o, w2.frozen? ⟨w.heap.size + 1, o, none⟩ = false := fun o => Joins.unfrozen_of_block R2 o
    clear b2 R2 KE
    go_wp2
    refine bodyPost_ret (v := .tuple #[.agg #[.int .i64 0, .slice none 0 0], .int .i64 1]) (by simp [results, Tryz.results18, go_sem, z0, z1]) rfl ⟨_, 0, [], 1, rfl, Or.inl ⟨HB.out, rfl, rfl, rfl⟩, ⟨none, 0, [], rfl, rfl, by simp, by simp, by omega, Or.inl ⟨rfl, rfl⟩⟩, ?_⟩
    exact Below.setCell (Below.setCell B2.out (by simp only; omega) _) (by simp only; omega) _
  · rw [errVal_zero]
    have hss := hB.2.1
    have hn1 := hB.1
    have hel : es.length = ss.length := map_len hk1
    have O1' : Hid (OpenB w1 (w.heap.size + 2) ob mb ov now es) := (by have h := O1; rw [show ((w.alloc (.cells #[.int .i64 now, .slice oa ss.length cl] 32)).alloc (.cells #[.int .i64 0, .slice none 0 0] 32)).heap.size = w.heap.size + 2 by simp] at h; exact h)
    have R0 : Hid (w1.heap[w.heap.size + 1]? = some (.cells #[.int .i64 0, .slice none 0 0] 32 (0, 0))) := r0
    have HK : Hid (es.map (fun e => e.s.key) = ss.map SV.key) := hk1
    have HB : Hid (benchOk now ss) := hB
    clear O1 r0 hk1 hB hgd
    go_wp2_with fail
    refine (tick_any (w.heap.size + 2) ob mb ov now es _ O1'.out hn1.1 hn1.2 (by omega)).mono ?_
    rintro e w2 ⟨b2, hcase⟩
    obtain ⟨c, now', ov', fs, rfl, O2, hP, hfl⟩ : ∃ c now' ov' fs, e = .returned (errVal c) ∧ OpenB w2 (w.heap.size + 2) ob mb ov' now' fs ∧ TickP now ss now' (fs.map fun e => e.s.key) c ∧ fs.length ≤ 4 := by
      rcases hcase with ⟨h1, h2, h3⟩ | ⟨h1, h2, ov', h3⟩
      · exact ⟨2, now, ov, es, h2, h3, Or.inr (Or.inl ⟨HB.out, h1, rfl, HK.out, rfl⟩), by omega⟩
      · refine ⟨0, now + 1, ov', _, h2, h3, Or.inr (Or.inr ⟨HB.out, h1, rfl, ?_, rfl⟩), Nat.le_trans (List.length_filter_le _ _) (by omega)⟩
        rw [keeps_keys, HK.out]
    have B2 : Hid (Below w.heap.size w w2) := B1.out.trans (b2.mono (by omega))
    have R2 : Hid (w2.heap[w.heap.size + 1]? = some (.cells #[.int .i64 0, .slice none 0 0] 32 (0, 0))) := (b2.block _ (by omega)).trans R0.out
    have HO2 : Hid (OpenB w2 (w.heap.size + 2) ob mb ov' now' fs) := O2
    have HP : Hid (TickP now ss now' (fs.map fun e => e.s.key) c) := hP
    have G2 : Hid (GoodErr w2) := HG.out.below B2.out lg
    have s2 : w.heap.size + 2 ≤ w2.heap.size := Nat.le_trans s1 b2.size
    clear hcase b2 O2 hP O1' R0 G1 B1
    obtain ⟨ev, hev⟩ : ∃ ev, errVal c = ev := ⟨_, rfl⟩
    have KE : Hid (∀ W : World, GoodErr W → Calls Tryz.prog 31 #[ev] W fun e w' => e = .returned (.int .i64 c) ∧ Below W.heap.size W w') := fun W h => by rw [← hev]; exact codeOf_any c W h
    rw [hev]
    clear hev
    go_wp2_with fail
    refine (told_any (w.heap.size + 2) ob mb ov' now' fs _ HO2.out (by omega)).mono ?_
    rintro e w3 ⟨gS, rfl, hgs, A3, b3⟩
    have B3 : Hid (Below w.heap.size w w3) := B2.out.trans (b3.mono (by omega))
    have R3 : Hid (w3.heap[w.heap.size + 1]? = some (.cells #[.int .i64 0, .slice none 0 0] 32 (0, 0))) := (b3.block _ (by omega)).trans R2.out
    have HA3 : Hid (AnsB w3 (w.heap.size + 2) gS (fs.map Ent.s)) := A3
    have s3 : w.heap.size + 2 ≤ w3.heap.size := Nat.le_trans s2 b3.size
    clear b3 A3 R2 B2 HO2
    go_wp2_with fail
    refine (KE.out _ (HG.out.below B3.out lg)).mono ?_
    rintro e w4 ⟨rfl, b4⟩
    have B4 : Hid (Below w.heap.size w w4) := B3.out.trans (b4.mono (by omega))
    have R4 := (b4.block _ (lt_of_block R3.out)).trans R3.out
    have A4 := HA3.out.below b4
    have z0 : w4.cell? ⟨w.heap.size + 1, 0, none⟩ = some (.int .i64 0) := cell_of_row _ _ _ _ _ _ R4
    have z1 : w4.cell? ⟨w.heap.size + 1, 1, none⟩ = some (.slice none 0 0) := cell_of_row _ _ _ _ _ _ R4
    have fz : ∀ o, w4.frozen? ⟨w.heap.size + 1, o, none⟩ = false := fun o => Joins.unfrozen_of_block R4 o
    have A5 : Hid (AnsB ((w4.setCell ⟨w.heap.size + 1, 0, none⟩ (.int .i64 now')).setCell ⟨w.heap.size + 1, 1, none⟩ (.slice (some ⟨gS, 0, none⟩) fs.length fs.length)) w.heap.size gS (fs.map Ent.s)) := (A4.kept fun b hb => (Below.heap_setCell _ _ _ _ (by simp only; omega)).trans (Below.heap_setCell _ _ _ _ (by simp only; omega))).le (by omega)
    clear b4 R4 A4 KE HA3 R3 B3
    go_wp2
    refine bodyPost_ret (v := .tuple #[.agg #[.int .i64 now', .slice (some ⟨gS, 0, none⟩) fs.length fs.length], .int .i64 c]) (by simp [results, Tryz.results18, go_sem, z0, z1]) rfl ⟨_, now', _, c, rfl, HP.out, ⟨some ⟨gS, 0, none⟩, fs.length, fs.map Ent.s, by simp, by simp, by simpa using hfl, by simp, by omega, Or.inr ⟨gS, rfl, A5.out⟩⟩, ?_⟩
    exact Below.setCell (Below.setCell B4.out (by simp only; omega) _) (by simp only; omega) _
end Go.Proofs.YtjbkgmbakjnlhabGreatDoor

/- Lists of packets of the laws: marked. -/
namespace Go.Proofs.YtjbkgmbakjnlhabGreatDoor
set_option maxRecDepth 100000
open Go.RowKit

theorem own_gy {w : World} {gy : Nat} {zs : List Int} (hz : zs.length ≤ 1048576) (h : w.heap[gy]? = some (.cells (cellsOf zs) 5 (0, 0))) : w.ownsRow gy 5 1 (.slice (some ⟨gy, 0, none⟩) zs.length zs.length) zs.length (zs.map (.int .u8)) :=
  own_of_block (Nat.le_refl _) (by unfold maxLen; omega) h

set_option maxRecDepth 100000 in
set_option maxHeartbeats 6400000 in
theorem markFragPacketS_any (gL cl n : Nat) (ys : List RV) (w : World) (hn : ys.length = n) (hM : MB w gL n ys) (hm : n + sumLen ys ≤ 1048576) :
    Calls Tryz.prog 60 #[.slice (some ⟨gL, 0, none⟩) n cl, .int .i64 1] w fun e w' => ∃ k : Int, e = .returned (.int .i64 k) ∧ 0 ≤ k ∧ Left gL ys w w' := by
  have HM : Hid (MB w gL n ys) := hM
  clear hM
  go_enter Tryz.func60, Tryz.ntmps60
  go_wp2
  go_loopw [1, 5] (fun l i wr => ∃ (m : Nat) (kk : Int), m ≤ n ∧ i = .int .i64 m ∧ l = .int .i64 kk ∧ 0 ≤ kk ∧ kk ≤ 1 + 8 * (m : Int) + (sumLen (ys.take m) : Int) ∧ Hid (MB wr gL n ys) ∧ Hid (Left gL ys w wr)) (fun _ i _ => n - (intOf i).toNat)
  case atStart => exact ⟨0, 1, by omega, rfl, rfl, by omega, by simp [sumLen], HM.out, ⟨rfl, rfl, rfl, Nat.le_refl _, fun _ _ _ => rfl⟩⟩
  case round =>
    obtain ⟨m, kk, hmn, rfl, rfl, hk0, hk1, HB, HF⟩ := hrel
    by_cases hlt : m < n
    · obtain ⟨y, hy⟩ := get_of_lt (show m < ys.length by omega)
      have hi : (m : Int) < (n : Int) := by omega
      have hsl := sumLen_mem (List.mem_of_getElem? hy)
      have hst := sumLen_take hy
      have hle : sumLen (ys.take m) ≤ 1048576 := by
        have : sumLen (ys.take m) ≤ sumLen ys := sumLen_le ys m
        omega
      obtain ⟨cur, hc, hcs, r⟩ := HB.out.blk
      obtain ⟨gy, zs, ha, hz, hd⟩ := HB.out.each y (List.mem_of_getElem? hy)
      have r8 := r m y hy
      rw [ha] at r8
      have hgl := lt_of_block hc
      have hgy := lt_of_block hd
      have hne : gy ≠ gL := fun e => by
        rw [e, hc] at hd
        cases hd
      have HY : Hid (ys[m]? = some y) := hy
      have HA : Hid (y.a = some ⟨gy, 0, none⟩) := ha
      have HD : Hid (wr.heap[gy]? = some (.cells (cellsOf zs) 5 (0, 0))) := hd
      have HZ : Hid (zs.length = y.zs.length) := hz
      have HT : Hid (sumLen (ys.take (m + 1)) = sumLen (ys.take m) + y.zs.length) := hst
      have fz : ∀ o, wr.frozen? ⟨gL, o, none⟩ = false := fun o => Joins.unfrozen_of_block hc o
      have ce : ∀ o, wr.cell? ⟨gL, o, none⟩ = cur[o]? := fun o => cell_of_row _ _ _ _ _ _ hc
      obtain ⟨u0, h0⟩ := cells_there (cur := cur) (o := m * 9) (by omega)
      obtain ⟨u1, h1⟩ := cells_there (cur := cur) (o := m * 9 + 1) (by omega)
      obtain ⟨u2, h2⟩ := cells_there (cur := cur) (o := m * 9 + 2) (by omega)
      obtain ⟨u3, h3⟩ := cells_there (cur := cur) (o := m * 9 + 3) (by omega)
      obtain ⟨u4, h4⟩ := cells_there (cur := cur) (o := m * 9 + 4) (by omega)
      obtain ⟨u5, h5⟩ := cells_there (cur := cur) (o := m * 9 + 5) (by omega)
      obtain ⟨u6, h6⟩ := cells_there (cur := cur) (o := m * 9 + 6) (by omega)
      obtain ⟨u7, h7⟩ := cells_there (cur := cur) (o := m * 9 + 7) (by omega)
      have q0 := (ce _).trans h0
      have q1 := (ce _).trans h1
      have q2 := (ce _).trans h2
      have q3 := (ce _).trans h3
      have q4 := (ce _).trans h4
      have q5 := (ce _).trans h5
      have q6 := (ce _).trans h6
      have q7 := (ce _).trans h7
      have q8 := (ce _).trans r8
      obtain ⟨sm, hsm⟩ : ∃ sm, sumLen (ys.take m) = sm := ⟨_, rfl⟩
      rw [hsm] at hk1 hle HT
      have hyl : y.zs.length ≤ 1048576 := by omega
      clear h0 h1 h2 h3 h4 h5 h6 h7 ce hc hcs hd r r8 hy ha hz hst hsm
      go_wp2_with fail
      have M8 := HB.out.put8 (k := m) (.int .i64 kk) (.int .i64 (kk + 1)) (.int .i64 (kk + 1 + 1)) (.int .i64 (kk + 1 + 1 + 1)) (.int .i64 (kk + 1 + 1 + 1 + 1)) (.bool ((kk + 1 + 1 + 1 + 1 + 1) % 3 == 0)) (.int .i64 (kk + 1 + 1 + 1 + 1 + 1 + 1)) (.bool ((kk + 1 + 1 + 1 + 1 + 1 + 1 + 1) % 3 == 0))
      have F8 := HF.out.put8 (k := m) (.int .i64 kk) (.int .i64 (kk + 1)) (.int .i64 (kk + 1 + 1)) (.int .i64 (kk + 1 + 1 + 1)) (.int .i64 (kk + 1 + 1 + 1 + 1)) (.bool ((kk + 1 + 1 + 1 + 1 + 1) % 3 == 0)) (.int .i64 (kk + 1 + 1 + 1 + 1 + 1 + 1)) (.bool ((kk + 1 + 1 + 1 + 1 + 1 + 1 + 1) % 3 == 0))
      have D8 := (far8 wr gL (m * 9) gy hne (.int .i64 kk) (.int .i64 (kk + 1)) (.int .i64 (kk + 1 + 1)) (.int .i64 (kk + 1 + 1 + 1)) (.int .i64 (kk + 1 + 1 + 1 + 1)) (.bool ((kk + 1 + 1 + 1 + 1 + 1) % 3 == 0)) (.int .i64 (kk + 1 + 1 + 1 + 1 + 1 + 1)) (.bool ((kk + 1 + 1 + 1 + 1 + 1 + 1 + 1) % 3 == 0))).trans HD.out
      generalize ((((((((wr.setCell ⟨gL, m * 9, none⟩ (.int .i64 kk)).setCell ⟨gL, m * 9 + 1, none⟩ (.int .i64 (kk + 1))).setCell ⟨gL, m * 9 + 2, none⟩ (.int .i64 (kk + 1 + 1))).setCell ⟨gL, m * 9 + 3, none⟩ (.int .i64 (kk + 1 + 1 + 1))).setCell ⟨gL, m * 9 + 4, none⟩ (.int .i64 (kk + 1 + 1 + 1 + 1))).setCell ⟨gL, m * 9 + 5, none⟩ (.bool ((kk + 1 + 1 + 1 + 1 + 1) % 3 == 0))).setCell ⟨gL, m * 9 + 6, none⟩ (.int .i64 (kk + 1 + 1 + 1 + 1 + 1 + 1))).setCell ⟨gL, m * 9 + 7, none⟩ (.bool ((kk + 1 + 1 + 1 + 1 + 1 + 1 + 1) % 3 == 0))) = w8 at M8 F8 D8 ⊢
      have O8 := own_gy (by rw [HZ.out]; exact hyl) D8
      rw [HZ.out] at O8
      refine (markByteS_any (some ⟨gy, 0, none⟩) y.zs.length y.zs.length gy (kk + 1 + 1 + 1 + 1 + 1 + 1 + 1 + 1) zs _ HZ.out O8 (by omega) (by omega) hyl).mono ?_
      rintro e w9 ⟨rfl, o9, g9⟩
      have M9 : Hid (MB w9 gL n ys) := M8.bytes g9 o9 ⟨zs, HZ.out, D8⟩
      have F9 : Hid (Left gL ys w w9) := F8.bytes g9 (List.mem_of_getElem? HY.out) HA.out
      clear M8 F8 D8 O8 o9 g9 q0 q1 q2 q3 q4 q5 q6 q7 q8 fz
      go_wp2
      go_roundw
      case rel => exact ⟨m + 1, _, by omega, by go_num, rfl, by omega, by rw [HT.out]; omega, M9.out, F9.out⟩
      case measure => simp [intOf]; omega
    · obtain rfl : m = n := by omega
      go_wp2
      go_ret
      exact ⟨kk, rfl, hk0, HF.out⟩
end Go.Proofs.YtjbkgmbakjnlhabGreatDoor
