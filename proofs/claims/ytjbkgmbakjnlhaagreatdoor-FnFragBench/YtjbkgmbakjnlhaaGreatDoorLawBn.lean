import Derived.Test.YtjbkgmbakjnlhaaGreatDoorPartBk
import Derived.Test.YtjbkgmbakjnlhaaGreatDoorPartBl
import Derived.Test.YtjbkgmbakjnlhaaGreatDoorPartAw
namespace Go.Proofs.YtjbkgmbakjnlhaaGreatDoor
set_option maxRecDepth 100000
open Go.RowKit
set_option maxHeartbeats 25600000 in
theorem bnRnd {Q : Exit → Act → World → Prop} (hP : PanicOk Q) {w1 : World} {gl n cl : Nat} {xs : List RV} (C : LCx w1 gl n xs) {wr : World} {k l : Nat} {nw : Int} {ob : Option Addr} {cb : Nat} {ts : List SV} (S : BSt w1 wr k l nw ob cb ts) {v0 v1 v2 v6 v7 v8 v9 v10 v11 v12 v13 v14 v15 v16 v17 v18 v19 v20 : Value} {f : Nat → Value} (hkx : n ≤ 112) (hE : Hid (¬ k < n → ∀ f, Q (.exit 0) (fr v0 v1 v2 (.slice (some ⟨gl, 0, none⟩) n cl) (.pointer (some ⟨w1.heap.size, 0, none⟩)) (.int .i64 k) v6 v7 v8 v9 v10 v11 v12 v13 v14 v15 v16 v17 v18 v19 v20 f) wr)) (hN : Hid (k < n → ∀ f u6 u7 u8 u9 u10 u11 u12 u13 u14 u15 u16 u17 u18 u19 u20 wx l' nw' ob' cb' ts', BSt w1 wx (k + 1) l' nw' ob' cb' ts' → Q .normal (fr v0 v1 v2 (.slice (some ⟨gl, 0, none⟩) n cl) (.pointer (some ⟨w1.heap.size, 0, none⟩)) (.int .i64 (k + 1 : Nat)) (u6) (u7) (u8) (u9) (u10) (u11) (u12) (u13) (u14) (u15) (u16) (u17) (u18) (u19) (u20) f) wx)) : (Cd.inn (Cd.inn (Cd.snd (Cd.fst (Cd.snd (Cd.snd (Cd.snd (Cd.snd (Option.getD Tryz.f3.body .skip))))))))).wp Tryz.prog Q (fr v0 v1 v2 (.slice (some ⟨gl, 0, none⟩) n cl) (.pointer (some ⟨w1.heap.size, 0, none⟩)) (.int .i64 k) v6 v7 v8 v9 v10 v11 v12 v13 v14 v15 v16 v17 v18 v19 v20 f) wr := by
 refine sq (by kernel_rfl) (bn6 (fun hkn f => then_n ?_) (fun hkn f => then_x (hE.out hkn f)))
 obtain ⟨x, hx⟩ := get_of_lt (show k < xs.length by rw [C.len.out]; exact hkn)
 refine sq (by kernel_rfl) (blk (i := 1) (by kernel_rfl) (wp_is (c' := (Cd.inn (Cd.fst (Cd.snd (Cd.inn (Cd.inn (Cd.snd (Cd.fst (Cd.snd (Cd.snd (Cd.snd (Cd.snd (Option.getD Tryz.f3.body .skip))))))))))))) (by kernel_rfl) ?_))
 by_cases htick : x.p.kind = 0 ∧ x.p.hops = 0
 ·exact sq (by kernel_rfl) (bn8_tick C S hkn hx hkx htick (fun f u6 u7 u8 u9 wx l' nw' ob' cb' ts' S' => then_x (blk_x (then_n (bn7 (by omega) (fun f => hN.out hkn f _ _ _ _ _ _ _ _ _ _ _ _ _ _ _ wx l' nw' ob' cb' ts' S'))))))
 ·exact bnTake ((hP.then _).blk 1) C S hkn hx htick (fun f u10 u11 u12 u13 u14 u15 u16 u17 u18 u19 u20 wx l' nw' ob' cb' ts' S' => blk_n (then_n (bn7 (by omega) (fun f => hN.out hkn f _ _ _ _ _ _ _ _ _ _ _ _ _ _ _ wx l' nw' ob' cb' ts' S'))))
def BnI (w1 : World) (gl n cl : Nat) (a : Act) (wr : World) : Prop := ∃ (k l : Nat) (nw : Int) (ob : Option Addr) (cb : Nat) (ts : List SV) (v0 v1 v2 v6 v7 v8 v9 v10 v11 v12 v13 v14 v15 v16 v17 v18 v19 v20 : Value) (f : Nat → Value), k ≤ n ∧ a = fr v0 v1 v2 (.slice (some ⟨gl, 0, none⟩) n cl) (.pointer (some ⟨w1.heap.size, 0, none⟩)) (.int .i64 k) v6 v7 v8 v9 v10 v11 v12 v13 v14 v15 v16 v17 v18 v19 v20 f ∧ BSt w1 wr k l nw ob cb ts
set_option maxHeartbeats 25600000 in
theorem bnLoop_any {Q : Exit → Act → World → Prop} (hP : PanicOk Q) {w1 : World} {gl n cl : Nat} {xs : List RV} (C : LCx w1 gl n xs) (hkx : n ≤ 112) {a : Act} {w : World} (h0 : BnI w1 gl n cl a w) (hE : Hid (∀ (l : Nat) (nw : Int) (ob : Option Addr) (cb : Nat) (ts : List SV) (v0 v1 v2 v6 v7 v8 v9 v10 v11 v12 v13 v14 v15 v16 v17 v18 v19 v20 : Value) (f : Nat → Value) (k : Nat) (wr : World), BSt w1 wr k l nw ob cb ts → Q (.exit 0) (fr v0 v1 v2 (.slice (some ⟨gl, 0, none⟩) n cl) (.pointer (some ⟨w1.heap.size, 0, none⟩)) (.int .i64 k) v6 v7 v8 v9 v10 v11 v12 v13 v14 v15 v16 v17 v18 v19 v20 f) wr)) : (Code.loop (Cd.inn (Cd.inn (Cd.snd (Cd.fst (Cd.snd (Cd.snd (Cd.snd (Cd.snd (Option.getD Tryz.f3.body .skip)))))))))).wp Tryz.prog Q a w := by
 refine wp_loop (BnI w1 gl n cl) (fun a _ => n - (intOf (a.eval (.tmp 5))).toNat) h0 ?_
 rintro a wr ⟨k, l, nw, ob, cb, ts, v0, v1, v2, v6, v7, v8, v9, v10, v11, v12, v13, v14, v15, v16, v17, v18, v19, v20, f, hk, rfl, S⟩
 refine bnRnd (hP.then _) C S hkx (fun _ f => then_x (hE.out l nw ob cb ts v0 v1 v2 v6 v7 v8 v9 v10 v11 v12 v13 v14 v15 v16 v17 v18 v19 v20 f k wr S)) (fun hkn f u6 u7 u8 u9 u10 u11 u12 u13 u14 u15 u16 u17 u18 u19 u20 wx l' nw' ob' cb' ts' S' => then_n ⟨⟨k + 1, l', nw', ob', cb', ts', _, _, _, _, _, _, _, _, _, _, _, _, _, _, _, _, _, _, f, by omega, rfl, S'⟩, ?_⟩)
 show n - (intOf (.int .i64 ((k + 1 : Nat) : Int))).toNat < n - (intOf (.int .i64 (k : Int))).toNat
 simp [intOf]
 omega
set_option maxHeartbeats 25600000 in
theorem benchLaw_any (a : Option Addr) (len cap : Nat) (w : World) (hlen : (len : Int) ≤ 1048576) (hg : GoodErr w)
  (hd : Hid (Calls Tryz.prog 6 #[.slice a len cap] w (ComeDrawn w))) :
  Calls Tryz.prog 3 #[.slice a len cap] w fun e w' => e = .returned (.bool true) ∧ Below w.heap.size w w' := by
 have HG0 : Hid (GoodErr w) := hg
 have hg0 := hg.lt
 clear hg
 go_enter Tryz.func3, Tryz.ntmps3
 go_wp2_with fail
 (with_reducible refine hd.out.mono ?_)
 rintro e w1 ⟨gl, n, cl, lo, xs, rfl, hL, hn, B1⟩
 have s1 := B1.size
 have HB1 : Hid (Below w.heap.size w w1) := B1
 have C : LCx w1 gl n xs := ⟨hL.len, hL.rl.lt, (fun u i x hb hx => by
  have R := hL.rl.below hb
  obtain ⟨c0, c1, c2, c3, c4, c5, c6, c7, c8⟩ := R.elem i x hx
  exact ⟨R.each x (List.mem_of_getElem? hx), c0, c1, c2, c3, c4, c5, c6, c7, c8⟩), (fun u h => (HG0.out.below B1 hg0).below h (by omega))⟩
 have S0 : BSt w1 (w1.alloc (.cells #[.int .i64 0, .slice none 0 0] 27)) 0 0 0 none 0 [] := ⟨by omega, by omega, by omega, by omega, rfl, (show benchOk 0 [] from ⟨⟨by omega, by omega⟩, by simp, fun j s h => by simp at h⟩), (fun u _ => Or.inl rfl), (heap_new _ _ _ rfl), zBa _ _⟩
 clear hL B1 HG0 hd
 go_wp2_with fail
 refine wp_is (c' := .loop (Cd.inn (Cd.inn (Cd.snd (Cd.fst (Cd.snd (Cd.snd (Cd.snd (Cd.snd (Option.getD Tryz.f3.body .skip)))))))))) (by kernel_rfl) ?_
 refine bnLoop_any ?_ C hn (fr_end (C := fun a => BnI w1 gl n cl a _) rfl rfl rfl (fun f => ⟨0, 0, 0, none, 0, [], _, _, _, _, _, _, _, _, _, _, _, _, _, _, _, _, _, _, f, by omega, rfl, S0⟩)) (fun l nw ob cb ts v0 v1 v2 v6 v7 v8 v9 v10 v11 v12 v13 v14 v15 v16 v17 v18 v19 v20 f k wr S => blk_x (then_n ?_))
 ·intro c d v a w
  dsimp (zetaDelta := true) only [Exit.inBlock, Exit.then]
  cases d <;> exact id
 go_step
 obtain ⟨hl, hlb, hlx, hnk, HTL, HOK, HQT, HBX, HBE⟩ := S
 have j0 : wr.cell? ⟨w1.heap.size, 0, none⟩ = some (.int .i64 nw) := zCr HBX.out
 have j1 : wr.cell? ⟨w1.heap.size, 1, none⟩ = some (.slice ob l cb) := zCr HBX.out
 have lj := lt_of_block HBX.out
 have KB : Hid (Calls Tryz.prog 13 #[.agg #[.int .i64 nw, .slice ob l cb]] wr (SaysB (benchOk nw ts) wr)) := by
  have h := implBenchOk_q nw ob cb ts wr (HQT.out wr fun b _ _ => rfl) (by rw [HTL.out]; omega) (by rw [HTL.out]; omega) hlx
  rw [HTL.out] at h
  exact h
 unfold fr
 go_wp2_with fail
 (with_reducible refine KB.out.mono ?_)
 rintro e u1 ⟨v, rfl, hv, d1⟩
 obtain rfl : v = true := hv.2 HOK.out
 have FIN : Hid (Below w.heap.size w u1) := (HB1.out.trans (HBE.out.mono s1)).trans (d1.mono (by have := HBE.out.size; omega))
 clear d1
 go_wp2
 go_ret
 exact ⟨rfl, FIN.out⟩
end Go.Proofs.YtjbkgmbakjnlhaaGreatDoor
