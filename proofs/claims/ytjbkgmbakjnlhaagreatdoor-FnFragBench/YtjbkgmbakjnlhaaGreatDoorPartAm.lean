import Derived.Test.YtjbkgmbakjnlhaaGreatDoorPartAa
import Derived.WalkKit
import Derived.LaidEql
import Derived.Stop.Asserts
import Derived.RowKitTokens
import Derived.Test.YtjbkgmbakjnlhaaGreatDoorPartAd
import Derived.Test.YtjbkgmbakjnlhaaGreatDoorPartAe
namespace Go.Proofs.YtjbkgmbakjnlhaaGreatDoor
set_option maxRecDepth 100000
open Go.RowKit Go.Extern.Stop Go.Stop Go.Extern
theorem as_nil (t : Value) (w : World) :
  Calls Tryz.prog 63 #[.nilIface, t] w fun e w' => e = .returned (.bool false) ∧ w' = w := by
 go_enter Tryz.func63, Tryz.ntmps63
 go_wp2
 go_ret
 exact ⟨rfl, rfl⟩
theorem Tryz.valueOfP (t : Addr) (w : World) : (ReflectliteValue.unpack (.iface 110 (.pointer (some t)))).run Tryz.prog w
  = .ok (.agg #[.pointer (some ⟨1, 110, none⟩), .pointer (some ⟨w.heap.size, 0, none⟩), .int .u64 150]) (w.alloc (.cells #[.pointer (some t)] 110)) := by kernel_rfl
theorem Tryz.typeP (a : Addr) (w : World) : (ReflectliteValue.methodAny (ReflectliteValue.valueError "reflectlite.Value.Type" 0) (fun t _ _ _ => ReflectliteType.toType t) #[.agg #[.pointer (some ⟨1, 110, none⟩), .pointer (some a), .int .u64 150]]).run Tryz.prog w
  = .ok (.iface 166 (.agg #[.pointer (some ⟨1, 110, none⟩)])) w := by kernel_rfl
theorem Tryz.methodKind (h : Value) (w : World) : (Go.method 314 166 (.agg #[h]) "Kind").run Tryz.prog w = .ok (133, h) w := by kernel_rfl
theorem Tryz.kindP (w : World) : ((ReflectliteType.abiMethod fun t => (fun a : Nat => Value.int IntKind.u8 (a : Int)) <$> Rtype.kind t) #[.pointer (some ⟨1, 110, none⟩)]).run Tryz.prog w = .ok (.int .u8 22) w := by kernel_rfl
theorem Tryz.kindS (w : World) : ((ReflectliteType.abiMethod fun t => (fun a : Nat => Value.int IntKind.u8 (a : Int)) <$> Rtype.kind t) #[.pointer (some ⟨1, 96, none⟩)]).run Tryz.prog w = .ok (.int .u8 25) w := by kernel_rfl
theorem rlm (z : Sem Value) (f : TypeId → Addr → Nat → Nat → Sem Value) (v : Value) :
  ReflectliteValue.method z f #[v] = (do match ← ReflectliteValue.parts v with | none => z | some (t, a, fl) => f t a fl (fl % 32)) := rfl
theorem Tryz.partsP (a : Addr) (w : World) : (ReflectliteValue.parts (.agg #[.pointer (some ⟨1, 110, none⟩), .pointer (some a), .int .u64 150])).run Tryz.prog w = .ok (some (110, a, 150)) w := by kernel_rfl
theorem Tryz.isNilP (a p : Addr) (W : World) (ha : W.cell? a = some (.pointer (some p))) :
  (ReflectliteValue.method (ReflectliteValue.valueError "reflectlite.Value.IsNil" 0) ReflectliteValue.isNil #[.agg #[.pointer (some ⟨1, 110, none⟩), .pointer (some a), .int .u64 150]]).run Tryz.prog W = .ok (.bool false) W := by
 rw [rlm]
 simp only [Sem.run_bind, Tryz.partsP, Result.andThen]
 simp [ReflectliteValue.isNil, loadVar, isAgg, underlying, Tryz.underlying110, ha, Result.andThen]
theorem Tryz.methodElem (h : Value) (w : World) : (Go.method 314 166 (.agg #[h]) "Elem").run Tryz.prog w = .ok (148, .agg #[h]) w := by kernel_rfl
theorem Tryz.methodAssignableTo (h : Value) (w : World) : (Go.method 314 166 (.agg #[h]) "AssignableTo").run Tryz.prog w = .ok (146, .agg #[h]) w := by kernel_rfl
theorem Tryz.methodImplements (h : Value) (w : World) : (Go.method 314 166 (.agg #[h]) "Implements").run Tryz.prog w = .ok (149, .agg #[h]) w := by kernel_rfl
theorem Tryz.elemP (w : World) : (ReflectliteType.method ReflectliteType.elem #[.agg #[.pointer (some ⟨1, 110, none⟩)]]).run Tryz.prog w = .ok (.iface 166 (.agg #[.pointer (some ⟨1, 96, none⟩)])) w := by kernel_rfl
theorem Tryz.implementsS (w : World) : (ReflectliteType.relation "Implements" ReflectliteType.implements_ #[.agg #[.pointer (some ⟨1, 96, none⟩)], .iface 166 (.agg #[.pointer (some ⟨1, 56, none⟩)])]).run Tryz.prog w = .ok (.bool true) w := by kernel_rfl
theorem Tryz.typeOfS (v : Value) (w : World) : (ReflectliteType.typeOf #[.iface 96 v]).run Tryz.prog w = .ok (.iface 166 (.agg #[.pointer (some ⟨1, 96, none⟩)])) w := by kernel_rfl
theorem Tryz.assignableS (w : World) : (ReflectliteType.relation "AssignableTo" ReflectliteType.assignableTo #[.agg #[.pointer (some ⟨1, 96, none⟩)], .iface 166 (.agg #[.pointer (some ⟨1, 96, none⟩)])]).run Tryz.prog w = .ok (.bool true) w := by kernel_rfl
theorem Tryz.valueOfS (c : Int) (w : World) : (ReflectliteValue.unpack (.iface 96 (.agg #[.int .i64 c]))).run Tryz.prog w
  = .ok (.agg #[.pointer (some ⟨1, 96, none⟩), .pointer (some ⟨w.heap.size, 0, none⟩), .int .u64 153]) (w.alloc (.cells #[.int .i64 c] 96)) := by kernel_rfl
theorem Tryz.elemOfP (w : World) : (Rtype.elem? 110).run Tryz.prog w = .ok (some 96) w := by kernel_rfl
theorem Tryz.mkS (p : Addr) (w : World) : (ReflectliteValue.mk 96 p ReflectliteValue.flagAddr).run Tryz.prog w = .ok (.agg #[.pointer (some ⟨1, 96, none⟩), .pointer (some p), .int .u64 409]) w := by kernel_rfl
theorem Tryz.elemVP (a p : Addr) (W : World) (ha : W.cell? a = some (.pointer (some p))) :
  (ReflectliteValue.method (ReflectliteValue.valueError "reflectlite.Value.Elem" 0) ReflectliteValue.elem #[.agg #[.pointer (some ⟨1, 110, none⟩), .pointer (some a), .int .u64 150]]).run Tryz.prog W
   = .ok (.agg #[.pointer (some ⟨1, 96, none⟩), .pointer (some p), .int .u64 409]) W := by
 rw [rlm]
 simp only [Sem.run_bind, Tryz.partsP, Result.andThen]
 simp [ReflectliteValue.elem, loadVar, isAgg, underlying, Tryz.underlying110, ha, Result.andThen, Tryz.elemOfP, Tryz.mkS]
theorem Tryz.partsSa (a : Addr) (w : World) : (ReflectliteValue.parts (.agg #[.pointer (some ⟨1, 96, none⟩), .pointer (some a), .int .u64 409])).run Tryz.prog w = .ok (some (96, a, 409)) w := by kernel_rfl
theorem Tryz.partsS (a : Addr) (w : World) : (ReflectliteValue.parts (.agg #[.pointer (some ⟨1, 96, none⟩), .pointer (some a), .int .u64 153])).run Tryz.prog w = .ok (some (96, a, 153)) w := by kernel_rfl
theorem Tryz.directS (w : World) : (Rtype.directlyAssignable 96 96).run Tryz.prog w = .ok true w := by kernel_rfl
end Go.Proofs.YtjbkgmbakjnlhaaGreatDoor
namespace Go.Proofs.YtjbkgmbakjnlhaaGreatDoor
set_option maxRecDepth 100000
open Go.RowKit Go.Extern.Stop Go.Stop Go.Extern
theorem run_loadVar_agg1 {g : Nat} {v : Value} {W : World} (hb : W.cell? ⟨g, 0, none⟩ = some v) : (loadVar 96 ⟨g, 0, none⟩).run Tryz.prog W = .ok (.agg #[v]) W := by
 go_simp
theorem run_storeVar_agg1 {g : Nat} {c : Int} {old : Value} {W : World} (ht : W.cell? ⟨g, 0, none⟩ = some old) (hf : W.frozen? ⟨g, 0, none⟩ = false) : (storeVar 96 ⟨g, 0, none⟩ (.agg #[.int .i64 c])).run Tryz.prog W = .ok () (W.setCell ⟨g, 0, none⟩ (.int .i64 c)) := by
 go_simp
theorem rls (v x : Value) : ∃ (z1 : Sem Value) (z2 : TypeId → Addr → Nat → TypeId → Addr → Sem Value) (k : TypeId → Addr → TypeId → Value → Sem Value), ReflectliteValue.set #[v, x] = ReflectliteValue.parts v >>= fun p => ReflectliteValue.parts x >>= fun q =>
  match (p, q) with
  | (some (dst, a, fl), some (src, b, _)) => if (fl / ReflectliteValue.flagAddr % 2 == 0) = true then z2 dst a fl src b else loadVar src b >>= fun val => Rtype.directlyAssignable dst src >>= fun d => if d = true then storeVar dst a val >>= fun _ => pure (.tuple #[]) else k dst a src val
  | _ => z1 := ⟨_, _, _, rfl⟩
theorem Tryz.setS (tg bg : Nat) (c : Int) (old : Value) (W : World) (hb : W.cell? ⟨bg, 0, none⟩ = some (.int .i64 c)) (ht : W.cell? ⟨tg, 0, none⟩ = some old) (hf : W.frozen? ⟨tg, 0, none⟩ = false) :
  (ReflectliteValue.set #[.agg #[.pointer (some ⟨1, 96, none⟩), .pointer (some ⟨tg, 0, none⟩), .int .u64 409], .agg #[.pointer (some ⟨1, 96, none⟩), .pointer (some ⟨bg, 0, none⟩), .int .u64 153]]).run Tryz.prog W
   = .ok (.tuple #[]) (W.setCell ⟨tg, 0, none⟩ (.int .i64 c)) := by
 obtain ⟨z1, z2, k, e⟩ := rls (.agg #[.pointer (some ⟨1, 96, none⟩), .pointer (some ⟨tg, 0, none⟩), .int .u64 409]) (.agg #[.pointer (some ⟨1, 96, none⟩), .pointer (some ⟨bg, 0, none⟩), .int .u64 153])
 rw [e]
 clear e
 simp only [Sem.run_bind, Tryz.partsSa, Tryz.partsS, Result.andThen]
 rw [if_neg (by decide)]
 simp only [Sem.run_bind, run_loadVar_agg1 hb, Tryz.directS, Result.andThen, if_true, run_storeVar_agg1 ht hf]
 rfl
set_option maxHeartbeats 4000000 in
theorem as_hit (c : Int) (tg : Nat) (old : Value) (w : World) (hg : w.cell? ⟨0, 0, none⟩ = some (.iface 166 (.agg #[.pointer (some ⟨1, 56, none⟩)]))) (ht0 : w.cell? ⟨tg, 0, none⟩ = some old) (hf0 : w.frozen? ⟨tg, 0, none⟩ = false) :
  Calls Tryz.prog 63 #[.iface 96 (.agg #[.int .i64 c]), .iface 110 (.pointer (some ⟨tg, 0, none⟩))] w fun ev w' => ev = .returned (.bool true) ∧ w' = ((((w.alloc (.cells #[.pointer (some ⟨tg, 0, none⟩)] 110)).alloc (.cells #[.pointer (some ⟨1, 110, none⟩), .pointer (some ⟨w.heap.size, 0, none⟩), .int .u64 150] 132)).alloc (.cells #[.pointer (some ⟨1, 110, none⟩), .pointer (some ⟨w.heap.size, 0, none⟩), .int .u64 150] 132)).alloc (.cells #[.int .i64 c] 96)).setCell ⟨tg, 0, none⟩ (.int .i64 c) := by
 have h76 := @run_callFunc_extern Tryz.prog 87 _ (fun args => ReflectliteValue.unpack (args.getD 0 (.tuple #[]))) Tryz.func87 (by kernel_rfl) (by kernel_rfl) (by kernel_rfl) (by kernel_rfl)
 have h77 := @run_callFunc_extern Tryz.prog 88 _ (ReflectliteValue.methodAny (ReflectliteValue.valueError "reflectlite.Value.Type" 0) (fun t _ _ _ => ReflectliteType.toType t)) Tryz.func88 (by kernel_rfl) (by kernel_rfl) (by kernel_rfl) (by kernel_rfl)
 have h78 := @run_callFunc_extern Tryz.prog 89 _ (ReflectliteValue.method (ReflectliteValue.valueError "reflectlite.Value.IsNil" 0) ReflectliteValue.isNil) Tryz.func89 (by kernel_rfl) (by kernel_rfl) (by kernel_rfl) (by kernel_rfl)
 have hK := @run_callFunc_extern Tryz.prog 133 _ (ReflectliteType.abiMethod fun t => do pure (.int .u8 (← Rtype.kind t))) Tryz.func133 (by kernel_rfl) (by kernel_rfl) (by kernel_rfl) (by kernel_rfl)
 have hE := @run_callFunc_extern Tryz.prog 148 _ (ReflectliteType.method ReflectliteType.elem) Tryz.func148 (by kernel_rfl) (by kernel_rfl) (by kernel_rfl) (by kernel_rfl)
 have hI := @run_callFunc_extern Tryz.prog 149 _ (ReflectliteType.relation "Implements" ReflectliteType.implements_) Tryz.func149 (by kernel_rfl) (by kernel_rfl) (by kernel_rfl) (by kernel_rfl)
 have hT := @run_callFunc_extern Tryz.prog 104 _ ReflectliteType.typeOf Tryz.func104 (by kernel_rfl) (by kernel_rfl) (by kernel_rfl) (by kernel_rfl)
 have hA := @run_callFunc_extern Tryz.prog 146 _ (ReflectliteType.relation "AssignableTo" ReflectliteType.assignableTo) Tryz.func146 (by kernel_rfl) (by kernel_rfl) (by kernel_rfl) (by kernel_rfl)
 have hV := @run_callFunc_extern Tryz.prog 105 _ (ReflectliteValue.method (ReflectliteValue.valueError "reflectlite.Value.Elem" 0) ReflectliteValue.elem) Tryz.func105 (by kernel_rfl) (by kernel_rfl) (by kernel_rfl) (by kernel_rfl)
 have hS := @run_callFunc_extern Tryz.prog 106 _ ReflectliteValue.set Tryz.func106 (by kernel_rfl) (by kernel_rfl) (by kernel_rfl) (by kernel_rfl)
 have tO := Tryz.typeOfS
 have mA := Tryz.methodAssignableTo
 have aS := Tryz.assignableS
 have vS := Tryz.valueOfS
 have fP := Tryz.valueOfP
 have f7 := Tryz.typeP
 have mK := Tryz.methodKind
 have mE := Tryz.methodElem
 have mI := Tryz.methodImplements
 have kP := Tryz.kindP
 have kS := Tryz.kindS
 have eP := Tryz.elemP
 have iS := Tryz.implementsS
 have n8 := Tryz.isNilP ⟨w.heap.size, 0, none⟩ ⟨tg, 0, none⟩ ((w.alloc (.cells #[.pointer (some ⟨tg, 0, none⟩)] 110)).alloc (.cells #[.pointer (some ⟨1, 110, none⟩), .pointer (some ⟨w.heap.size, 0, none⟩), .int .u64 150] 132)) (by simp)
 have hlt : 0 < w.heap.size := by
  rcases Nat.eq_zero_or_pos w.heap.size with h0 | h
  ·simp [World.cell?, h0] at hg
  ·exact h
 have hg2 : ((w.alloc (.cells #[.pointer (some ⟨tg, 0, none⟩)] 110)).alloc (.cells #[.pointer (some ⟨1, 110, none⟩), .pointer (some ⟨w.heap.size, 0, none⟩), .int .u64 150] 132)).cell? ⟨0, 0, none⟩ = some (.iface 166 (.agg #[.pointer (some ⟨1, 56, none⟩)])) := by
  rw [World.cell?_alloc_lt _ _ ⟨0, 0, none⟩ (by simp), World.cell?_alloc_lt _ _ ⟨0, 0, none⟩ hlt]; exact hg
 have htl : tg < w.heap.size := World.block_lt_of_cell? w ⟨tg, 0, none⟩ ht0
 have el := Tryz.elemVP ⟨w.heap.size, 0, none⟩ ⟨tg, 0, none⟩ (((w.alloc (.cells #[.pointer (some ⟨tg, 0, none⟩)] 110)).alloc (.cells #[.pointer (some ⟨1, 110, none⟩), .pointer (some ⟨w.heap.size, 0, none⟩), .int .u64 150] 132)).alloc (.cells #[.pointer (some ⟨1, 110, none⟩), .pointer (some ⟨w.heap.size, 0, none⟩), .int .u64 150] 132)) (by rw [World.cell?_alloc_lt _ _ ⟨w.heap.size, 0, none⟩ (by simp; omega)]; simp)
 have st := Tryz.setS tg (w.heap.size + 1 + 1 + 1) c old ((((w.alloc (.cells #[.pointer (some ⟨tg, 0, none⟩)] 110)).alloc (.cells #[.pointer (some ⟨1, 110, none⟩), .pointer (some ⟨w.heap.size, 0, none⟩), .int .u64 150] 132)).alloc (.cells #[.pointer (some ⟨1, 110, none⟩), .pointer (some ⟨w.heap.size, 0, none⟩), .int .u64 150] 132)).alloc (.cells #[.int .i64 c] 96))
  (by rw [World.cell?_alloc_at _ _ _ _ (by simp)]; rfl)
  (by rw [World.cell?_alloc_lt _ _ ⟨tg, 0, none⟩ (by simp; omega), World.cell?_alloc_lt _ _ ⟨tg, 0, none⟩ (by simp; omega), World.cell?_alloc_lt _ _ ⟨tg, 0, none⟩ (by simp; omega), World.cell?_alloc_lt _ _ ⟨tg, 0, none⟩ htl]; exact ht0)
  (by rw [World.frozen?_alloc_old _ _ ⟨tg, 0, none⟩ (by simp; omega), World.frozen?_alloc_old _ _ ⟨tg, 0, none⟩ (by simp; omega), World.frozen?_alloc_old _ _ ⟨tg, 0, none⟩ (by simp; omega), World.frozen?_alloc_old _ _ ⟨tg, 0, none⟩ (Nat.ne_of_lt htl)]; exact hf0)
 go_enter Tryz.func63, Tryz.ntmps63
 go_wp2
 refine wp_loop_rounds 1 ?_
 rw [rounds_succ]
 go_wp2
 go_ret
 exact ⟨rfl, rfl⟩
def GoodErr (w : World) : Prop := w.cell? ⟨0, 0, none⟩ = some (.iface 166 (.agg #[.pointer (some ⟨1, 56, none⟩)]))
theorem GoodErr.lt {w : World} (h : GoodErr w) : 0 < w.heap.size := World.block_lt_of_cell? w ⟨0, 0, none⟩ h
theorem GoodErr.below {w w' : World} {B : Nat} (h : GoodErr w) (hb : Below B w w') (hB : 0 < B) : GoodErr w' := (hb.cell (p := ⟨0, 0, none⟩) hB).trans h
end Go.Proofs.YtjbkgmbakjnlhaaGreatDoor
namespace Go.Proofs.YtjbkgmbakjnlhaaGreatDoor
set_option maxRecDepth 100000
open Go.RowKit
def errVal (c : Int) : Value := if c = 0 then .nilIface else .iface 96 (.agg #[.int .i64 c])
theorem errVal_zero : errVal 0 = .nilIface := rfl
theorem errVal_ne {c : Int} (h : c ≠ 0) : errVal c = .iface 96 (.agg #[.int .i64 c]) := if_neg h
set_option maxHeartbeats 1600000 in
theorem codeOf_any (c : Int) (w : World) (hg : GoodErr w) : Calls Tryz.prog 27 #[errVal c] w fun e w' => e = .returned (.int .i64 c) ∧ Below w.heap.size w w' := by
 by_cases hc : c = 0
 ·subst hc
  rw [errVal_zero]
  clear hg
  go_enter Tryz.func27, Tryz.ntmps27
  go_wp2_with fail
  refine (as_nil _ _).mono ?_
  rintro e w1 ⟨rfl, rfl⟩
  go_wp2
  go_ret
  exact ⟨rfl, zBa _ _⟩
 ·rw [errVal_ne hc]
  have HG : Hid (GoodErr (w.alloc (.cells #[.int .i64 0] 96))) := hg.below (zBa _ _) hg.lt
  clear hg
  go_enter Tryz.func27, Tryz.ntmps27
  go_wp2_with fail
  refine (as_hit c w.heap.size (.int .i64 0) _ HG.out (by go_simp) (by go_simp)).mono ?_
  rintro e w1 ⟨rfl, rfl⟩
  clear HG
  go_wp2
  go_ret
  refine ⟨rfl, ?_⟩
  exact ((((((Below.refl _ _).alloc (Nat.le_refl _) _).alloc (by simp) _).alloc (by simp; omega) _).alloc (by simp; omega) _).alloc (by simp; omega) _)
end Go.Proofs.YtjbkgmbakjnlhaaGreatDoor
namespace Go.Proofs.YtjbkgmbakjnlhaaGreatDoor
set_option maxRecDepth 100000
open Go.RowKit
structure Ent where
 k : K4
 b : Nat
 s : SV
def k4cells (k : K4) : List Value := [.int .i64 k.1, .int .i64 k.2.1, .int .i64 k.2.2.1, .int .i64 k.2.2.2]
theorem k4cells_len (k : K4) : (k4cells k).length = 4 := rfl
def SV.box (s : SV) : Obj := .cells (scells (.slice s.a s.xs.length s.c) s.since s.bad) 39 (0, 0)
structure OpenB (w : World) (lo ob mb : Nat) (ov : Value) (now : Int) (es : List Ent) : Prop where
 box : w.heap[ob]? = some (.cells #[.int .i64 now, ov, .map (some mb)] 100 (0, 0))
 order : w.ownsRow lo 103 4 ov es.length (es.flatMap fun e => k4cells e.k)
 map_ : MapIs w mb (es.map fun e => (e.k, e.b))
 keys : (es.map Ent.k).Nodup
 slot : ∀ e ∈ es, w.heap[e.b]? = some e.s.box
 sbs : (es.map Ent.b).Nodup
 forest : Forest w lo (es.map Ent.s)
 lob : lo ≤ ob
 lmb : lo ≤ mb
 lsb : ∀ e ∈ es, lo ≤ e.b
theorem flatK_at : ∀ (ps : List Ent) (i j : Nat) (y : Ent), ps[i]? = some y → j < 4 → (ps.flatMap fun e => k4cells e.k)[i * 4 + j]? = (k4cells y.k)[j]?
 | [], i, j, y, hi, _ => by simp at hi
 | x :: r, 0, j, y, hi, hj => by
  simp at hi
  subst hi
  rw [List.flatMap_cons, Nat.zero_mul, Nat.zero_add, List.getElem?_append_left (by rw [k4cells_len]; exact hj)]
 | x :: r, i + 1, j, y, hi, hj => by
  rw [List.flatMap_cons, List.getElem?_append_right (by rw [k4cells_len]; omega), k4cells_len, show (i + 1) * 4 + j - 4 = i * 4 + j by omega]
  exact flatK_at r i j y (by simpa using hi) hj
theorem k_one (k : K4) : ∀ u ∈ k4cells k, u.oneCell' = true := by
 intro u hu
 simp [k4cells] at hu
 rcases hu with rfl | rfl | rfl | rfl <;> rfl
theorem OpenB.kept {w w' : World} {lo ob mb : Nat} {ov : Value} {now : Int} {es : List Ent} (h : OpenB w lo ob mb ov now es)
  (h1 : w'.heap[ob]? = w.heap[ob]?) (h2 : w'.heap[mb]? = w.heap[mb]?) (h3 : ∀ k, ov.ownBlock = some k → w'.heap[k]? = w.heap[k]?) (h4 : ∀ e ∈ es, w'.heap[e.b]? = w.heap[e.b]?) (h5 : ∀ b ∈ (es.map Ent.s).flatMap SV.blks, w'.heap[b]? = w.heap[b]?) : OpenB w' lo ob mb ov now es :=
 ⟨h1.trans h.box, own_kept h.order h3, h.map_.kept h2, h.keys, fun e he => (h4 e he).trans (h.slot e he), h.sbs, h.forest.kept h5, h.lob, h.lmb, h.lsb⟩
theorem OpenB.below {w w' : World} {lo ob mb : Nat} {ov : Value} {now : Int} {es : List Ent} (h : OpenB w lo ob mb ov now es) (hb : Below w.heap.size w w') : OpenB w' lo ob mb ov now es :=
 h.kept (hb.block _ (lt_of_block h.box)) (hb.block _ h.map_.lt) (fun k hk => hb.block _ (own_lt h.order k hk).2) (fun e he => hb.block _ (lt_of_block (h.slot e he))) (fun b hb' => hb.block _ (h.forest.blk b hb').2.1)
theorem OpenB.order_at {w : World} {lo ob mb : Nat} {ov : Value} {now : Int} {es : List Ent} (h : OpenB w lo ob mb ov now es) : ∀ k, ov.ownBlock = some k → ∃ cur, w.heap[k]? = some (.cells cur 103 (0, 0)) := by
 intro k hk
 rcases h.order.2 with ⟨e, _⟩ | ⟨g, cap, cur, e, _, hh, _⟩
 ·rw [e] at hk; cases hk
 ·rw [e] at hk
  cases hk
  exact ⟨cur, hh⟩
end Go.Proofs.YtjbkgmbakjnlhaaGreatDoor
