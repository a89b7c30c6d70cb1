import Derived.Test.YtjbkgmbakjnlhaaGreatDoorPartAa
import Derived.ArgAppend
import Derived.ProofKit
import Derived.OpenShut
import Derived.Deep.Slices
import Derived.Deep.WholeRow
import Derived.Deep.RegionHeld3
import Derived.Laws.AppendOwnNone
namespace Go.Proofs.YtjbkgmbakjnlhaaGreatDoor
set_option maxRecDepth 100000
open Go.RowKit
end Go.Proofs.YtjbkgmbakjnlhaaGreatDoor
namespace Go.Proofs.YtjbkgmbakjnlhaaGreatDoor
set_option maxRecDepth 100000
open Go.ChangeShapes Go.WideShapes Go.ChangeAt Go.RowKit
end Go.Proofs.YtjbkgmbakjnlhaaGreatDoor
namespace Go.Proofs.YtjbkgmbakjnlhaaGreatDoor
set_option maxRecDepth 100000
open Go.RowKit
def headB (p : Pk) : Bool := inB p.src 0 65535 && inB p.dst 0 65535 && inB p.kind 1 7 && inB p.id 0 255 && inB p.hops 1 64
def offB (p : Pk) (len : Nat) : Bool := inB p.off 0 128 && (p.off % 4 == 0) && decide ((len : Int) ≤ 128 - p.off)
def moreB (p : Pk) (len : Nat) : Bool := !p.more || (!((len : Int) == 0) && ((len : Int) % 4 == 0))
def wholeB (p : Pk) : Bool := !p.whole || ((p.off == 0) && !p.more)
def okB (p : Pk) (len : Nat) : Bool := headB p && offB p len && moreB p len && wholeB p
def offS (p : Pk) (len : Nat) : Bool := inB p.off 0 128 && (p.off.tmod 4 == 0) && decide ((len : Int) ≤ wrap64 (128 - p.off))
def okS (p : Pk) (len : Nat) : Bool := headB p && offS p len && moreB p len && wholeB p
theorem offS_eq (p : Pk) (len : Nat) : offS p len = offB p len := by
 unfold offS offB
 by_cases h : inB p.off 0 128 = true
 ·have hb : 0 ≤ p.off ∧ p.off ≤ 128 := by simpa [inB] using h
  have e1 : p.off.tmod 4 = p.off % 4 := Int.tmod_eq_emod_of_nonneg hb.1
  have e2 : wrap64 (128 - p.off) = 128 - p.off := by unfold wrap64; omega
  rw [e1, e2]
 ·have h' : inB p.off 0 128 = false := by simpa using h
  simp [h']
theorem okS_eq (p : Pk) (len : Nat) : okS p len = okB p len := by
 unfold okS okB
 rw [offS_eq]
set_option maxHeartbeats 1600000 in
theorem specOk_any (p : Pk) (a : Option Addr) (len cap : Nat) (w : World) (_hl : len ≤ 1048576) :
  Calls Tryz.prog 21 #[p.val (.slice a len cap)] w fun e w' => e = .returned (.bool (okB p len)) ∧ Below w.heap.size w w' := by
 unfold Pk.val
 rw [← okS_eq]
 go_enter Tryz.func21, Tryz.ntmps21
 go_wp2_with (go_at_call 56; refine (l1In_any _ _ _ _).mono ?_; rintro e w' ⟨rfl, rfl⟩)
 all_goals
  go_ret
  refine ⟨ret_bool ?_, zBa _ _⟩
  first | (simp_all [okS, headB, offS, moreB, wholeB]; done) | (simp_all [okS, headB, offS, moreB, wholeB]; intros; omega)
end Go.Proofs.YtjbkgmbakjnlhaaGreatDoor
namespace Go.Proofs.YtjbkgmbakjnlhaaGreatDoor
set_option maxRecDepth 100000
abbrev PB := Pk × List Int
def endOf (x : PB) : Int := x.1.off + (x.2.length : Int)
def hasB (x : PB) (j : Int) : Bool := decide (x.1.off ≤ j) && decide (j < endOf x)
def byteAt (x : PB) (j : Int) : Int := x.2.getD (j - x.1.off).toNat 0
def alikeB (x y : PB) : Bool := okB x.1 x.2.length && okB y.1 y.2.length && (x.1.src == y.1.src) && (x.1.dst == y.1.dst) && (x.1.kind == y.1.kind) && (x.1.id == y.1.id)
def againstB (x y : PB) : Bool :=
 (List.range x.2.length).any (fun t => hasB y (x.1.off + t) && (byteAt x (x.1.off + t) != byteAt y (x.1.off + t))) ||
 (!x.1.more && (decide (endOf x < endOf y) || (!y.1.more && (endOf y != endOf x))))
def alikeL : List PB → Bool
 | [] => false
 | x :: r => decide (r.length + 1 ≤ 40) && (x :: r).all (alikeB x)
def disagreeL (L : List PB) : Bool := L.any fun x => L.any fun y => againstB x y
def endL (L : List PB) : Option Int := (L.find? fun x => !x.1.more).map endOf
def bytesL (L : List PB) : Nat → Option (List Int)
 | 0 => some []
 | n + 1 => match bytesL L n, L.find? (fun x => hasB x n) with
  | some bs, some x => some (bs ++ [byteAt x n])
  | _, _ => none
def headL : List PB → Pk
 | [] => zeroPk
 | x :: r => ⟨x.1.src, x.1.dst, x.1.kind, x.1.id, (x :: r).foldl (fun h y => if y.1.hops < h then y.1.hops else h) x.1.hops, (x :: r).any (fun y => y.1.whole), 0, false⟩
def joinL (L : List PB) : Int × PB :=
 if alikeL L = true then
  if disagreeL L = true then (2, (zeroPk, []))
  else match endL L with
   | none => (3, (zeroPk, []))
   | some e => match bytesL L e.toNat with
    | none => (3, (zeroPk, []))
    | some bs => (0, (headL L, bs))
 else (1, (zeroPk, []))
end Go.Proofs.YtjbkgmbakjnlhaaGreatDoor
namespace Go.Proofs.YtjbkgmbakjnlhaaGreatDoor
set_option maxRecDepth 100000
open Go.RowKit
structure RV where
 p : Pk
 a : Option Addr
 c : Nat
 zs : List Int
def RV.key (x : RV) : PB := (x.p, x.zs)
structure RElem (w : World) (g k : Nat) (y : RV) : Prop where
 e0 : w.cell? ⟨g, k * 9, none⟩ = some (.int .i64 y.p.src)
 e1 : w.cell? ⟨g, k * 9 + 1, none⟩ = some (.int .i64 y.p.dst)
 e2 : w.cell? ⟨g, k * 9 + 2, none⟩ = some (.int .i64 y.p.kind)
 e3 : w.cell? ⟨g, k * 9 + 3, none⟩ = some (.int .i64 y.p.id)
 e4 : w.cell? ⟨g, k * 9 + 4, none⟩ = some (.int .i64 y.p.hops)
 e5 : w.cell? ⟨g, k * 9 + 5, none⟩ = some (.bool y.p.whole)
 e6 : w.cell? ⟨g, k * 9 + 6, none⟩ = some (.int .i64 y.p.off)
 e7 : w.cell? ⟨g, k * 9 + 7, none⟩ = some (.bool y.p.more)
 e8 : w.cell? ⟨g, k * 9 + 8, none⟩ = some (.slice y.a y.zs.length y.c)
theorem RElem.upto {w w' : World} {B g k : Nat} {y : RV} (h : RElem w g k y) (hb : Below B w w') (hB : g < B) : RElem w' g k y :=
 have e : ∀ o, w'.cell? ⟨g, o, none⟩ = w.cell? ⟨g, o, none⟩ := fun o => hb.cell (p := ⟨g, o, none⟩) hB
 ⟨(e _).trans h.e0, (e _).trans h.e1, (e _).trans h.e2, (e _).trans h.e3, (e _).trans h.e4, (e _).trans h.e5, (e _).trans h.e6, (e _).trans h.e7, (e _).trans h.e8⟩
structure RHead (w : World) (g : Nat) (y : RV) : Prop where
 e0 : w.cell? ⟨g, 0, none⟩ = some (.int .i64 y.p.src)
 e1 : w.cell? ⟨g, 1, none⟩ = some (.int .i64 y.p.dst)
 e2 : w.cell? ⟨g, 2, none⟩ = some (.int .i64 y.p.kind)
 e3 : w.cell? ⟨g, 3, none⟩ = some (.int .i64 y.p.id)
 e4 : w.cell? ⟨g, 4, none⟩ = some (.int .i64 y.p.hops)
 e5 : w.cell? ⟨g, 5, none⟩ = some (.bool y.p.whole)
 e6 : w.cell? ⟨g, 6, none⟩ = some (.int .i64 y.p.off)
 e7 : w.cell? ⟨g, 7, none⟩ = some (.bool y.p.more)
 e8 : w.cell? ⟨g, 8, none⟩ = some (.slice y.a y.zs.length y.c)
theorem RElem.head {w : World} {g : Nat} {y : RV} (h : RElem w g 0 y) : RHead w g y := by
 obtain ⟨a, b, c, d, e, f, i, j, k⟩ := h
 simp only [Nat.zero_mul, Nat.zero_add] at a b c d e f i j k
 exact ⟨a, b, c, d, e, f, i, j, k⟩
structure ROk (w : World) (x : RV) : Prop where
 rd : RdB w x.a x.zs.length x.zs
 len : x.zs.length ≤ 1048576
 cap : x.zs.length ≤ x.c
 capM : x.c ≤ 9223372036854775807
 byte : ∀ z ∈ x.zs, 0 ≤ z ∧ z ≤ 255
theorem ROk.below {w w' : World} {x : RV} (h : ROk w x) (hb : Below w.heap.size w w') : ROk w' x := ⟨h.rd.below hb, h.len, h.cap, h.capM, h.byte⟩
structure RL (w : World) (g : Nat) (xs : List RV) : Prop where
 lt : g < w.heap.size
 elem : ∀ k x, xs[k]? = some x → RElem w g k x
 each : ∀ x ∈ xs, ROk w x
theorem RL.below {w w' : World} {g : Nat} {xs : List RV} (h : RL w g xs) (hb : Below w.heap.size w w') : RL w' g xs :=
 ⟨Nat.lt_of_lt_of_le h.lt hb.size, fun k x hx => (h.elem k x hx).upto hb h.lt, fun x hx => (h.each x hx).below hb⟩
theorem get_of_lt {α : Type} {xs : List α} {k : Nat} (h : k < xs.length) : ∃ x, xs[k]? = some x := ⟨_, List.getElem?_eq_getElem h⟩
theorem map_get {xs : List RV} {k : Nat} {x : RV} (h : xs[k]? = some x) : (xs.map RV.key)[k]? = some x.key := by
 rw [List.getElem?_map, h]; rfl
end Go.Proofs.YtjbkgmbakjnlhaaGreatDoor
namespace Go.Proofs.YtjbkgmbakjnlhaaGreatDoor
set_option maxRecDepth 100000
open Go.ChangeShapes Go.WideShapes Go.ChangeAt Go.RowKit
end Go.Proofs.YtjbkgmbakjnlhaaGreatDoor
namespace Go.Proofs.YtjbkgmbakjnlhaaGreatDoor
set_option maxRecDepth 100000
open Go.ChangeShapes Go.WideShapes Go.ChangeAt Go.RowKit
structure SV where
 a : Option Addr
 c : Nat
 xs : List RV
 since : Int
 bad : Bool
end Go.Proofs.YtjbkgmbakjnlhaaGreatDoor
namespace Go.Proofs.YtjbkgmbakjnlhaaGreatDoor
set_option maxRecDepth 100000
open Go.RowKit
end Go.Proofs.YtjbkgmbakjnlhaaGreatDoor
namespace Go.Proofs.YtjbkgmbakjnlhaaGreatDoor
set_option maxRecDepth 100000
open Go.RowKit
end Go.Proofs.YtjbkgmbakjnlhaaGreatDoor
namespace Go.Proofs.YtjbkgmbakjnlhaaGreatDoor
set_option maxRecDepth 100000
open Go.RowKit
theorem set_at {w : World} {g o : Nat} {cur : Array Value} {t : TypeId} {v : Value} (h : w.heap[g]? = some (.cells cur t (0, 0))) : (w.setCell ⟨g, o, none⟩ v).heap[g]? = some (.cells (cur.setIfInBounds o v) t (0, 0)) := by
 rw [setCell_eq_setRow w g o _ _ _ _ h, setRow_heap _ _ _ _ _ _ h]
def put9 (cur : Array Value) (o : Nat) (x0 x1 x2 x3 x4 x5 x6 x7 x8 : Value) : Array Value := ((((((((cur.setIfInBounds o x0).setIfInBounds (o + 1) x1).setIfInBounds (o + 2) x2).setIfInBounds (o + 3) x3).setIfInBounds (o + 4) x4).setIfInBounds (o + 5) x5).setIfInBounds (o + 6) x6).setIfInBounds (o + 7) x7).setIfInBounds (o + 8) x8
theorem put9_size (cur : Array Value) (o : Nat) (x0 x1 x2 x3 x4 x5 x6 x7 x8 : Value) : (put9 cur o x0 x1 x2 x3 x4 x5 x6 x7 x8).size = cur.size := by simp [put9]
theorem put9_far {cur : Array Value} {o q : Nat} (x0 x1 x2 x3 x4 x5 x6 x7 x8 : Value) (h : q < o ∨ o + 9 ≤ q) : (put9 cur o x0 x1 x2 x3 x4 x5 x6 x7 x8)[q]? = cur[q]? := by
 unfold put9
 simp only [Array.getElem?_setIfInBounds]
 repeat rw [if_neg (by omega)]
theorem put9_at {cur : Array Value} {o j : Nat} (x0 x1 x2 x3 x4 x5 x6 x7 x8 : Value) (hs : o + 9 ≤ cur.size) (hj : j < 9) : (put9 cur o x0 x1 x2 x3 x4 x5 x6 x7 x8)[o + j]? = #[x0, x1, x2, x3, x4, x5, x6, x7, x8][j]? := by
 unfold put9
 simp only [Array.getElem?_setIfInBounds, Array.size_setIfInBounds]
 rcases (show j = 0 ∨ j = 1 ∨ j = 2 ∨ j = 3 ∨ j = 4 ∨ j = 5 ∨ j = 6 ∨ j = 7 ∨ j = 8 by omega) with rfl | rfl | rfl | rfl | rfl | rfl | rfl | rfl | rfl
 all_goals
  simp
  try omega
theorem heap_put9 {w : World} {g o : Nat} {cur : Array Value} {t : TypeId} (h : w.heap[g]? = some (.cells cur t (0, 0))) (x0 x1 x2 x3 x4 x5 x6 x7 x8 : Value) :
  (((((((((w.setCell ⟨g, o, none⟩ x0).setCell ⟨g, o + 1, none⟩ x1).setCell ⟨g, o + 2, none⟩ x2).setCell ⟨g, o + 3, none⟩ x3).setCell ⟨g, o + 4, none⟩ x4).setCell ⟨g, o + 5, none⟩ x5).setCell ⟨g, o + 6, none⟩ x6).setCell ⟨g, o + 7, none⟩ x7).setCell ⟨g, o + 8, none⟩ x8).heap[g]? = some (.cells (put9 cur o x0 x1 x2 x3 x4 x5 x6 x7 x8) t (0, 0)) :=
 set_at (set_at (set_at (set_at (set_at (set_at (set_at (set_at (set_at h))))))))
theorem heap_far9 (w : World) (g o k : Nat) (h : k ≠ g) (x0 x1 x2 x3 x4 x5 x6 x7 x8 : Value) :
  (((((((((w.setCell ⟨g, o, none⟩ x0).setCell ⟨g, o + 1, none⟩ x1).setCell ⟨g, o + 2, none⟩ x2).setCell ⟨g, o + 3, none⟩ x3).setCell ⟨g, o + 4, none⟩ x4).setCell ⟨g, o + 5, none⟩ x5).setCell ⟨g, o + 6, none⟩ x6).setCell ⟨g, o + 7, none⟩ x7).setCell ⟨g, o + 8, none⟩ x8).heap[k]? = w.heap[k]? :=
 ((zHs h).trans ((zHs h).trans ((zHs h).trans ((zHs h).trans ((zHs h).trans ((zHs h).trans ((zHs h).trans ((zHs h).trans (zHs h)))))))))
theorem below_far9 {B : Nat} {a w : World} {g o : Nat} (h : Below B a w) (hb : B ≤ g) (x0 x1 x2 x3 x4 x5 x6 x7 x8 : Value) :
  Below B a (((((((((w.setCell ⟨g, o, none⟩ x0).setCell ⟨g, o + 1, none⟩ x1).setCell ⟨g, o + 2, none⟩ x2).setCell ⟨g, o + 3, none⟩ x3).setCell ⟨g, o + 4, none⟩ x4).setCell ⟨g, o + 5, none⟩ x5).setCell ⟨g, o + 6, none⟩ x6).setCell ⟨g, o + 7, none⟩ x7).setCell ⟨g, o + 8, none⟩ x8) :=
 (Below.setCell (Below.setCell (Below.setCell (Below.setCell (Below.setCell (Below.setCell (Below.setCell (Below.setCell (Below.setCell h hb _) hb _) hb _) hb _) hb _) hb _) hb _) hb _) hb _)
theorem Tryz.info9 : (Tryz.prog.info? 29).map (fun i => (i.zero, i.size, i.bytes)) = some (some (.agg #[.int .i64 0, .int .i64 0, .int .i64 0, .int .i64 0, .int .i64 0, .bool false, .int .i64 0, .bool false, .slice none 0 0]), 9, 88) := by kernel_rfl
theorem cells_there {cur : Array Value} {o : Nat} (h : o < cur.size) : ∃ v, cur[o]? = some v := ⟨_, Array.getElem?_eq_getElem h⟩
end Go.Proofs.YtjbkgmbakjnlhaaGreatDoor
namespace Go.Proofs.YtjbkgmbakjnlhaaGreatDoor
set_option maxRecDepth 100000
open Go.RowKit
def SV.key (s : SV) : List PB × Int × Bool := (s.xs.map RV.key, s.since, s.bad)
def scells (v : Value) (since : Int) (bad : Bool) : Array Value := #[v, .int .i64 since, .bool bad]
theorem heap_far3 (w : World) (g o k : Nat) (h : k ≠ g) (x0 x1 x2 : Value) : (((w.setCell ⟨g, o, none⟩ x0).setCell ⟨g, o + 1, none⟩ x1).setCell ⟨g, o + 2, none⟩ x2).heap[k]? = w.heap[k]? :=
 ((zHs h).trans ((zHs h).trans (zHs h)))
theorem below_far3 {B : Nat} {a w : World} {g o : Nat} (h : Below B a w) (hb : B ≤ g) (x0 x1 x2 : Value) : Below B a (((w.setCell ⟨g, o, none⟩ x0).setCell ⟨g, o + 1, none⟩ x1).setCell ⟨g, o + 2, none⟩ x2) :=
 (Below.setCell (Below.setCell (Below.setCell h hb _) hb _) hb _)
def put3 (cur : Array Value) (o : Nat) (x0 x1 x2 : Value) : Array Value := ((cur.setIfInBounds o x0).setIfInBounds (o + 1) x1).setIfInBounds (o + 2) x2
theorem put3_size (cur : Array Value) (o : Nat) (x0 x1 x2 : Value) : (put3 cur o x0 x1 x2).size = cur.size := by simp [put3]
theorem put3_far {cur : Array Value} {o q : Nat} (x0 x1 x2 : Value) (h : q < o ∨ o + 3 ≤ q) : (put3 cur o x0 x1 x2)[q]? = cur[q]? := by
 unfold put3
 simp only [Array.getElem?_setIfInBounds]
 repeat rw [if_neg (by omega)]
theorem put3_at {cur : Array Value} {o j : Nat} (x0 x1 x2 : Value) (hs : o + 3 ≤ cur.size) (hj : j < 3) : (put3 cur o x0 x1 x2)[o + j]? = #[x0, x1, x2][j]? := by
 unfold put3
 simp only [Array.getElem?_setIfInBounds, Array.size_setIfInBounds]
 rcases (show j = 0 ∨ j = 1 ∨ j = 2 by omega) with rfl | rfl | rfl
 all_goals
  simp
  try omega
theorem heap_put3 {w : World} {g o : Nat} {cur : Array Value} {t : TypeId} (h : w.heap[g]? = some (.cells cur t (0, 0))) (x0 x1 x2 : Value) :
  (((w.setCell ⟨g, o, none⟩ x0).setCell ⟨g, o + 1, none⟩ x1).setCell ⟨g, o + 2, none⟩ x2).heap[g]? = some (.cells (put3 cur o x0 x1 x2) t (0, 0)) :=
 set_at (set_at (set_at h))
theorem Tryz.infoSlot : (Tryz.prog.info? 39).map (fun i => (i.zero, i.size, i.bytes)) = some (some (.agg #[.slice none 0 0, .int .i64 0, .bool false]), 3, 40) := by kernel_rfl
end Go.Proofs.YtjbkgmbakjnlhaaGreatDoor
namespace Go.Proofs.YtjbkgmbakjnlhaaGreatDoor
set_option maxRecDepth 100000
open Go.RowKit
end Go.Proofs.YtjbkgmbakjnlhaaGreatDoor
namespace Go.Proofs.YtjbkgmbakjnlhaaGreatDoor
set_option maxRecDepth 100000
open Go.RowKit
structure SElem (w : World) (g k : Nat) (y : SV) : Prop where
 e0 : w.cell? ⟨g, k * 3, none⟩ = some (.slice y.a y.xs.length y.c)
 e1 : w.cell? ⟨g, k * 3 + 1, none⟩ = some (.int .i64 y.since)
 e2 : w.cell? ⟨g, k * 3 + 2, none⟩ = some (.bool y.bad)
theorem SElem.upto {w w' : World} {B g k : Nat} {y : SV} (h : SElem w g k y) (hb : Below B w w') (hB : g < B) : SElem w' g k y :=
 have e : ∀ o, w'.cell? ⟨g, o, none⟩ = w.cell? ⟨g, o, none⟩ := fun o => hb.cell (p := ⟨g, o, none⟩) hB
 ⟨(e _).trans h.e0, (e _).trans h.e1, (e _).trans h.e2⟩
structure SOk (w : World) (x : SV) : Prop where
 at_ : ∃ gL, x.a = some ⟨gL, 0, none⟩ ∧ RL w gL x.xs
 len : x.xs.length ≤ 1048576
 cap : x.xs.length ≤ x.c
 capM : x.c ≤ 9223372036854775807
theorem SOk.below {w w' : World} {x : SV} (h : SOk w x) (hb : Below w.heap.size w w') : SOk w' x := by
 obtain ⟨gL, h1, h2⟩ := h.at_
 exact ⟨⟨gL, h1, h2.below hb⟩, h.len, h.cap, h.capM⟩
structure SL (w : World) (g : Nat) (ss : List SV) : Prop where
 lt : g < w.heap.size
 elem : ∀ k x, ss[k]? = some x → SElem w g k x
 each : ∀ x ∈ ss, SOk w x
theorem SL.below {w w' : World} {g : Nat} {xs : List SV} (h : SL w g xs) (hb : Below w.heap.size w w') : SL w' g xs :=
 ⟨Nat.lt_of_lt_of_le h.lt hb.size, fun k x hx => (h.elem k x hx).upto hb h.lt, fun x hx => (h.each x hx).below hb⟩
end Go.Proofs.YtjbkgmbakjnlhaaGreatDoor
namespace Go.Proofs.YtjbkgmbakjnlhaaGreatDoor
set_option maxRecDepth 100000
open Go.RowKit
theorem add_none (b off j : Nat) : (Addr.mk b off none).add j = ⟨b, off + j, none⟩ := by
 unfold Addr.add
 split <;> simp_all
theorem cells_rdb {w : World} {ad : Addr} {len : Nat} {zs : List Int} (hr : RdB w (some ad) len zs) : ∀ j u, (zs.map (Value.int .u8))[j]? = some u → w.cell? (ad.add j) = some u := by
 intro j u hu
 obtain ⟨hz, h0 | ⟨b, off, ha, _, hc⟩⟩ := hr
 ·subst hz
  rw [List.length_eq_zero_iff.1 h0] at hu
  simp at hu
 ·cases ha
  have hj : j < zs.length := by
   rcases Nat.lt_or_ge j zs.length with h | h
   ·exact h
   ·rw [List.getElem?_eq_none (by simpa using h)] at hu; cases hu
  have := hc j (by omega)
  simp [List.getElem?_eq_getElem hj] at hu
  subst hu
  have h2 : w.cell? ⟨b, off + j, none⟩ = some (.int .u8 zs[j]) := by simpa [List.getD, List.getElem?_eq_getElem hj] using this
  rw [add_none]
  exact h2
theorem own_empty (w : World) (n base : Nat) (h : n = w.heap.size) (hb : base ≤ n) : (w.alloc (.cells #[] 5)).ownsRow base 5 1 (.slice (some ⟨n, 0, none⟩) 0 0) 0 [] :=
 ⟨rfl, Or.inr ⟨n, 0, #[], rfl, hb, heap_new _ _ _ h, Nat.le_refl _, by unfold maxLen; omega, rfl, rfl⟩⟩
theorem one_u8 (zs : List Int) : ∀ u ∈ zs.map (Value.int .u8), u.oneCell' = true := by
 intro u hu
 obtain ⟨x, _, rfl⟩ := List.mem_map.1 hu
 rfl
set_option maxHeartbeats 800000 in
theorem l1Copy_any (p : Pk) (ad : Addr) (len cap : Nat) (zs : List Int) (w : World) (hr : RdB w (some ad) len zs) (hl : len ≤ 1048576) :
  Calls Tryz.prog 33 #[p.val (.slice (some ad) len cap)] w fun e w' => ∃ g c, e = .returned (p.val (.slice (some ⟨g, 0, none⟩) len c)) ∧ w'.ownsRow w.heap.size 5 1 (.slice (some ⟨g, 0, none⟩) len c) len (zs.map (.int .u8)) ∧ Below w.heap.size w w' := by
 unfold Pk.val
 obtain ⟨i0, hi, hz0, hz1, hz2⟩ := info_parts Tryz.info5
 go_enter Tryz.func33, Tryz.ntmps33
 go_wp2_with (at_builtin; refine wpList_append_own _ rfl _ _ 22 rfl (w.heap.size + 2) 5 i0 (.int .u8 0) 1 1 Tryz.underlying22 hi hz0 hz1 hz2 rfl (by decide) (.slice (some ⟨w.heap.size + 2, 0, none⟩) 0 0) 0 [] rfl ?h1 ad len cap (zs.map (.int .u8)) rfl ?h2 ?h3 (one_u8 zs) ?h4 ?h5 ?h6 ?_)
 case h1 => exact own_empty _ _ _ (by simp) (by omega)
 case h2 => simp [hr.1]
 case h3 => exact cells_rdb (hr.below (Joins.below_alloc3 _ _ _ _))
 case h4 => unfold maxLen; omega
 case h5 => omega
 case h6 => simp
 intro v1 w1 hown hgrow hnil
 obtain ⟨g, c, rfl⟩ : ∃ g c, v1 = .slice (some ⟨g, 0, none⟩) len c := by
  rcases Joins.ownsRow_forms hown with h | h
  ·exact absurd h.1 hnil
  ·exact h
 have hb : Below (w.heap.size + 2) _ w1 := (Below.refl _ _).grown hgrow (by simp) (by intro k hk; simp [Value.ownBlock] at hk; omega)
 have hlt : w.heap.size + 2 < w1.heap.size := Nat.lt_of_lt_of_le (by simp) hb.size
 have hlt0 : w.heap.size < w1.heap.size := by omega
 have hlt1 : w.heap.size + 1 < w1.heap.size := by omega
 have hf := (bcell hb).2
 have X : Boxed w1 w.heap.size p (.slice (some ad) len cap) := (((Boxed.new w p (.slice (some ad) len cap) 29).below (zBa _ _)).below (zBa _ _)).upto hb (by omega)
 have Z : Boxed w1 (w.heap.size + 1) zeroPk (.slice none 0 0) := ((Boxed.newAt (w.alloc _) (w.heap.size + 1) zeroPk (.slice none 0 0) 29 (by simp)).below (zBa _ _)).upto hb (by omega)
 obtain ⟨_, c0, c1, c2, c3, c4, c5, c6, c7, c8⟩ := X
 obtain ⟨_, z0, z1, z2, z3, z4, z5, z6, z7, z8⟩ := Z
 have HB : Hid (Below w.heap.size w w1) := (Joins.below_alloc3 _ _ _ _).trans (hb.mono (by omega))
 have HO : Hid (w1.ownsRow (w.heap.size + 2) 5 1 (.slice (some ⟨g, 0, none⟩) len c) len (zs.map (.int .u8))) := hown
 clear hown hgrow hnil hb
 go_wp2
 refine bodyPost_ret (v := .agg #[.int .i64 p.src, .int .i64 p.dst, .int .i64 p.kind, .int .i64 p.id, .int .i64 p.hops, .bool p.whole, .int .i64 p.off, .bool p.more, .slice (some ⟨g, 0, none⟩) len c]) (by simp [results, Tryz.results33, go_sem, z0, z1, z2, z3, z4, z5, z6, z7, z8]) rfl ⟨g, c, rfl, ?_, ?_⟩
 ·exact Joins.ownsRow_le (own9 (ownsRow_setCell_below HO.out (by simp) _) (by omega) _ _ _ _ _ _ _ _ _) (by omega)
 ·exact below9 (Below.setCell HB.out (by simp) _) (by omega) _ _ _ _ _ _ _ _ _
set_option maxHeartbeats 800000 in
theorem clone_any (ad : Addr) (len cap : Nat) (zs : List Int) (w : World) (hr : RdB w (some ad) len zs) (hl : len ≤ 1048576) :
  Calls Tryz.prog 94 #[.slice (some ad) len cap] w fun e w' => ∃ g c, e = .returned (.slice (some ⟨g, 0, none⟩) len c) ∧ w'.ownsRow w.heap.size 5 1 (.slice (some ⟨g, 0, none⟩) len c) len (zs.map (.int .u8)) ∧ Below w.heap.size w w' := by
 obtain ⟨i0, hi, hz0, hz1, hz2⟩ := info_parts Tryz.info5
 have hq := fun (w : World) => Lib.run_eql_slice_nil (P := Tryz.prog) w 22 5 (some ad) len cap 0 0 Tryz.underlying22
 go_enter Tryz.func94, Tryz.ntmps94
 go_wp2_with (at_builtin; refine wpList_append_own _ rfl _ _ 22 rfl w.heap.size 5 i0 (.int .u8 0) 1 1 Tryz.underlying22 hi hz0 hz1 hz2 rfl (by decide) (.slice (some ⟨w.heap.size, 0, none⟩) 0 0) 0 [] rfl ?h1 ad len cap (zs.map (.int .u8)) rfl ?h2 ?h3 (one_u8 zs) ?h4 ?h5 ?h6 ?_)
 case h1 => exact own_empty _ _ _ (by simp) (by omega)
 case h2 => simp [hr.1]
 case h3 => exact cells_rdb (hr.below (zBa _ _))
 case h4 => unfold maxLen; omega
 case h5 => omega
 case h6 => simp
 intro v1 w1 hown hgrow hnil
 obtain ⟨g, c, rfl⟩ : ∃ g c, v1 = .slice (some ⟨g, 0, none⟩) len c := by
  rcases Joins.ownsRow_forms hown with h | h
  ·exact absurd h.1 hnil
  ·exact h
 have hb : Below w.heap.size _ w1 := (Below.refl _ _).grown hgrow (by simp) (by intro k hk; simp [Value.ownBlock] at hk; omega)
 have HB : Hid (Below w.heap.size w w1) := (zBa _ _).trans hb
 have HO : Hid (w1.ownsRow w.heap.size 5 1 (.slice (some ⟨g, 0, none⟩) len c) len (zs.map (.int .u8))) := by simpa [Hid] using hown
 clear hown hgrow hnil hb
 go_wp2
 go_ret
 exact ⟨g, c, rfl, HO.out, HB.out⟩
end Go.Proofs.YtjbkgmbakjnlhaaGreatDoor
namespace Go.Proofs.YtjbkgmbakjnlhaaGreatDoor
set_option maxRecDepth 100000
open Go.RowKit
def Pk.kval (p : Pk) (n : Int) : Value := .agg #[.int .i64 p.src, .int .i64 p.dst, .int .i64 p.kind, .int .i64 p.id, .int .i64 p.hops, .bool p.whole, .int .i64 p.off, .bool p.more, .int .i64 n]
set_option maxHeartbeats 400000 in
theorem keyed_any (p : Pk) (a : Option Addr) (len cap : Nat) (w : World) :
  Calls Tryz.prog 61 #[p.val (.slice a len cap)] w fun e w' => e = .returned (p.kval len) ∧ Below w.heap.size w w' := by
 unfold Pk.val Pk.kval
 go_enter Tryz.func61, Tryz.ntmps61
 go_wp2
 exact bodyPost_ret (v := p.kval len) (by simp [results, Tryz.results61, go_sem, Pk.kval]) rfl ⟨rfl, Joins.below_alloc2 _ _ _⟩
set_option maxHeartbeats 400000 in
theorem packetChecks_any (w : World) :
  Calls Tryz.prog 93 #[] w fun e w' => e = .returned (.slice (some ⟨w.heap.size, 0, none⟩) 6 6) ∧
   w' = w.alloc (.cells #[.func (.func 108) #[] #[], .func (.func 109) #[] #[], .func (.func 110) #[] #[], .func (.func 111) #[] #[], .func (.func 112) #[] #[], .func (.func 113) #[] #[]] 148) := by
 go_enter Tryz.func93, Tryz.ntmps93
 go_wp2
 go_ret
 exact ⟨rfl, rfl⟩
set_option maxHeartbeats 400000 in
theorem hops_any (p : Pk) (n : Int) (w : World) :
  Calls Tryz.prog 109 #[p.kval n] w fun e w' => e = .returned (.bool (inB p.hops 1 64)) ∧ Below w.heap.size w w' := by
 unfold Pk.kval
 rw [← clamp_eq p.hops 1 64 (by omega)]
 go_enter Tryz.func109, Tryz.ntmps109
 go_wp2
 go_quiet ((go_at_call 37; exact Calls.quiet_of_same (clamp_any _ _ _ _)))
 go_wp2
 go_ret
 exact ⟨rfl, (zBa _ _).trans (Joins.below_draws _ _ _)⟩
set_option maxHeartbeats 400000 in
theorem begins_any (p : Pk) (n : Int) (w : World) :
  Calls Tryz.prog 110 #[p.kval n] w fun e w' => e = .returned (.bool (inB p.off 0 128 && (p.off.tmod 4 == 0))) ∧ Below w.heap.size w w' := by
 unfold Pk.kval
 rw [← clamp_eq p.off 0 128 (by omega)]
 cases h : (p.off == clampI p.off 0 128)
 all_goals
  go_enter Tryz.func110, Tryz.ntmps110
  go_wp2
  go_quiet ((go_at_call 37; exact Calls.quiet_of_same (clamp_any _ _ _ _)))
  go_wp2
  go_ret
  exact ⟨rfl, (zBa _ _).trans (Joins.below_draws _ _ _)⟩
set_option maxHeartbeats 400000 in
theorem ends_any (p : Pk) (n : Int) (w : World) (h0 : 0 ≤ n) (h1 : n ≤ 1048576) :
  Calls Tryz.prog 111 #[p.kval n] w fun e w' => e = .returned (.bool (decide (n ≤ 128) && decide (p.off ≤ 128 - n))) ∧ Below w.heap.size w w' := by
 unfold Pk.kval
 by_cases h : n ≤ 128
 all_goals
  go_enter Tryz.func111, Tryz.ntmps111
  go_wp2
  go_ret
  refine ⟨ret_bool ?_, zBa _ _⟩
  first | (simp [h]; done) | (simp; intros; omega)
set_option maxHeartbeats 400000 in
theorem leaves_any (p : Pk) (n : Nat) (w : World) (h1 : n ≤ 1048576) :
  Calls Tryz.prog 112 #[p.kval n] w fun e w' => e = .returned (.bool (!p.more || (decide ((0 : Int) < n) && ((n : Int) % 4 == 0)))) ∧ Below w.heap.size w w' := by
 unfold Pk.kval
 go_enter Tryz.func112, Tryz.ntmps112
 go_wp2
 all_goals
  go_ret
  refine ⟨ret_bool ?_, zBa _ _⟩
  first | (simp_all; done) | (simp_all; omega)
set_option maxHeartbeats 400000 in
theorem whole_any (p : Pk) (n : Int) (w : World) :
  Calls Tryz.prog 113 #[p.kval n] w fun e w' => e = .returned (.bool (!p.whole || ((p.off == 0) && !p.more))) ∧ Below w.heap.size w w' := by
 unfold Pk.kval
 go_enter Tryz.func113, Tryz.ntmps113
 go_wp2
 all_goals
  go_ret
  refine ⟨ret_bool ?_, zBa _ _⟩
  first | (simp_all; done) | (simp_all; omega)
set_option maxHeartbeats 1600000 in
theorem nearest_any (s d k i : Int) (w : World) :
  Calls Tryz.prog 117 #[.agg #[.int .i64 s, .int .i64 d, .int .i64 k, .int .i64 i]] w fun e w' => e = .returned (.agg #[.int .i64 (clampI s 0 65535), .int .i64 (clampI d 0 65535), .int .i64 (clampI k 1 7), .int .i64 (clampI i 0 255)]) ∧ Below w.heap.size w w' := by
 go_enter Tryz.func117, Tryz.ntmps117
 go_wp2
 go_region_held3 (fun w' => w'.cell? ⟨w.heap.size, 0, none⟩ = some (.int .i64 s) ∧ w'.cell? ⟨w.heap.size, 1, none⟩ = some (.int .i64 d) ∧ w'.cell? ⟨w.heap.size, 2, none⟩ = some (.int .i64 k) ∧ w'.cell? ⟨w.heap.size, 3, none⟩ = some (.int .i64 i)) (go_keep)
  (first | (go_at_call 37; refine (clamp_any _ _ _ _).mono ?_; rintro e w' ⟨rfl, rfl⟩))
 go_wp2
 exact bodyPost_ret (v := .agg #[.int .i64 (clampI s 0 65535), .int .i64 (clampI d 0 65535), .int .i64 (clampI k 1 7), .int .i64 (clampI i 0 255)]) (by simp [results, Tryz.results117, go_sem]) rfl ⟨rfl, (Joins.below_alloc2 _ _ _).drew⟩
theorem eqg51 (x y : Operand) (xs ys : Array Value) (w : World) : (eqGuard .eql 103 x y (.agg xs) (.agg ys)).run Tryz.prog w = .ok () w := run_eqGuard_agg w .eql 103 x y xs ys (by kernel_rfl)
theorem eql51 (s d k i s' d' k' i' : Int) (w : World) : (binOp .eql 103 (.agg #[.int .i64 s, .int .i64 d, .int .i64 k, .int .i64 i]) (.agg #[.int .i64 s', .int .i64 d', .int .i64 k', .int .i64 i'])).run Tryz.prog w =
  .ok (.bool ((s == s') && (d == d') && (k == k') && (i == i'))) w := by
 rw [run_eql_struct, show (10000 : Nat) = 9999 + 1 from rfl, run_equalIn_agg w 9999 103 _ _ (by kernel_rfl) (by kernel_rfl)]
 go_simp
 by_cases h1 : s = s' <;> by_cases h2 : d = d' <;> by_cases h3 : k = k' <;> by_cases h4 : i = i' <;> simp [h1, h2, h3, h4]
set_option maxHeartbeats 1600000 in
theorem key_any (p : Pk) (n : Int) (w : World) :
  Calls Tryz.prog 108 #[p.kval n] w fun e w' => e = .returned (.bool (inB p.src 0 65535 && inB p.dst 0 65535 && inB p.kind 1 7 && inB p.id 0 255)) ∧ Below w.heap.size w w' := by
 unfold Pk.kval
 rw [← clamp_eq p.src 0 65535 (by omega), ← clamp_eq p.dst 0 65535 (by omega), ← clamp_eq p.kind 1 7 (by omega), ← clamp_eq p.id 0 255 (by omega)]
 have hg := eqg51
 have he := eql51
 go_enter Tryz.func108, Tryz.ntmps108
 go_wp2
 go_region_held3 (fun w' => w.heap.size < w'.heap.size ∧ w'.cell? ⟨w.heap.size, 0, none⟩ = some (.int .i64 p.src) ∧ w'.cell? ⟨w.heap.size, 1, none⟩ = some (.int .i64 p.dst) ∧ w'.cell? ⟨w.heap.size, 2, none⟩ = some (.int .i64 p.kind) ∧ w'.cell? ⟨w.heap.size, 3, none⟩ = some (.int .i64 p.id)) (first | go_keep)
  (first | (go_at_call 117; refine (nearest_any _ _ _ _ _).mono ?_; rintro e w' ⟨rfl, hb⟩; have hsz : w.heap.size < w'.heap.size := Nat.lt_of_lt_of_le (by simp) hb.size; have hc : ∀ b o, b < w.heap.size + 1 → w'.cell? ⟨b, o, none⟩ = _ := fun b o h => hb.cell (p := ⟨b, o, none⟩) (by simpa using h)))
 go_wp2
 go_ret
 exact ⟨rfl, (zBa _ _).drew.trans (hb.mono (by simp))⟩
end Go.Proofs.YtjbkgmbakjnlhaaGreatDoor
