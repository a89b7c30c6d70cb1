/- Joining, as plain functions. -/
import Derived.Test.YtjbkgmbakjnlhaaPartAc
import Derived.Test.YtjbkgmbakjnlhaaPartAa
namespace Go.Proofs.Ytjbkgmbakjnlhaa

/-- a packet with its bytes -/
abbrev PB := Pk × List Int
def endOf (x : PB) : Int := x.1.off + (x.2.length : Int)
def hasB (x : PB) (j : Int) : Bool := decide (x.1.off ≤ j) && decide (j < endOf x)
def byteAt (x : PB) (j : Int) : Int := x.2.getD (j - x.1.off).toNat 0
def alikeB (x y : PB) : Bool := okB x.1 x.2.length && okB y.1 y.2.length && (x.1.src == y.1.src) && (x.1.dst == y.1.dst) && (x.1.kind == y.1.kind) && (x.1.id == y.1.id)
/-- what one says is against what another one says: a byte, or the end -/
def againstB (x y : PB) : Bool :=
  (List.range x.2.length).any (fun t => hasB y (x.1.off + t) && (byteAt x (x.1.off + t) != byteAt y (x.1.off + t))) ||
  (!x.1.more && (decide (endOf x < endOf y) || (!y.1.more && (endOf y != endOf x))))
def alikeL : List PB → Bool
  | [] => false
  | x :: r => decide (r.length + 1 ≤ 40) && (x :: r).all (alikeB x)
def disagreeL (L : List PB) : Bool := L.any fun x => L.any fun y => againstB x y
def endL (L : List PB) : Option Int := (L.find? fun x => !x.1.more).map endOf
/-- the bytes at all places ahead of the end -/
def bytesL (L : List PB) : Nat → Option (List Int)
  | 0 => some []
  | n + 1 => match bytesL L n, L.find? (fun x => hasB x n) with
    | some bs, some x => some (bs ++ [byteAt x n])
    | _, _ => none
/-- the packet without its bytes -/
def headL : List PB → Pk
  | [] => zeroPk
  | x :: r => ⟨x.1.src, x.1.dst, x.1.kind, x.1.id, (x :: r).foldl (fun h y => if y.1.hops < h then y.1.hops else h) x.1.hops, (x :: r).any (fun y => y.1.whole), 0, false⟩
/-- the code, and what is joined -/
def joinL (L : List PB) : Int × PB :=
  if alikeL L = true then
    if disagreeL L = true then (2, (zeroPk, []))
    else match endL L with
      | none => (3, (zeroPk, []))
      | some e => match bytesL L e.toNat with
        | none => (3, (zeroPk, []))
        | some bs => (0, (headL L, bs))
  else (1, (zeroPk, []))

end Go.Proofs.Ytjbkgmbakjnlhaa

/- Lists of packets that are read alone. -/
namespace Go.Proofs.Ytjbkgmbakjnlhaa
open Go.RowKit

/-- a packet in a list that is read: its fields, where its bytes lie, its bytes -/
structure RV where
  p : Pk
  a : Option Addr
  c : Nat
  zs : List Int
def RV.key (x : RV) : PB := (x.p, x.zs)
/-- a packet's cells at its place in a list -/
structure RElem (w : World) (g k : Nat) (y : RV) : Prop where
  e0 : w.cell? ⟨g, k * 9, none⟩ = some (.int .i64 y.p.src)
  e1 : w.cell? ⟨g, k * 9 + 1, none⟩ = some (.int .i64 y.p.dst)
  e2 : w.cell? ⟨g, k * 9 + 2, none⟩ = some (.int .i64 y.p.kind)
  e3 : w.cell? ⟨g, k * 9 + 3, none⟩ = some (.int .i64 y.p.id)
  e4 : w.cell? ⟨g, k * 9 + 4, none⟩ = some (.int .i64 y.p.hops)
  e5 : w.cell? ⟨g, k * 9 + 5, none⟩ = some (.bool y.p.whole)
  e6 : w.cell? ⟨g, k * 9 + 6, none⟩ = some (.int .i64 y.p.off)
  e7 : w.cell? ⟨g, k * 9 + 7, none⟩ = some (.bool y.p.more)
  e8 : w.cell? ⟨g, k * 9 + 8, none⟩ = some (.slice y.a y.zs.length y.c)
theorem RElem.upto {w w' : World} {B g k : Nat} {y : RV} (h : RElem w g k y) (hb : Below B w w') (hB : g < B) : RElem w' g k y :=
  have e : ∀ o, w'.cell? ⟨g, o, none⟩ = w.cell? ⟨g, o, none⟩ := fun o => hb.cell (p := ⟨g, o, none⟩) hB
  ⟨(e _).trans h.e0, (e _).trans h.e1, (e _).trans h.e2, (e _).trans h.e3, (e _).trans h.e4, (e _).trans h.e5, (e _).trans h.e6, (e _).trans h.e7, (e _).trans h.e8⟩
/-- the first packet's cells -/
structure RHead (w : World) (g : Nat) (y : RV) : Prop where
  e0 : w.cell? ⟨g, 0, none⟩ = some (.int .i64 y.p.src)
  e1 : w.cell? ⟨g, 1, none⟩ = some (.int .i64 y.p.dst)
  e2 : w.cell? ⟨g, 2, none⟩ = some (.int .i64 y.p.kind)
  e3 : w.cell? ⟨g, 3, none⟩ = some (.int .i64 y.p.id)
  e4 : w.cell? ⟨g, 4, none⟩ = some (.int .i64 y.p.hops)
  e5 : w.cell? ⟨g, 5, none⟩ = some (.bool y.p.whole)
  e6 : w.cell? ⟨g, 6, none⟩ = some (.int .i64 y.p.off)
  e7 : w.cell? ⟨g, 7, none⟩ = some (.bool y.p.more)
  e8 : w.cell? ⟨g, 8, none⟩ = some (.slice y.a y.zs.length y.c)
theorem RElem.head {w : World} {g : Nat} {y : RV} (h : RElem w g 0 y) : RHead w g y := by
  obtain ⟨a, b, c, d, e, f, i, j, k⟩ := h
  simp only [Nat.zero_mul, Nat.zero_add] at a b c d e f i j k
  exact ⟨a, b, c, d, e, f, i, j, k⟩
/-- a packet's bytes can be read -/
structure ROk (w : World) (x : RV) : Prop where
  rd : RdB w x.a x.zs.length x.zs
  len : x.zs.length ≤ 1048576
  cap : x.zs.length ≤ x.c
  capM : x.c ≤ 9223372036854775807
  byte : ∀ z ∈ x.zs, 0 ≤ z ∧ z ≤ 255
theorem ROk.below {w w' : World} {x : RV} (h : ROk w x) (hb : Below w.heap.size w w') : ROk w' x := ⟨h.rd.below hb, h.len, h.cap, h.capM, h.byte⟩
/-- a list of packets can be read -/
structure RL (w : World) (g : Nat) (xs : List RV) : Prop where
  lt : g < w.heap.size
  elem : ∀ k x, xs[k]? = some x → RElem w g k x
  each : ∀ x ∈ xs, ROk w x
theorem RL.below {w w' : World} {g : Nat} {xs : List RV} (h : RL w g xs) (hb : Below w.heap.size w w') : RL w' g xs :=
  ⟨Nat.lt_of_lt_of_le h.lt hb.size, fun k x hx => (h.elem k x hx).upto hb h.lt, fun x hx => (h.each x hx).below hb⟩
theorem get_of_lt {α : Type} {xs : List α} {k : Nat} (h : k < xs.length) : ∃ x, xs[k]? = some x := ⟨_, List.getElem?_eq_getElem h⟩
theorem map_get {xs : List RV} {k : Nat} {x : RV} (h : xs[k]? = some x) : (xs.map RV.key)[k]? = some x.key := by
  rw [List.getElem?_map, h]; rfl
end Go.Proofs.Ytjbkgmbakjnlhaa
