/- Joining, as plain functions. -/
import Derived.Test.YtjbkgmbakjnlhaaOkS
import Derived.Test.YtjbkgmbakjnlhaaBox
namespace Go.Proofs.Ytjbkgmbakjnlhaa

/-- a packet with its bytes -/
abbrev PB := Pk × List Int
def endOf (x : PB) : Int := x.1.off + (x.2.length : Int)
def hasB (x : PB) (j : Int) : Bool := decide (x.1.off ≤ j) && decide (j < endOf x)
def byteAt (x : PB) (j : Int) : Int := x.2.getD (j - x.1.off).toNat 0
def alikeB (x y : PB) : Bool := okB x.1 x.2.length && okB y.1 y.2.length && (x.1.src == y.1.src) && (x.1.dst == y.1.dst) && (x.1.kind == y.1.kind) && (x.1.id == y.1.id)
/-- what one says is against what another one says: a byte, or the end -/
def againstB (x y : PB) : Bool :=
  (List.range x.2.length).any (fun t => hasB y (x.1.off + t) && (byteAt x (x.1.off + t) != byteAt y (x.1.off + t))) ||
  (!x.1.more && (decide (endOf x < endOf y) || (!y.1.more && (endOf y != endOf x))))
def alikeL : List PB → Bool
  | [] => false
  | x :: r => decide (r.length + 1 ≤ 40) && (x :: r).all (alikeB x)
def disagreeL (L : List PB) : Bool := L.any fun x => L.any fun y => againstB x y
def endL (L : List PB) : Option Int := (L.find? fun x => !x.1.more).map endOf
/-- the bytes at all places ahead of the end -/
def bytesL (L : List PB) : Nat → Option (List Int)
  | 0 => some []
  | n + 1 => match bytesL L n, L.find? (fun x => hasB x n) with
    | some bs, some x => some (bs ++ [byteAt x n])
    | _, _ => none
/-- the packet without its bytes -/
def headL : List PB → Pk
  | [] => zeroPk
  | x :: r => ⟨x.1.src, x.1.dst, x.1.kind, x.1.id, (x :: r).foldl (fun h y => if y.1.hops < h then y.1.hops else h) x.1.hops, (x :: r).any (fun y => y.1.whole), 0, false⟩
/-- the code, and what is joined -/
def joinL (L : List PB) : Int × PB :=
  if alikeL L = true then
    if disagreeL L = true then (2, (zeroPk, []))
    else match endL L with
      | none => (3, (zeroPk, []))
      | some e => match bytesL L e.toNat with
        | none => (3, (zeroPk, []))
        | some bs => (0, (headL L, bs))
  else (1, (zeroPk, []))

end Go.Proofs.Ytjbkgmbakjnlhaa
