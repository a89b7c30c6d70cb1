/-
  DERIVED. GIVEN WITH THE SEED: THE CARDS: each row of YtjbkgmbakjnlhabGreatDoorRows.lean that lists a variable, with what it lists TIED to the program's text (the seventh form; the later family's looks); each row that meets fmt, with fmt's text TOLD by the authors' own Lean function (tested against real Go, not proved from fmt's source: count such statements apart). THE CARD IS WHAT COUNTS. Prove the row's statement (the work); the ties are given (YtjbkgmbakjnlhabGreatDoorTie.lean); close each card by the builder's one call (the guide's Derived/Test/ToyasCard.lean, 'card_holds'). Laid BY PROGRAM, IN A SANDBOX (cutbox-door.mjs). By AI agents, Wed Nov 11 2026. No macro, syntax, notation, axiom, sorry.
-/
import Derived.Test.YtjbkgmbakjnlhabGreatDoorRows
import GoSem.ClaimSeven
namespace Go.Proofs.YtjbkgmbakjnlhabGreatDoor
namespace Rows

/-- THE TIED CARD OF 'laws.FnExactFragTake'. -/
def fnExactFragTakeCard : Claim7 := { stood := { row := fnExactFragTakeRow, standIns := [], harness := (true, "b6beae66e10cb929e8b60781bab220c2021f58ec0b196426683486296b883031"), looks := true }, kinds := [], alts := [], laidByText := true, laidKinds := [.handle], laidTests := true, laidLooks := .later }
def FnExactFragTakeCardSaid : Prop := Claim7.holds Tryz.pinned (.plain (OpenSpec.ofChange fnExactFragTakeSpec)) fnExactFragTakeCard

/-- THE TIED CARD OF 'laws.FnExactFragTick'. -/
def fnExactFragTickCard : Claim7 := { stood := { row := fnExactFragTickRow, standIns := [], harness := (true, "b6beae66e10cb929e8b60781bab220c2021f58ec0b196426683486296b883031"), looks := true }, kinds := [], alts := [], laidByText := true, laidKinds := [.handle], laidTests := true, laidLooks := .later }
def FnExactFragTickCardSaid : Prop := Claim7.holds Tryz.pinned (.plain (OpenSpec.ofChange fnExactFragTickSpec)) fnExactFragTickCard

/-- THE SECOND FORM's CARD OF 'laws.FnExactFragTake'. -/
def fnExactFragTakeUptoCard : Claim7 := { stood := { row := fnExactFragTakeUptoRow, standIns := [], harness := (true, "b6beae66e10cb929e8b60781bab220c2021f58ec0b196426683486296b883031"), looks := true }, kinds := [], alts := [], laidByText := true, laidKinds := [.handle], laidTests := true, laidLooks := .later }
def FnExactFragTakeUptoCardSaid : Prop := Claim7.holds Tryz.pinned (.plain (OpenSpec.upto fnExactFragTakeSpec)) fnExactFragTakeUptoCard

/-- THE SECOND FORM's CARD OF 'laws.FnExactFragTick'. -/
def fnExactFragTickUptoCard : Claim7 := { stood := { row := fnExactFragTickUptoRow, standIns := [], harness := (true, "b6beae66e10cb929e8b60781bab220c2021f58ec0b196426683486296b883031"), looks := true }, kinds := [], alts := [], laidByText := true, laidKinds := [.handle], laidTests := true, laidLooks := .later }
def FnExactFragTickUptoCardSaid : Prop := Claim7.holds Tryz.pinned (.plain (OpenSpec.upto fnExactFragTickSpec)) fnExactFragTickUptoCard
end Rows
end Go.Proofs.YtjbkgmbakjnlhabGreatDoor
