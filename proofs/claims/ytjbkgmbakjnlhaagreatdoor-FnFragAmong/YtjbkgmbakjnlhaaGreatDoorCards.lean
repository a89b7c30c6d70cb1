/-
  DERIVED. GIVEN WITH THE SEED: THE CARDS: each row of YtjbkgmbakjnlhaaGreatDoorRows.lean that lists a variable, with what it lists TIED to the program's text (the seventh form; the later family's looks); each row that meets fmt, with fmt's text TOLD by the authors' own Lean function (tested against real Go, not proved from fmt's source: count such statements apart). THE CARD IS WHAT COUNTS. Prove the row's statement (the work); the ties are given (YtjbkgmbakjnlhaaGreatDoorTie.lean); close each card by the builder's one call (the guide's Derived/Test/ToyasCard.lean, 'card_holds'). Laid BY PROGRAM, IN A SANDBOX (cutbox-door.mjs). By AI agents, Wed Nov 11 2026. No macro, syntax, notation, axiom, sorry.
-/
import Derived.Test.YtjbkgmbakjnlhaaGreatDoorRows
import GoSem.ClaimSeven
namespace Go.Proofs.YtjbkgmbakjnlhaaGreatDoor
namespace Rows

/-- THE TIED CARD OF 'laws.FnFragBench'. -/
def fnFragBenchCard : Claim7 := { stood := { row := fnFragBenchRow, standIns := [], harness := (true, "72173f90bab67083c6a61cbdfab5a99347a3ab8d97692026010fb1f1382c9847"), looks := true }, kinds := [], alts := [], laidByText := true, laidKinds := [.handle], laidTests := true, laidLooks := .later }
def FnFragBenchCardSaid : Prop := Claim7.holds Tryz.pinned (.plain (OpenSpec.ofChange fnFragBenchSpec)) fnFragBenchCard

/-- THE TIED CARD OF 'laws.FnFragAmong'. -/
def fnFragAmongCard : Claim7 := { stood := { row := fnFragAmongRow, standIns := [], harness := (true, "72173f90bab67083c6a61cbdfab5a99347a3ab8d97692026010fb1f1382c9847"), looks := true }, kinds := [], alts := [], laidByText := true, laidKinds := [.handle], laidTests := true, laidLooks := .later }
def FnFragAmongCardSaid : Prop := Claim7.holds Tryz.pinned (.plain (OpenSpec.ofChange fnFragAmongSpec)) fnFragAmongCard

/-- THE TIED CARD OF 'laws.FnFragForget'. -/
def fnFragForgetCard : Claim7 := { stood := { row := fnFragForgetRow, standIns := [], harness := (true, "72173f90bab67083c6a61cbdfab5a99347a3ab8d97692026010fb1f1382c9847"), looks := true }, kinds := [], alts := [], laidByText := true, laidKinds := [.handle], laidTests := true, laidLooks := .later }
def FnFragForgetCardSaid : Prop := Claim7.holds Tryz.pinned (.plain (OpenSpec.ofChange fnFragForgetSpec)) fnFragForgetCard

/-- THE SECOND FORM's CARD OF 'laws.FnFragBench'. -/
def fnFragBenchUptoCard : Claim7 := { stood := { row := fnFragBenchUptoRow, standIns := [], harness := (true, "72173f90bab67083c6a61cbdfab5a99347a3ab8d97692026010fb1f1382c9847"), looks := true }, kinds := [], alts := [], laidByText := true, laidKinds := [.handle], laidTests := true, laidLooks := .later }
def FnFragBenchUptoCardSaid : Prop := Claim7.holds Tryz.pinned (.plain (OpenSpec.upto fnFragBenchSpec)) fnFragBenchUptoCard

/-- THE SECOND FORM's CARD OF 'laws.FnFragAmong'. -/
def fnFragAmongUptoCard : Claim7 := { stood := { row := fnFragAmongUptoRow, standIns := [], harness := (true, "72173f90bab67083c6a61cbdfab5a99347a3ab8d97692026010fb1f1382c9847"), looks := true }, kinds := [], alts := [], laidByText := true, laidKinds := [.handle], laidTests := true, laidLooks := .later }
def FnFragAmongUptoCardSaid : Prop := Claim7.holds Tryz.pinned (.plain (OpenSpec.upto fnFragAmongSpec)) fnFragAmongUptoCard

/-- THE SECOND FORM's CARD OF 'laws.FnFragForget'. -/
def fnFragForgetUptoCard : Claim7 := { stood := { row := fnFragForgetUptoRow, standIns := [], harness := (true, "72173f90bab67083c6a61cbdfab5a99347a3ab8d97692026010fb1f1382c9847"), looks := true }, kinds := [], alts := [], laidByText := true, laidKinds := [.handle], laidTests := true, laidLooks := .later }
def FnFragForgetUptoCardSaid : Prop := Claim7.holds Tryz.pinned (.plain (OpenSpec.upto fnFragForgetSpec)) fnFragForgetUptoCard
end Rows
end Go.Proofs.YtjbkgmbakjnlhaaGreatDoor
