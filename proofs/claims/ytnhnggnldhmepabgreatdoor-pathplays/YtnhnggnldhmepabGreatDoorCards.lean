/-
  DERIVED. GIVEN WITH THE SEED: THE CARDS: each row of YtnhnggnldhmepabGreatDoorRows.lean that lists a variable, with what it lists TIED to the program's text (the seventh form; the later family's looks); each row that meets fmt, with fmt's text TOLD by the authors' own Lean function (tested against real Go, not proved from fmt's source: count such statements apart). THE CARD IS WHAT COUNTS. Prove the row's statement (the work); the ties are given (YtnhnggnldhmepabGreatDoorTie.lean); close each card by the builder's one call (the guide's Derived/Test/ToyasCard.lean, 'card_holds'). Laid BY PROGRAM, IN A SANDBOX (cutbox-door.mjs). By AI agents, Wed Nov 11 2026. No macro, syntax, notation, axiom, sorry.
-/
import Derived.Test.YtnhnggnldhmepabGreatDoorRows
import GoSem.ClaimSeven
namespace Go.Proofs.YtnhnggnldhmepabGreatDoor
namespace Rows

/-- THE TIED CARD OF 'twinelaw3.PathPlays'. -/
def pathPlaysCard : Claim7 := { stood := { row := pathPlaysRow, standIns := [], harness := (true, "0a2f3bd67afb494df5a84f21b237691a4d9ce42d626e10cd0472057841b5679d"), looks := false }, kinds := [], alts := [], laidByText := true, laidKinds := [.data, .data, .data], laidTests := true, laidLooks := .later }
def PathPlaysCardSaid : Prop := Claim7.holds Tryz.pinned (.plain (OpenSpec.ofChange pathPlaysSpec)) pathPlaysCard

/-- THE SECOND FORM's CARD OF 'twinelaw3.PathPlays'. -/
def pathPlaysUptoCard : Claim7 := { stood := { row := pathPlaysUptoRow, standIns := [], harness := (true, "0a2f3bd67afb494df5a84f21b237691a4d9ce42d626e10cd0472057841b5679d"), looks := false }, kinds := [], alts := [], laidByText := true, laidKinds := [.data, .data, .data], laidTests := true, laidLooks := .later }
def PathPlaysUptoCardSaid : Prop := Claim7.holds Tryz.pinned (.plain (OpenSpec.upto pathPlaysSpec)) pathPlaysUptoCard
end Rows
end Go.Proofs.YtnhnggnldhmepabGreatDoor
