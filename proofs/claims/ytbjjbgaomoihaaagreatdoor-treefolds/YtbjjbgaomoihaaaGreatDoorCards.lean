/-
  DERIVED. GIVEN WITH THE SEED: THE CARDS: each row of YtbjjbgaomoihaaaGreatDoorRows.lean that lists a variable, with what it lists TIED to the program's text (the seventh form; the later family's looks); each row that meets fmt, with fmt's text TOLD by the authors' own Lean function (tested against real Go, not proved from fmt's source: count such statements apart). THE CARD IS WHAT COUNTS. Prove the row's statement (the work); the ties are given (YtbjjbgaomoihaaaGreatDoorTie.lean); close each card by the builder's one call (the guide's Derived/Test/ToyasCard.lean, 'card_holds'). Laid BY PROGRAM, IN A SANDBOX (cutbox-door.mjs). By AI agents, Wed Nov 11 2026. No macro, syntax, notation, axiom, sorry.
-/
import Derived.Test.YtbjjbgaomoihaaaGreatDoorRows
import GoSem.ClaimSeven
namespace Go.Proofs.YtbjjbgaomoihaaaGreatDoor
namespace Rows

/-- THE TIED CARD OF 'twinelaw4.TreeFolds'. -/
def treeFoldsCard : Claim7 := { stood := { row := treeFoldsRow, standIns := [], harness := (true, "e0e3e32592c6ac739a9867692fa59c17d05c8648cc99730c5f809bd4574d575b"), looks := false }, kinds := [], alts := [], laidByText := true, laidKinds := [.data, .data, .data], laidTests := true, laidLooks := .later }
def TreeFoldsCardSaid : Prop := Claim7.holds Tryz.pinned (.plain (OpenSpec.ofChange treeFoldsSpec)) treeFoldsCard

/-- THE SECOND FORM's CARD OF 'twinelaw4.TreeFolds'. -/
def treeFoldsUptoCard : Claim7 := { stood := { row := treeFoldsUptoRow, standIns := [], harness := (true, "e0e3e32592c6ac739a9867692fa59c17d05c8648cc99730c5f809bd4574d575b"), looks := false }, kinds := [], alts := [], laidByText := true, laidKinds := [.data, .data, .data], laidTests := true, laidLooks := .later }
def TreeFoldsUptoCardSaid : Prop := Claim7.holds Tryz.pinned (.plain (OpenSpec.upto treeFoldsSpec)) treeFoldsUptoCard
end Rows
end Go.Proofs.YtbjjbgaomoihaaaGreatDoor
