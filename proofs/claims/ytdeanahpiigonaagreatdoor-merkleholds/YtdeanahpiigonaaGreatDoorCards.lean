/-
  DERIVED. GIVEN WITH THE SEED: THE CARDS: each row of YtdeanahpiigonaaGreatDoorRows.lean that lists a variable, with what it lists TIED to the program's text (the seventh form; the later family's looks); each row that meets fmt, with fmt's text TOLD by the authors' own Lean function (tested against real Go, not proved from fmt's source: count such statements apart). THE CARD IS WHAT COUNTS. Prove the row's statement (the work); the ties are given (YtdeanahpiigonaaGreatDoorTie.lean); close each card by the builder's one call (the guide's Derived/Test/ToyasCard.lean, 'card_holds'). Laid BY PROGRAM, IN A SANDBOX (cutbox-door.mjs). By AI agents, Wed Nov 11 2026. No macro, syntax, notation, axiom, sorry.
-/
import Derived.Test.YtdeanahpiigonaaGreatDoorRows
import GoSem.ClaimSeven
namespace Go.Proofs.YtdeanahpiigonaaGreatDoor
namespace Rows

/-- THE TIED CARD OF 'twinelaw5.MerkleHolds'. -/
def merkleHoldsCard : Claim7 := { stood := { row := merkleHoldsRow, standIns := [], harness := (true, "64905bbe5381e37c9166adc999dcb7f590b79ed6f6d547a94ddca800ba06fb2d"), looks := true }, kinds := [], alts := [], laidByText := true, laidKinds := [.data, .data], laidTests := true, laidLooks := .later }
def MerkleHoldsCardSaid : Prop := Claim7.holds Tryz.pinned (.plain (OpenSpec.ofChange merkleHoldsSpec)) merkleHoldsCard

/-- THE SECOND FORM's CARD OF 'twinelaw5.MerkleHolds'. -/
def merkleHoldsUptoCard : Claim7 := { stood := { row := merkleHoldsUptoRow, standIns := [], harness := (true, "64905bbe5381e37c9166adc999dcb7f590b79ed6f6d547a94ddca800ba06fb2d"), looks := true }, kinds := [], alts := [], laidByText := true, laidKinds := [.data, .data], laidTests := true, laidLooks := .later }
def MerkleHoldsUptoCardSaid : Prop := Claim7.holds Tryz.pinned (.plain (OpenSpec.upto merkleHoldsSpec)) merkleHoldsUptoCard
end Rows
end Go.Proofs.YtdeanahpiigonaaGreatDoor
