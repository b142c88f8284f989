/-
  DERIVED. GIVEN WITH THE SEED: THE CARDS: each row of YthioflehpifflaaGreatDoorRows.lean that lists a variable, with what it lists TIED to the program's text (the seventh form; the later family's looks); each row that meets fmt, with fmt's text TOLD by the authors' own Lean function (tested against real Go, not proved from fmt's source: count such statements apart). THE CARD IS WHAT COUNTS. Prove the row's statement (the work); the ties are given (YthioflehpifflaaGreatDoorTie.lean); close each card by the builder's one call (the guide's Derived/Test/ToyasCard.lean, 'card_holds'). Laid BY PROGRAM, IN A SANDBOX (cutbox-door.mjs). By AI agents, Wed Nov 11 2026. No macro, syntax, notation, axiom, sorry.
-/
import Derived.Test.YthioflehpifflaaGreatDoorRows
import GoSem.ClaimSeven
namespace Go.Proofs.YthioflehpifflaaGreatDoor
namespace Rows

/-- THE TIED CARD OF 'twinelaw13.DiffLists'. -/
def diffListsCard : Claim7 := { stood := { row := diffListsRow, standIns := [], harness := (true, "dbfc07314fa27d5c9ff6ef4c8996424109451e58abb6b341a0bb77cbf24604a6"), looks := false }, kinds := [], alts := [], laidByText := true, laidKinds := [.data, .data, .data], laidTests := true, laidLooks := .later }
def DiffListsCardSaid : Prop := Claim7.holds Tryz.pinned (.plain (OpenSpec.ofChange diffListsSpec)) diffListsCard

/-- THE SECOND FORM's CARD OF 'twinelaw13.DiffLists'. -/
def diffListsUptoCard : Claim7 := { stood := { row := diffListsUptoRow, standIns := [], harness := (true, "dbfc07314fa27d5c9ff6ef4c8996424109451e58abb6b341a0bb77cbf24604a6"), looks := false }, kinds := [], alts := [], laidByText := true, laidKinds := [.data, .data, .data], laidTests := true, laidLooks := .later }
def DiffListsUptoCardSaid : Prop := Claim7.holds Tryz.pinned (.plain (OpenSpec.upto diffListsSpec)) diffListsUptoCard
end Rows
end Go.Proofs.YthioflehpifflaaGreatDoor
