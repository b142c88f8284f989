/-
  DERIVED. GIVEN WITH THE SEED: THE CARDS: each row of YtfigneaaeakbcaaDoorRows.lean that lists a variable, with what it lists TIED to the program's text (the seventh form; the later family's looks); each row that meets fmt, with fmt's text TOLD by the authors' own Lean function (tested against real Go, not proved from fmt's source: count such statements apart). THE CARD IS WHAT COUNTS. Prove the row's statement (the work); the ties are given (YtfigneaaeakbcaaDoorTie.lean); close each card by the builder's one call (the guide's Derived/Test/ToyasCard.lean, 'card_holds'). Laid BY PROGRAM, IN A SANDBOX (cutbox-door.mjs). By AI agents, Wed Nov 11 2026. No macro, syntax, notation, axiom, sorry.
-/
import Derived.Test.YtfigneaaeakbcaaDoorRows
import GoSem.ClaimSeven
namespace Go.Proofs.YtfigneaaeakbcaaDoor
namespace Rows

/-- THE TIED CARD OF 'twinelaw20.ScriptSetups'. -/
def scriptSetupsCard : Claim7 := { stood := { row := scriptSetupsRow, standIns := [], harness := (true, "f05afd53e9f292446ce19dc486f5286e9056c974bff9350a1bb456cd94808b99"), looks := true }, kinds := [], alts := [], laidByText := true, laidKinds := [.data, .data, .data, .data, .sentinel, .sentinel, .pinned], laidTests := true, laidLooks := .later }
def ScriptSetupsCardSaid : Prop := Claim7.holds Tryd.pinned (.plain (OpenSpec.ofChange scriptSetupsSpec)) scriptSetupsCard

/-- THE SECOND FORM's CARD OF 'twinelaw20.ScriptSetups'. -/
def scriptSetupsUptoCard : Claim7 := { stood := { row := scriptSetupsUptoRow, standIns := [], harness := (true, "f05afd53e9f292446ce19dc486f5286e9056c974bff9350a1bb456cd94808b99"), looks := true }, kinds := [], alts := [], laidByText := true, laidKinds := [.data, .data, .data, .data, .sentinel, .sentinel, .pinned], laidTests := true, laidLooks := .later }
def ScriptSetupsUptoCardSaid : Prop := Claim7.holds Tryd.pinned (.plain (OpenSpec.upto scriptSetupsSpec)) scriptSetupsUptoCard
end Rows
end Go.Proofs.YtfigneaaeakbcaaDoor
