/-
  DERIVED. GIVEN WITH THE SEED: THE CARDS: each row of YthpelabmfpogbaaDoorRows.lean that lists a variable, with what it lists TIED to the program's text (the seventh form; the later family's looks); each row that meets fmt, with fmt's text TOLD by the authors' own Lean function (tested against real Go, not proved from fmt's source: count such statements apart). THE CARD IS WHAT COUNTS. Prove the row's statement (the work); the ties are given (YthpelabmfpogbaaDoorTie.lean); close each card by the builder's one call (the guide's Derived/Test/ToyasCard.lean, 'card_holds'). Laid BY PROGRAM, IN A SANDBOX (cutbox-door.mjs). By AI agents, Wed Nov 11 2026. No macro, syntax, notation, axiom, sorry.
-/
import Derived.Test.YthpelabmfpogbaaDoorRows
import GoSem.ClaimSeven
namespace Go.Proofs.YthpelabmfpogbaaDoor
namespace Rows

/-- THE TIED CARD OF 'twinelaw1.WireBack'. -/
def wireBackCard : Claim7 := { stood := { row := wireBackRow, standIns := [], harness := (true, "686e58f52dc37d3bf6deb2f4fa18cd43109a68d308290c85d7e61df030591556"), looks := true }, kinds := [], alts := [], laidByText := true, laidKinds := [.handle], laidTests := true, laidLooks := .later }
def WireBackCardSaid : Prop := Claim7.holds Tryd.pinned (.plain (OpenSpec.ofChange wireBackSpec)) wireBackCard

/-- THE TIED CARD OF 'twinelaw1.WireForm'. -/
def wireFormCard : Claim7 := { stood := { row := wireFormRow, standIns := [], harness := (true, "686e58f52dc37d3bf6deb2f4fa18cd43109a68d308290c85d7e61df030591556"), looks := true }, kinds := [], alts := [], laidByText := true, laidKinds := [.handle], laidTests := true, laidLooks := .later }
def WireFormCardSaid : Prop := Claim7.holds Tryd.pinned (.plain (OpenSpec.ofChange wireFormSpec)) wireFormCard

/-- THE TIED CARD OF 'twinelaw1.WirePlaces'. -/
def wirePlacesCard : Claim7 := { stood := { row := wirePlacesRow, standIns := [], harness := (true, "686e58f52dc37d3bf6deb2f4fa18cd43109a68d308290c85d7e61df030591556"), looks := true }, kinds := [], alts := [], laidByText := true, laidKinds := [.handle], laidTests := true, laidLooks := .later }
def WirePlacesCardSaid : Prop := Claim7.holds Tryd.pinned (.plain (OpenSpec.ofChange wirePlacesSpec)) wirePlacesCard

/-- THE SECOND FORM's CARD OF 'twinelaw1.WireBack'. -/
def wireBackUptoCard : Claim7 := { stood := { row := wireBackUptoRow, standIns := [], harness := (true, "686e58f52dc37d3bf6deb2f4fa18cd43109a68d308290c85d7e61df030591556"), looks := true }, kinds := [], alts := [], laidByText := true, laidKinds := [.handle], laidTests := true, laidLooks := .later }
def WireBackUptoCardSaid : Prop := Claim7.holds Tryd.pinned (.plain (OpenSpec.upto wireBackSpec)) wireBackUptoCard

/-- THE SECOND FORM's CARD OF 'twinelaw1.WireForm'. -/
def wireFormUptoCard : Claim7 := { stood := { row := wireFormUptoRow, standIns := [], harness := (true, "686e58f52dc37d3bf6deb2f4fa18cd43109a68d308290c85d7e61df030591556"), looks := true }, kinds := [], alts := [], laidByText := true, laidKinds := [.handle], laidTests := true, laidLooks := .later }
def WireFormUptoCardSaid : Prop := Claim7.holds Tryd.pinned (.plain (OpenSpec.upto wireFormSpec)) wireFormUptoCard

/-- THE SECOND FORM's CARD OF 'twinelaw1.WirePlaces'. -/
def wirePlacesUptoCard : Claim7 := { stood := { row := wirePlacesUptoRow, standIns := [], harness := (true, "686e58f52dc37d3bf6deb2f4fa18cd43109a68d308290c85d7e61df030591556"), looks := true }, kinds := [], alts := [], laidByText := true, laidKinds := [.handle], laidTests := true, laidLooks := .later }
def WirePlacesUptoCardSaid : Prop := Claim7.holds Tryd.pinned (.plain (OpenSpec.upto wirePlacesSpec)) wirePlacesUptoCard
end Rows
end Go.Proofs.YthpelabmfpogbaaDoor
