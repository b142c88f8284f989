/-
  DERIVED. GIVEN WITH THE SEED: THE CARDS: each row of YtjikkhbcbfpocaaGreatDoorRows.lean that lists a variable, with what it lists TIED to the program's text (the seventh form; the later family's looks); each row that meets fmt, with fmt's text TOLD by the authors' own Lean function (tested against real Go, not proved from fmt's source: count such statements apart). THE CARD IS WHAT COUNTS. Prove the row's statement (the work); the ties are given (YtjikkhbcbfpocaaGreatDoorTie.lean); close each card by the builder's one call (the guide's Derived/Test/ToyasCard.lean, 'card_holds'). Laid BY PROGRAM, IN A SANDBOX (cutbox-door.mjs). By AI agents, Wed Nov 11 2026. No macro, syntax, notation, axiom, sorry.
-/
import Derived.Test.YtjikkhbcbfpocaaGreatDoorRows
import GoSem.ClaimSeven
namespace Go.Proofs.YtjikkhbcbfpocaaGreatDoor
namespace Rows

/-- THE TIED CARD OF 'twinelaw6.CodecBack'. -/
def codecBackCard : Claim7 := { stood := { row := codecBackRow, standIns := [], harness := (true, "f0cc0c4cb71dde87fcee377c4123821a5d37cea3dc2219b845221433afcb0c97"), looks := true }, kinds := [], alts := [], laidByText := true, laidKinds := [.handle, .data, .data, .data], laidTests := true, laidLooks := .later }
def CodecBackCardSaid : Prop := Claim7.holds Tryz.pinned (.plain (OpenSpec.ofChange codecBackSpec)) codecBackCard

/-- THE TIED CARD OF 'twinelaw6.CodecForm'. -/
def codecFormCard : Claim7 := { stood := { row := codecFormRow, standIns := [], harness := (true, "f0cc0c4cb71dde87fcee377c4123821a5d37cea3dc2219b845221433afcb0c97"), looks := true }, kinds := [], alts := [], laidByText := true, laidKinds := [.handle, .data, .data, .data], laidTests := true, laidLooks := .later }
def CodecFormCardSaid : Prop := Claim7.holds Tryz.pinned (.plain (OpenSpec.ofChange codecFormSpec)) codecFormCard

/-- THE TIED CARD OF 'twinelaw6.CodecDamage'. -/
def codecDamageCard : Claim7 := { stood := { row := codecDamageRow, standIns := [], harness := (true, "f0cc0c4cb71dde87fcee377c4123821a5d37cea3dc2219b845221433afcb0c97"), looks := true }, kinds := [], alts := [], laidByText := true, laidKinds := [.handle, .data, .data, .data], laidTests := true, laidLooks := .later }
def CodecDamageCardSaid : Prop := Claim7.holds Tryz.pinned (.plain (OpenSpec.ofChange codecDamageSpec)) codecDamageCard

/-- THE TIED CARD OF 'twinelaw6.CodecMost'. -/
def codecMostCard : Claim7 := { stood := { row := codecMostRow, standIns := [], harness := (true, "f0cc0c4cb71dde87fcee377c4123821a5d37cea3dc2219b845221433afcb0c97"), looks := true }, kinds := [], alts := [], laidByText := true, laidKinds := [.handle, .data, .data, .data], laidTests := true, laidLooks := .later }
def CodecMostCardSaid : Prop := Claim7.holds Tryz.pinned (.plain (OpenSpec.ofChange codecMostSpec)) codecMostCard

/-- THE TIED CARD OF 'twinelaw7.LiftSame'. -/
def liftSameCard : Claim7 := { stood := { row := liftSameRow, standIns := [], harness := (true, "f0cc0c4cb71dde87fcee377c4123821a5d37cea3dc2219b845221433afcb0c97"), looks := true }, kinds := [], alts := [], laidByText := true, laidKinds := [.handle, .data, .data, .data], laidTests := true, laidLooks := .later }
def LiftSameCardSaid : Prop := Claim7.holds Tryz.pinned (.plain (OpenSpec.ofChange liftSameSpec)) liftSameCard

/-- THE TIED CARD OF 'twinelaw7.LiftTwice'. -/
def liftTwiceCard : Claim7 := { stood := { row := liftTwiceRow, standIns := [], harness := (true, "f0cc0c4cb71dde87fcee377c4123821a5d37cea3dc2219b845221433afcb0c97"), looks := true }, kinds := [], alts := [], laidByText := true, laidKinds := [.handle, .data, .data, .data], laidTests := true, laidLooks := .later }
def LiftTwiceCardSaid : Prop := Claim7.holds Tryz.pinned (.plain (OpenSpec.ofChange liftTwiceSpec)) liftTwiceCard

/-- THE SECOND FORM's CARD OF 'twinelaw6.CodecBack'. -/
def codecBackUptoCard : Claim7 := { stood := { row := codecBackUptoRow, standIns := [], harness := (true, "f0cc0c4cb71dde87fcee377c4123821a5d37cea3dc2219b845221433afcb0c97"), looks := true }, kinds := [], alts := [], laidByText := true, laidKinds := [.handle, .data, .data, .data], laidTests := true, laidLooks := .later }
def CodecBackUptoCardSaid : Prop := Claim7.holds Tryz.pinned (.plain (OpenSpec.upto codecBackSpec)) codecBackUptoCard

/-- THE SECOND FORM's CARD OF 'twinelaw6.CodecForm'. -/
def codecFormUptoCard : Claim7 := { stood := { row := codecFormUptoRow, standIns := [], harness := (true, "f0cc0c4cb71dde87fcee377c4123821a5d37cea3dc2219b845221433afcb0c97"), looks := true }, kinds := [], alts := [], laidByText := true, laidKinds := [.handle, .data, .data, .data], laidTests := true, laidLooks := .later }
def CodecFormUptoCardSaid : Prop := Claim7.holds Tryz.pinned (.plain (OpenSpec.upto codecFormSpec)) codecFormUptoCard

/-- THE SECOND FORM's CARD OF 'twinelaw6.CodecDamage'. -/
def codecDamageUptoCard : Claim7 := { stood := { row := codecDamageUptoRow, standIns := [], harness := (true, "f0cc0c4cb71dde87fcee377c4123821a5d37cea3dc2219b845221433afcb0c97"), looks := true }, kinds := [], alts := [], laidByText := true, laidKinds := [.handle, .data, .data, .data], laidTests := true, laidLooks := .later }
def CodecDamageUptoCardSaid : Prop := Claim7.holds Tryz.pinned (.plain (OpenSpec.upto codecDamageSpec)) codecDamageUptoCard

/-- THE SECOND FORM's CARD OF 'twinelaw6.CodecMost'. -/
def codecMostUptoCard : Claim7 := { stood := { row := codecMostUptoRow, standIns := [], harness := (true, "f0cc0c4cb71dde87fcee377c4123821a5d37cea3dc2219b845221433afcb0c97"), looks := true }, kinds := [], alts := [], laidByText := true, laidKinds := [.handle, .data, .data, .data], laidTests := true, laidLooks := .later }
def CodecMostUptoCardSaid : Prop := Claim7.holds Tryz.pinned (.plain (OpenSpec.upto codecMostSpec)) codecMostUptoCard

/-- THE SECOND FORM's CARD OF 'twinelaw7.LiftSame'. -/
def liftSameUptoCard : Claim7 := { stood := { row := liftSameUptoRow, standIns := [], harness := (true, "f0cc0c4cb71dde87fcee377c4123821a5d37cea3dc2219b845221433afcb0c97"), looks := true }, kinds := [], alts := [], laidByText := true, laidKinds := [.handle, .data, .data, .data], laidTests := true, laidLooks := .later }
def LiftSameUptoCardSaid : Prop := Claim7.holds Tryz.pinned (.plain (OpenSpec.upto liftSameSpec)) liftSameUptoCard

/-- THE SECOND FORM's CARD OF 'twinelaw7.LiftTwice'. -/
def liftTwiceUptoCard : Claim7 := { stood := { row := liftTwiceUptoRow, standIns := [], harness := (true, "f0cc0c4cb71dde87fcee377c4123821a5d37cea3dc2219b845221433afcb0c97"), looks := true }, kinds := [], alts := [], laidByText := true, laidKinds := [.handle, .data, .data, .data], laidTests := true, laidLooks := .later }
def LiftTwiceUptoCardSaid : Prop := Claim7.holds Tryz.pinned (.plain (OpenSpec.upto liftTwiceSpec)) liftTwiceUptoCard
end Rows
end Go.Proofs.YtjikkhbcbfpocaaGreatDoor
