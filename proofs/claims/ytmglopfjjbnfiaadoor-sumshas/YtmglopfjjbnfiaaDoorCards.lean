/-
  DERIVED. GIVEN WITH THE SEED: THE CARDS: each row of YtmglopfjjbnfiaaDoorRows.lean that lists a variable, with what it lists TIED to the program's text (the seventh form; the later family's looks); each row that meets fmt, with fmt's text TOLD by the authors' own Lean function (tested against real Go, not proved from fmt's source: count such statements apart). THE CARD IS WHAT COUNTS. Prove the row's statement (the work); the ties are given (YtmglopfjjbnfiaaDoorTie.lean); close each card by the builder's one call (the guide's Derived/Test/ToyasCard.lean, 'card_holds'). Laid BY PROGRAM, IN A SANDBOX (cutbox-door.mjs). By AI agents, Wed Nov 11 2026. No macro, syntax, notation, axiom, sorry.
-/
import Derived.Test.YtmglopfjjbnfiaaDoorRows
import GoSem.ClaimSeven
namespace Go.Proofs.YtmglopfjjbnfiaaDoor
namespace Rows

/-- THE TIED CARD OF 'twinelaw2.SumSHAs'. -/
def sumSHAsCard : Claim7 := { stood := { row := sumSHAsRow, standIns := [], harness := (true, "df7c9024a0df0481b8df576705cdd7b3ea2e9aabe75c8eb0e2b0e2f887f5d3e4"), looks := false }, kinds := [], alts := [], laidByText := true, laidKinds := [.data, .data], laidTests := true, laidLooks := .later }
def SumSHAsCardSaid : Prop := Claim7.holds Tryd.pinned (.plain (OpenSpec.ofChange sumSHAsSpec)) sumSHAsCard

/-- THE TIED CARD OF 'twinelaw2.SumBytes'. -/
def sumBytesCard : Claim7 := { stood := { row := sumBytesRow, standIns := [], harness := (true, "df7c9024a0df0481b8df576705cdd7b3ea2e9aabe75c8eb0e2b0e2f887f5d3e4"), looks := false }, kinds := [], alts := [], laidByText := true, laidKinds := [.data, .data, .data], laidTests := true, laidLooks := .later }
def SumBytesCardSaid : Prop := Claim7.holds Tryd.pinned (.plain (OpenSpec.ofChange sumBytesSpec)) sumBytesCard

/-- THE TIED CARD OF 'twinelaw2.SumPlays'. -/
def sumPlaysCard : Claim7 := { stood := { row := sumPlaysRow, standIns := [], harness := (true, "df7c9024a0df0481b8df576705cdd7b3ea2e9aabe75c8eb0e2b0e2f887f5d3e4"), looks := false }, kinds := [], alts := [], laidByText := true, laidKinds := [.data, .data], laidTests := true, laidLooks := .later }
def SumPlaysCardSaid : Prop := Claim7.holds Tryd.pinned (.plain (OpenSpec.ofChange sumPlaysSpec)) sumPlaysCard

/-- THE TIED CARD OF 'twinelaw2.SumParts'. -/
def sumPartsCard : Claim7 := { stood := { row := sumPartsRow, standIns := [], harness := (true, "df7c9024a0df0481b8df576705cdd7b3ea2e9aabe75c8eb0e2b0e2f887f5d3e4"), looks := false }, kinds := [], alts := [], laidByText := true, laidKinds := [.data, .data, .data], laidTests := true, laidLooks := .later }
def SumPartsCardSaid : Prop := Claim7.holds Tryd.pinned (.plain (OpenSpec.ofChange sumPartsSpec)) sumPartsCard

/-- THE TIED CARD OF 'twinelaw2.SumDamage'. -/
def sumDamageCard : Claim7 := { stood := { row := sumDamageRow, standIns := [], harness := (true, "df7c9024a0df0481b8df576705cdd7b3ea2e9aabe75c8eb0e2b0e2f887f5d3e4"), looks := false }, kinds := [], alts := [], laidByText := true, laidKinds := [.data, .data, .data], laidTests := true, laidLooks := .later }
def SumDamageCardSaid : Prop := Claim7.holds Tryd.pinned (.plain (OpenSpec.ofChange sumDamageSpec)) sumDamageCard

/-- THE TIED CARD OF 'twinelaw2.SumXor'. -/
def sumXorCard : Claim7 := { stood := { row := sumXorRow, standIns := [], harness := (true, "df7c9024a0df0481b8df576705cdd7b3ea2e9aabe75c8eb0e2b0e2f887f5d3e4"), looks := false }, kinds := [], alts := [], laidByText := true, laidKinds := [.data, .data, .data], laidTests := true, laidLooks := .later }
def SumXorCardSaid : Prop := Claim7.holds Tryd.pinned (.plain (OpenSpec.ofChange sumXorSpec)) sumXorCard

/-- THE SECOND FORM's CARD OF 'twinelaw2.SumSHAs'. -/
def sumSHAsUptoCard : Claim7 := { stood := { row := sumSHAsUptoRow, standIns := [], harness := (true, "df7c9024a0df0481b8df576705cdd7b3ea2e9aabe75c8eb0e2b0e2f887f5d3e4"), looks := false }, kinds := [], alts := [], laidByText := true, laidKinds := [.data, .data], laidTests := true, laidLooks := .later }
def SumSHAsUptoCardSaid : Prop := Claim7.holds Tryd.pinned (.plain (OpenSpec.upto sumSHAsSpec)) sumSHAsUptoCard

/-- THE SECOND FORM's CARD OF 'twinelaw2.SumBytes'. -/
def sumBytesUptoCard : Claim7 := { stood := { row := sumBytesUptoRow, standIns := [], harness := (true, "df7c9024a0df0481b8df576705cdd7b3ea2e9aabe75c8eb0e2b0e2f887f5d3e4"), looks := false }, kinds := [], alts := [], laidByText := true, laidKinds := [.data, .data, .data], laidTests := true, laidLooks := .later }
def SumBytesUptoCardSaid : Prop := Claim7.holds Tryd.pinned (.plain (OpenSpec.upto sumBytesSpec)) sumBytesUptoCard

/-- THE SECOND FORM's CARD OF 'twinelaw2.SumPlays'. -/
def sumPlaysUptoCard : Claim7 := { stood := { row := sumPlaysUptoRow, standIns := [], harness := (true, "df7c9024a0df0481b8df576705cdd7b3ea2e9aabe75c8eb0e2b0e2f887f5d3e4"), looks := false }, kinds := [], alts := [], laidByText := true, laidKinds := [.data, .data], laidTests := true, laidLooks := .later }
def SumPlaysUptoCardSaid : Prop := Claim7.holds Tryd.pinned (.plain (OpenSpec.upto sumPlaysSpec)) sumPlaysUptoCard

/-- THE SECOND FORM's CARD OF 'twinelaw2.SumParts'. -/
def sumPartsUptoCard : Claim7 := { stood := { row := sumPartsUptoRow, standIns := [], harness := (true, "df7c9024a0df0481b8df576705cdd7b3ea2e9aabe75c8eb0e2b0e2f887f5d3e4"), looks := false }, kinds := [], alts := [], laidByText := true, laidKinds := [.data, .data, .data], laidTests := true, laidLooks := .later }
def SumPartsUptoCardSaid : Prop := Claim7.holds Tryd.pinned (.plain (OpenSpec.upto sumPartsSpec)) sumPartsUptoCard

/-- THE SECOND FORM's CARD OF 'twinelaw2.SumDamage'. -/
def sumDamageUptoCard : Claim7 := { stood := { row := sumDamageUptoRow, standIns := [], harness := (true, "df7c9024a0df0481b8df576705cdd7b3ea2e9aabe75c8eb0e2b0e2f887f5d3e4"), looks := false }, kinds := [], alts := [], laidByText := true, laidKinds := [.data, .data, .data], laidTests := true, laidLooks := .later }
def SumDamageUptoCardSaid : Prop := Claim7.holds Tryd.pinned (.plain (OpenSpec.upto sumDamageSpec)) sumDamageUptoCard

/-- THE SECOND FORM's CARD OF 'twinelaw2.SumXor'. -/
def sumXorUptoCard : Claim7 := { stood := { row := sumXorUptoRow, standIns := [], harness := (true, "df7c9024a0df0481b8df576705cdd7b3ea2e9aabe75c8eb0e2b0e2f887f5d3e4"), looks := false }, kinds := [], alts := [], laidByText := true, laidKinds := [.data, .data, .data], laidTests := true, laidLooks := .later }
def SumXorUptoCardSaid : Prop := Claim7.holds Tryd.pinned (.plain (OpenSpec.upto sumXorSpec)) sumXorUptoCard
end Rows
end Go.Proofs.YtmglopfjjbnfiaaDoor
