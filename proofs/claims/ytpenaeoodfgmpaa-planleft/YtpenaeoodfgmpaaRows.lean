/-
  No cell of these rows narrows 'for every input' (looked for: loops, veiled, ifaces, maps, wideKeys, modest, calm, conditions, laid).
  DERIVED. THE GIVEN ROWS OF THIS SEAT. 4 by the template 'for every input the law returns true; each argument reads behind the call as it read before'; 0 by the template 'total and deterministic' (their statements: YtpenaeoodfgmpaaTotals.lean).
  GIVEN WITH THE SEED: the statements are not yours to turn. If you find one false, say at which input.
  Laid BY PROGRAM, IN A SANDBOX (cutbox-rows.mjs): the forced cells as the released guide's own fill.sh prints them over the translation 36d8c7e00a917081… (all of the seat's roots in one cut). By AI agents, Wed Nov 11 2026. No macro, syntax, notation, axiom, sorry.
-/
import Derived.Test.YtpenaeoodfgmpaaChecked
import GoSem.Claim
import GoSem.ClaimJoined
import GoSem.ClaimMapViews
import Derived.JoinedTies
import Derived.KernelRfl
namespace Go.Proofs.Ytpenaeoodfgmpaa
/- THE CELL 'sum', in the pinned program and in every row, IS THE sha256 OF THE DUMP (.gsa) THAT YtpenaeoodfgmpaaProg.lean LOADS. Nothing in Lean hashes anything: it is a label: what it is worth is what the hold of that sum in a sandbox is worth. -/
noncomputable def Try.pinned : Pinned := { name := "ytpenaeoodfgmpaa", sum := "36d8c7e00a91708155711c0ba83a5d941f3e77418f0576c9d90aea5e34b3b2a1", checked := Try.checked }
namespace Rows
def none {H : Type} : Left H := { results := [], args := [] }

/-- 'twinelaw15.PlanLeft': WHATEVER THE INPUT: true; the input reads as it did. -/
def planLeftSpec : ChangeSpec := { name := "planLeft", fn := fun _ => fun
  | [d1, d2] => { results := [.lit (.bool true)], args := [d1, d2] }
  | _ => none }
def planLeftRow : OpenClaim := { program := "ytpenaeoodfgmpaa", sum := "36d8c7e00a91708155711c0ba83a5d941f3e77418f0576c9d90aea5e34b3b2a1", func := "twine/twinelaw15.PlanLeft", spec := "planLeft", apart := false }
def PlanLeftSaid : Prop := planLeftRow.holds Try.pinned (OpenSpec.ofChange planLeftSpec)

/-- ITS FALSE NEIGHBOUR: 'it returns false'. Refute it at one input. -/
def planLeftWrong : ChangeSpec := { name := "planLeft", fn := fun _ => fun
  | [d1, d2] => { results := [.lit (.bool false)], args := [d1, d2] }
  | _ => none }
def PlanLeftWrongFalsely : Prop := planLeftRow.holds Try.pinned (OpenSpec.ofChange planLeftWrong)

/-- 'twinelaw15.PlanSafe': WHATEVER THE INPUT: true; the input reads as it did. -/
def planSafeSpec : ChangeSpec := { name := "planSafe", fn := fun _ => fun
  | [d1, d2, d3] => { results := [.lit (.bool true)], args := [d1, d2, d3] }
  | _ => none }
def planSafeRow : OpenClaim := { program := "ytpenaeoodfgmpaa", sum := "36d8c7e00a91708155711c0ba83a5d941f3e77418f0576c9d90aea5e34b3b2a1", func := "twine/twinelaw15.PlanSafe", spec := "planSafe", apart := false }
def PlanSafeSaid : Prop := planSafeRow.holds Try.pinned (OpenSpec.ofChange planSafeSpec)

/-- ITS FALSE NEIGHBOUR: 'it returns false'. Refute it at one input. -/
def planSafeWrong : ChangeSpec := { name := "planSafe", fn := fun _ => fun
  | [d1, d2, d3] => { results := [.lit (.bool false)], args := [d1, d2, d3] }
  | _ => none }
def PlanSafeWrongFalsely : Prop := planSafeRow.holds Try.pinned (OpenSpec.ofChange planSafeWrong)

/-- 'twinelaw15.PlanRoom': WHATEVER THE INPUT: true; the input reads as it did. -/
def planRoomSpec : ChangeSpec := { name := "planRoom", fn := fun _ => fun
  | [d1, d2] => { results := [.lit (.bool true)], args := [d1, d2] }
  | _ => none }
def planRoomRow : OpenClaim := { program := "ytpenaeoodfgmpaa", sum := "36d8c7e00a91708155711c0ba83a5d941f3e77418f0576c9d90aea5e34b3b2a1", func := "twine/twinelaw15.PlanRoom", spec := "planRoom", apart := false }
def PlanRoomSaid : Prop := planRoomRow.holds Try.pinned (OpenSpec.ofChange planRoomSpec)

/-- ITS FALSE NEIGHBOUR: 'it returns false'. Refute it at one input. -/
def planRoomWrong : ChangeSpec := { name := "planRoom", fn := fun _ => fun
  | [d1, d2] => { results := [.lit (.bool false)], args := [d1, d2] }
  | _ => none }
def PlanRoomWrongFalsely : Prop := planRoomRow.holds Try.pinned (OpenSpec.ofChange planRoomWrong)

/-- 'twinelaw15.PlanSides': WHATEVER THE INPUT: true; the input reads as it did. -/
def planSidesSpec : ChangeSpec := { name := "planSides", fn := fun _ => fun
  | [d1, d2] => { results := [.lit (.bool true)], args := [d1, d2] }
  | _ => none }
def planSidesRow : OpenClaim := { program := "ytpenaeoodfgmpaa", sum := "36d8c7e00a91708155711c0ba83a5d941f3e77418f0576c9d90aea5e34b3b2a1", func := "twine/twinelaw15.PlanSides", spec := "planSides", apart := false }
def PlanSidesSaid : Prop := planSidesRow.holds Try.pinned (OpenSpec.ofChange planSidesSpec)

/-- ITS FALSE NEIGHBOUR: 'it returns false'. Refute it at one input. -/
def planSidesWrong : ChangeSpec := { name := "planSides", fn := fun _ => fun
  | [d1, d2] => { results := [.lit (.bool false)], args := [d1, d2] }
  | _ => none }
def PlanSidesWrongFalsely : Prop := planSidesRow.holds Try.pinned (OpenSpec.ofChange planSidesWrong)

/- THE SECOND FORM. 'bulk': how many values and letters a reading holds, each counted each time it is reached (what is shared counts as often as it is met; a slice's spare places count too). A statement '..UptoSaid' is the law's where the arguments, and the package variables that the reading takes, are together of bulk at most 1048576: NARROWER than '..Said'. Prove '..Said' where nothing that the law and all that it calls make is longer than what came in: it says more and counts as full. Else prove '..UptoSaid'. A law counts once. -/
mutual
def uptoBulk {H : Type} : DataW H → Nat
  | .lit (.string bytes) => bytes.length + 1
  | .lit _ => 1
  | .nil => 1
  | .ptr d => uptoBulk d + 1
  | .slice elems spare => uptoBulkAll elems + uptoBulkAll spare + 1
  | .agg parts => uptoBulkAll parts + 1
  | .iface _ d => uptoBulk d + 1
  | .map entries => uptoBulkEntries entries + 1
  | .held _ => 1
def uptoBulkAll {H : Type} : List (DataW H) → Nat
  | [] => 0
  | d :: r => uptoBulk d + uptoBulkAll r
def uptoBulkEntries {H : Type} : List (Lit × DataW H) → Nat
  | [] => 0
  | x :: r => uptoBulkEntry x + uptoBulkEntries r
def uptoBulkEntry {H : Type} : Lit × DataW H → Nat
  | (.string bytes, d) => bytes.length + uptoBulk d + 1
  | (_, d) => uptoBulk d + 1
 end
def uptoSmall : (H : Type) → List (DataW H) → Bool := fun _ ds => decide (uptoBulkAll ds ≤ 1048576)
def OpenSpec.upto (s : _root_.Go.ChangeSpec) : _root_.Go.OpenSpec := { _root_.Go.OpenSpec.ofChange s with cond := some uptoSmall }

/-- 'twinelaw15.PlanLeft', WHERE WHAT IT READS IS OF BULK AT MOST 1048576: true; the input reads as it did. -/
def planLeftUptoRow : OpenClaim := { program := "ytpenaeoodfgmpaa", sum := "36d8c7e00a91708155711c0ba83a5d941f3e77418f0576c9d90aea5e34b3b2a1", func := "twine/twinelaw15.PlanLeft", spec := "planLeft", apart := false, narrowed := true }
def PlanLeftUptoSaid : Prop := planLeftUptoRow.holds Try.pinned (OpenSpec.upto planLeftSpec)

/-- 'twinelaw15.PlanSafe', WHERE WHAT IT READS IS OF BULK AT MOST 1048576: true; the input reads as it did. -/
def planSafeUptoRow : OpenClaim := { program := "ytpenaeoodfgmpaa", sum := "36d8c7e00a91708155711c0ba83a5d941f3e77418f0576c9d90aea5e34b3b2a1", func := "twine/twinelaw15.PlanSafe", spec := "planSafe", apart := false, narrowed := true }
def PlanSafeUptoSaid : Prop := planSafeUptoRow.holds Try.pinned (OpenSpec.upto planSafeSpec)

/-- 'twinelaw15.PlanRoom', WHERE WHAT IT READS IS OF BULK AT MOST 1048576: true; the input reads as it did. -/
def planRoomUptoRow : OpenClaim := { program := "ytpenaeoodfgmpaa", sum := "36d8c7e00a91708155711c0ba83a5d941f3e77418f0576c9d90aea5e34b3b2a1", func := "twine/twinelaw15.PlanRoom", spec := "planRoom", apart := false, narrowed := true }
def PlanRoomUptoSaid : Prop := planRoomUptoRow.holds Try.pinned (OpenSpec.upto planRoomSpec)

/-- 'twinelaw15.PlanSides', WHERE WHAT IT READS IS OF BULK AT MOST 1048576: true; the input reads as it did. -/
def planSidesUptoRow : OpenClaim := { program := "ytpenaeoodfgmpaa", sum := "36d8c7e00a91708155711c0ba83a5d941f3e77418f0576c9d90aea5e34b3b2a1", func := "twine/twinelaw15.PlanSides", spec := "planSides", apart := false, narrowed := true }
def PlanSidesUptoSaid : Prop := planSidesUptoRow.holds Try.pinned (OpenSpec.upto planSidesSpec)

end Rows
end Go.Proofs.Ytpenaeoodfgmpaa
