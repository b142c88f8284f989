/-
  THE GROUND OF THE WALKS.
-/
import Derived.Test.YtadkdjgffnpgcaaProg
import Derived.Test.YtadkdjgffnpgcaaPlain2
import Derived.WalkKit
import Derived.WalkSpells
import Derived.WalkLawsBesides
import Derived.Laws.AppendOwnNone
import Derived.Lib.SliceRun
import Derived.KernelRfl
import Derived.Deep.QuietTactic
import Derived.BigQuiet
namespace Go.Proofs.Ytadkdjgffnpgcaa
open Go.RowKit

/-- a slot's number -/
def iOf (v : Value) : Nat := match v with | .int _ i => i.toNat | _ => 0
@[simp] theorem iOf_int (k : IntKind) (i : Int) : iOf (.int k i) = i.toNat := rfl

theorem num_any (n : Int) (w : World) : Calls Try.prog 9 #[.int .i64 n] w fun e w' => e = .returned (.int .i64 n) ∧ w' = w := by
  go_enter Try.func9, Try.ntmps9
  go_wp2
  go_ret
  exact ⟨rfl, rfl⟩
end Go.Proofs.Ytadkdjgffnpgcaa
