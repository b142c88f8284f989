/-
  the Book's due.
-/
import Derived.Test.YthioflehpifflaaGreatDoorBook
namespace Go.Proofs.YthioflehpifflaaGreatDoor
open Go.RowKit

/-- The turn at which the n-th list is due. -/
def dueOf (turn n : Nat) : Nat := if n % 3 = 0 then turn else if n % 3 = 1 then turn + 1 + n / 3 % 8 else turn + 1

set_option maxHeartbeats 800000 in
set_option maxRecDepth 100000 in
theorem due_any (K turn n : Nat) (w : World) (h0 : w.cell? ⟨K, 0, none⟩ = some (.bool false)) (h2 : w.cell? ⟨K, 2, none⟩ = some (.int .i64 turn)) (ht : turn ≤ 1000000) (hn : n ≤ 1000000) :
    Calls Tryz.prog 56 #[.pointer (some ⟨K, 0, none⟩), .int .i64 n] w fun e w' => e = .returned (.int .i64 (dueOf turn n)) ∧ w' = w := by
  by_cases c0 : n % 3 = 0
  · have e : dueOf turn n = turn := by simp [dueOf, c0]
    rw [e]
    go_enter Tryz.func56, Tryz.ntmps56
    go_wp2
    go_ret
    exact ⟨rfl, rfl⟩
  by_cases c1 : n % 3 = 1
  · have e : dueOf turn n = turn + 1 + n / 3 % 8 := by simp [dueOf, c1]
    rw [e]
    go_enter Tryz.func56, Tryz.ntmps56
    go_wp2
    go_ret
    exact ⟨rfl, rfl⟩
  · have e : dueOf turn n = turn + 1 := by simp [dueOf, c0, c1]
    rw [e]
    go_enter Tryz.func56, Tryz.ntmps56
    go_wp2
    go_ret
    exact ⟨rfl, rfl⟩

end Go.Proofs.YthioflehpifflaaGreatDoor
