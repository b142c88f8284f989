/-
  The statements' pair of readers: does, whatever it is told.
-/
import Derived.Test.YthpelabmfpogbaaGreatDoorDoesV
namespace Go.Proofs.YthpelabmfpogbaaGreatDoor
open Go.RowKit Wire Bk

theorem does_any (lo K n : Nat) (B : Nat → Prop) (loR R loM M : Nat) (l : List Int) (s : St) (kd : Int) (sec : Bool) (most : Nat) (nn : Int) (mark : Nat) (w : World) (h : Two w lo K n B loR R loM M l s) (hB : Bytes l) (hl : l.length ≤ 100000)
    (hnn : -9223372036854775808 ≤ nn ∧ nn ≤ 9223372036854775807) (hmk : mark ≤ 100000000) (hn : n ≤ 200000) :
    Calls Tryz.prog 19 #[.agg #[.pointer (some ⟨R, 0, none⟩), .pointer (some ⟨M, 0, none⟩)], .pointer (some ⟨K, 0, none⟩), .agg #[.int .i64 kd, .bool sec, .int .u64 most, .int .i64 nn], .int .i64 mark] w fun e w' => e = .returned (.bool true) ∧ DoesTo w w' lo K n B loR R loM M l := by
  by_cases h1 : kd = 1
  · subst h1; exact does_byte lo K n B loR R loM M l s sec most nn mark w h
  by_cases h2 : kd = 2
  · subst h2; exact does_uint lo K n B loR R loM M l s sec most nn mark w h hB
  by_cases h3 : kd = 3
  · subst h3; exact does_text lo K n B loR R loM M l s sec most nn mark w h hB hnn
  by_cases h4 : kd = 4
  · subst h4; exact does_raw lo K n B loR R loM M l s sec most nn mark w h hl hnn hmk hn
  by_cases h5 : kd = 5
  · subst h5; exact does_end lo K n B loR R loM M l s sec most nn mark w h
  exact does_none lo K n B loR R loM M l s sec most nn mark kd w h (by simpa using h1) (by simpa using h2) (by simpa using h3) (by simpa using h4) (by simpa using h5)
end Go.Proofs.YthpelabmfpogbaaGreatDoor
