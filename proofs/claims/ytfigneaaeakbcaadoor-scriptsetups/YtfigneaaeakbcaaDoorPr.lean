/-
  A SETUP'S READER in Lean alone.
-/
import Derived.Test.YtfigneaaeakbcaaDoorPn
namespace Go.Proofs.YtfigneaaeakbcaaDoor
open Go

abbrev Er := Nat × Nat
def takeW (ws : List W) (e : Nat) : Except Er (W × List W) := match ws with
  | [] => .error (e, 204)
  | w :: r => if w.kind = 2 then .error (w.pl, 200) else .ok (w, r)
def wordW (s : By) (ws : List W) (e : Nat) : Except Er (List W) := match takeW ws e with
  | .error x => .error x
  | .ok (w, r) => if w.kind = 0 ∧ w.text = s then .ok r else .error (w.pl, 200)
def numK (lo hi : Int) (w : W) : Option Int := match numR w.text with
  | some n => if w.kind = 0 ∧ lo ≤ n ∧ n ≤ hi then some n else none
  | none => none
def numW (lo hi : Int) (ws : List W) (e : Nat) : Except Er (Int × List W) := match takeW ws e with
  | .error x => .error x
  | .ok (w, r) => match numK lo hi w with
    | some n => .ok (n, r)
    | none => .error (w.pl, 201)
def numsW (lo hi : Int) : Nat → List W → Nat → Except Er (List Int × List W)
  | 0, ws, _ => .ok ([], ws)
  | k + 1, ws, e => match numW lo hi ws e with
    | .error x => .error x
    | .ok (n, r) => match numsW lo hi k r e with
      | .error x => .error x
      | .ok (l, r) => .ok (n :: l, r)
def restW (ws : List W) : Option Er := match ws with
  | [] => none
  | w :: _ => some (w.pl, 200)
def bytesT : By := [98, 121, 116, 101, 115]
def namesT : By := [110, 97, 109, 101, 115]
def mostT : By := [109, 111, 115, 116]
def setupW (ws : List W) (e : Nat) : Except Er (List Int) := match wordW bytesT ws e with
  | .error x => .error x
  | .ok ws => match numsW 0 1099511627776 3 ws e with
    | .error x => .error x
    | .ok (a, ws) => match wordW namesT ws e with
      | .error x => .error x
      | .ok ws => match numsW 0 2097152 3 ws e with
        | .error x => .error x
        | .ok (b, ws) => match wordW mostT ws e with
          | .error x => .error x
          | .ok ws => match numW (-1099511627776) 1099511627776 ws e with
            | .error x => .error x
            | .ok (m, ws) => match restW ws with
              | some x => .error x
              | none => .ok (a ++ b ++ [m])
/-- what Setup answers -/
def setupT (t : By) : Except Er (List Int) := if 2000 < t.length then .error (0, 202) else setupW (atW 0 (linesR t)) t.length
end Go.Proofs.YtfigneaaeakbcaaDoor
