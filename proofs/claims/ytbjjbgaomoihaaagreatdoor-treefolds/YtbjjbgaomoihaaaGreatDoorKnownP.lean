import Derived.Test.YtbjjbgaomoihaaaGreatDoorAtA
namespace Go.Proofs.YtbjjbgaomoihaaaGreatDoor
open Go.RowKit
def bA : ByteArray := ⟨#[97]⟩
def bD : ByteArray := ⟨#[100]⟩
def bX : ByteArray := ⟨#[120]⟩
def v0 : Vd := ⟨1, 7, 0, zeros, by simp [zeros]⟩
def vA : Vd := ⟨2, 6, 3, zeros, by simp [zeros]⟩
def vD : Vd := ⟨1, 5, 0, zeros, by simp [zeros]⟩
def vL : Vd := ⟨3, 0, 1, zeros, by simp [zeros]⟩
def fAD : F := .cons bA vA Md.zero .nil (.cons bD vD Md.zero .nil .nil)
def fDA : F := .cons bD vD Md.zero .nil (.cons bA vA Md.zero .nil .nil)
def fADX : F := .cons bA vA Md.zero .nil (.cons bD vD Md.zero (.cons bX vL Md.zero .nil .nil) .nil)
def t0 : T3 := (v0, Md.zero, fAD)
def tL : T3 := (vL, Md.zero, .nil)
def tX : T3 := (v0, Md.zero, fADX)
def pDX : ByteArray := ⟨#[100, 47, 120]⟩
def pAX : ByteArray := ⟨#[97, 47, 120]⟩
def pE : ByteArray := ⟨#[101]⟩
theorem tl_mk (l : List UInt8) : tl ⟨l.toArray⟩ = l := by simp [tl, ByteArray.toList_eq]
theorem toL (l : List UInt8) : (⟨l.toArray⟩ : ByteArray).toList = l := by simp [ByteArray.toList_eq]
theorem tl_bA : tl bA = [97] := tl_mk [97]
theorem tl_bD : tl bD = [100] := tl_mk [100]
theorem l_bA : bA.toList = [97] := toL [97]
theorem l_bD : bD.toList = [100] := toL [100]
theorem l_pE : pE.toList = [101] := toL [101]
theorem cmpDA : cmp3 bD bA = 1 := by unfold cmp3; rw [l_bA, l_bD]; decide
theorem ltAD : lt bA bD := by unfold lt; rw [l_bA, l_bD]; decide
theorem rises0 : fAD.rises := ⟨⟨ltAD, trivial⟩, trivial, trivial, trivial, trivial⟩
theorem neDA : bD ≠ bA := (lt_no ltAD).2.symm
theorem risesX : fADX.rises := ⟨⟨ltAD, trivial⟩, trivial, trivial, ⟨trivial, trivial, trivial⟩, trivial⟩
theorem place0 (n : Nat) (hn : n ≤ 64) {b : ByteArray} (hb : nameB (tl b) = true) (p : Option ByteArray) (hp : leP b p = false) : placeE p b n = 0 := by
  unfold placeE
  rw [if_neg (by omega), if_neg (by rw [hb]; decide), if_neg (by rw [hp]; decide)]
theorem nbA : nameB (tl bA) = true := by rw [tl_bA]; decide
theorem nbD : nameB (tl bD) = true := by rw [tl_bD]; decide
theorem leDA : leP bD (some bA) = false := by show leB bD bA = false; unfold leB; rw [l_bA, l_bD]; decide
theorem leAD : leP bA (some bD) = true := by show leB bA bD = true; unfold leB; rw [l_bA, l_bD]; decide
theorem ownA : ownE vA Md.zero (decide (0 < F.nil.len)) = 0 := by decide
theorem ownD : ownE vD Md.zero (decide (0 < F.nil.len)) = 0 := by decide
theorem own0 : ownE v0 Md.zero (decide (0 < fAD.len)) = 0 := by decide
theorem own0' : ownE v0 Md.zero (decide (0 < fDA.len)) = 0 := by decide
theorem check0 : checkE v0 Md.zero fAD = 0 := by
  unfold checkE faultN
  rw [own0]
  simp only [ne_eq, not_true_eq_false, if_false, fAD, faultF, List.length_nil, Nat.zero_add, place0 1 (by decide) nbA none rfl, place0 1 (by decide) nbD (some bA) leDA, ownA, ownD]
  rfl
theorem checkL : checkE vL Md.zero .nil = 0 := by decide
theorem check1 : checkE v0 Md.zero fDA = 42 ∧ checkP v0 Md.zero fDA = bA := by
  have h : faultN v0 Md.zero fDA [] = some ([bA], 42) := by
    unfold faultN
    rw [own0']
    have h1 : placeE (some bD) bA 1 = 42 := by unfold placeE; rw [if_neg (by decide), if_neg (by rw [nbA]; decide), if_pos leAD]
    simp only [ne_eq, not_true_eq_false, if_false, fDA, faultF, List.length_nil, Nat.zero_add, place0 1 (by decide) nbD none rfl, ownD, h1]
    rfl
  unfold checkE checkP
  rw [h]
  refine ⟨rfl, ?_⟩
  show ofB (joinL ([bA].map tl)) = bA
  rw [List.map_cons, List.map_nil, tl_bA]
  rfl
theorem pieces_dx : pieces (tl pDX) = [[100], [120]] := by rw [show tl pDX = [100, 47, 120] from tl_mk _]; decide
theorem pieces_ax : pieces (tl pAX) = [[97], [120]] := by rw [show tl pAX = [97, 47, 120] from tl_mk _]; decide
theorem pieces_e : pieces (tl pE) = [[101]] := by rw [show tl pE = [101] from tl_mk _]; decide
theorem pieces_0 : pieces (tl ⟨#[]⟩) = [] := by rw [show tl ⟨#[]⟩ = [] from tl_mk []]; decide
theorem cut_dx : cutN pDX = [bD, bX] := by unfold cutN; rw [pieces_dx]; rfl
theorem cut_ax : cutN pAX = [bA, bX] := by unfold cutN; rw [pieces_ax]; rfl
theorem cut_e : cutN pE = [pE] := by unfold cutN; rw [pieces_e]; rfl
theorem cut_0 : cutN ⟨#[]⟩ = [] := by unfold cutN; rw [pieces_0]; rfl
theorem split_dx : splitE (tl pDX) 64 = 0 := by unfold splitE; rw [pieces_dx]; decide
theorem split_ax : splitE (tl pAX) 64 = 0 := by unfold splitE; rw [pieces_ax]; decide
theorem split_e : splitE (tl pE) 64 = 0 := by unfold splitE; rw [pieces_e]; decide
theorem split_0 : splitE (tl ⟨#[]⟩) 64 = 0 := by unfold splitE; rw [pieces_0]; decide
theorem getD0 : fAD.get bD = some (vD, Md.zero, .nil) := by rw [fAD, F.get, if_neg neDA, F.get, if_pos rfl]
theorem getA0 : fAD.get bA = some (vA, Md.zero, .nil) := by rw [fAD, F.get, if_pos rfl]
theorem neE : pE ≠ bA ∧ pE ≠ bD := ⟨fun h => by have := congrArg ByteArray.toList h; rw [l_pE, l_bA] at this; simp at this, fun h => by have := congrArg ByteArray.toList h; rw [l_pE, l_bD] at this; simp at this⟩
theorem getE0 : fAD.get pE = none := by rw [fAD, F.get, if_neg neE.1, F.get, if_neg neE.2, F.get]
theorem way_dx : wayE t0 pDX = 0 := by
  unfold wayE
  rw [split_dx, cut_dx]
  have : dn t0 [bD, bX].dropLast = some (vD, Md.zero, .nil) := by show (fAD.get bD).bind (fun s => some s) = _; rw [getD0]; rfl
  simp only [ne_eq, not_true_eq_false, if_false, this]
  rfl
theorem way_ax : wayE t0 pAX = 44 := by
  unfold wayE
  rw [split_ax, cut_ax]
  have : dn t0 [bA, bX].dropLast = some (vA, Md.zero, .nil) := by show (fAD.get bA).bind (fun s => some s) = _; rw [getA0]; rfl
  simp only [ne_eq, not_true_eq_false, if_false, this]
  rfl
theorem way_e : wayE t0 pE = 0 := by
  unfold wayE
  rw [split_e, cut_e]
  rfl
theorem way_0 : wayE t0 ⟨#[]⟩ = 0 := by
  unfold wayE
  rw [split_0, cut_0]
  rfl
theorem put_dx : putE t0 tL pDX = 0 := by unfold putE; rw [way_dx, cut_dx]; rfl
theorem put_ax : putE t0 tL pAX = 44 := by unfold putE; rw [way_ax]; rfl
theorem putT_dx : putT t0 (cutN pDX) tL = tX := by
  rw [cut_dx]
  show (v0, Md.zero, fAD.put bD _ _ _) = tX
  have e : (t0.2.2.get bD).getD tL = (vD, Md.zero, .nil) := by show (fAD.get bD).getD tL = _; rw [getD0]; rfl
  rw [e]
  show (v0, Md.zero, fAD.put bD vD Md.zero (.cons bX vL Md.zero .nil .nil)) = tX
  rw [fAD, F.put, if_neg (by rw [cmpDA]; decide), if_neg (by rw [cmpDA]; decide), F.put, if_pos (cmp3_eq.2 rfl)]
  rfl
theorem sub_dx : subS tX pDX = some tL := by
  unfold subS
  rw [if_pos split_dx, cut_dx]
  show (fADX.get bD).bind _ = _
  have : fADX.get bD = some (vD, Md.zero, .cons bX vL Md.zero .nil .nil) := by rw [fADX, F.get, if_neg neDA, F.get, if_pos rfl]
  rw [this]
  show ((F.cons bX vL Md.zero .nil .nil).get bX).bind _ = _
  rw [F.get, if_pos rfl]
  rfl
theorem sub_no : subS t0 pDX = none := by
  unfold subS
  rw [if_pos split_dx, cut_dx]
  show (fAD.get bD).bind _ = _
  rw [getD0]
  rfl
theorem dn_e : dn t0 (cutN pE) = none := by
  rw [cut_e]
  show (fAD.get pE).bind _ = _
  rw [getE0]
  rfl
end Go.Proofs.YtbjjbgaomoihaaaGreatDoor
