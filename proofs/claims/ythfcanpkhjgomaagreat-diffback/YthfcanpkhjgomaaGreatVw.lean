import Derived.Test.YthfcanpkhjgomaaGreatVu
namespace Go.Proofs.YthfcanpkhjgomaaGreat.Th
open Go.RowKit Ch
abbrev Pr := Option Nat × Option Nat
def ordA (A B : List Cd) (i j : Nat) : Int := match A[i]?, B[j]? with
 | none, _ => 1
 | some _, none => -1
 | some x, some y => cmpL (tl x.path) (tl y.path)
def itm (A B : List Cd) (i j : Nat) : Pr := (if ordA A B i j ≤ 0 then some i else none, if 0 ≤ ordA A B i j then some j else none)
def ni (A B : List Cd) (i j : Nat) : Nat := if ordA A B i j ≤ 0 then i + 1 else i
def nj (A B : List Cd) (i j : Nat) : Nat := if 0 ≤ ordA A B i j then j + 1 else j
def mgF (A B : List Cd) : Nat → Nat → Nat → List Pr
 | 0, _, _ => []
 | f + 1, i, j => if i < A.length ∨ j < B.length then itm A B i j :: mgF A B f (ni A B i j) (nj A B i j) else []
def rem (A B : List Cd) (i j : Nat) : Nat := (A.length - i) + (B.length - j)
theorem ord_left {A B : List Cd} {i j : Nat} (_h : i < A.length ∨ j < B.length) (ho : ordA A B i j ≤ 0) : i < A.length := by
 unfold ordA at ho
 by_cases hi : i < A.length
 ·exact hi
 ·rw [List.getElem?_eq_none (by omega)] at ho
  simp at ho
theorem ord_right {A B : List Cd} {i j : Nat} (h : i < A.length ∨ j < B.length) (ho : 0 ≤ ordA A B i j) : j < B.length := by
 unfold ordA at ho
 by_cases hj : j < B.length
 ·exact hj
 ·have hi : i < A.length := by omega
  rw [List.getElem?_eq_none (l := B) (by omega), List.getElem?_eq_getElem hi] at ho
  simp at ho
theorem rem_next {A B : List Cd} {i j : Nat} (h : i < A.length ∨ j < B.length) : rem A B (ni A B i j) (nj A B i j) < rem A B i j := by
 unfold rem ni nj
 by_cases h1 : ordA A B i j ≤ 0
 ·have := ord_left h h1
  rw [if_pos h1]
  split
  ·rename_i h2
   have := ord_right h h2
   omega
  ·omega
 ·have h2 : 0 ≤ ordA A B i j := by omega
  have := ord_right h h2
  rw [if_neg h1, if_pos h2]
  omega
theorem mgF_succ (A B : List Cd) (f i j : Nat) : mgF A B (f + 1) i j = if i < A.length ∨ j < B.length then itm A B i j :: mgF A B f (ni A B i j) (nj A B i j) else [] := rfl
theorem mgF_more (A B : List Cd) : ∀ (f i j : Nat), rem A B i j ≤ f → mgF A B (f + 1) i j = mgF A B f i j
 | 0, i, j, h => by
  unfold rem at h
  rw [mgF_succ, if_neg (by omega)]
  rfl
 | f + 1, i, j, h => by
  rw [mgF_succ A B (f + 1) i j, mgF_succ A B f i j]
  split
  ·rename_i hc
   rw [mgF_more A B f _ _ (by have := rem_next hc; omega)]
  ·rfl
theorem mgF_enough (A B : List Cd) (i j : Nat) : ∀ k, mgF A B (rem A B i j + k) i j = mgF A B (rem A B i j) i j
 | 0 => rfl
 | k + 1 => by rw [← Nat.add_assoc, mgF_more A B _ i j (by omega), mgF_enough A B i j k]
def mg (A B : List Cd) (i j : Nat) : List Pr := mgF A B (rem A B i j) i j
theorem mg_step {A B : List Cd} {i j : Nat} (h : i < A.length ∨ j < B.length) : mg A B i j = itm A B i j :: mg A B (ni A B i j) (nj A B i j) := by
 have h1 := rem_next h
 obtain ⟨k, hk⟩ : ∃ k, rem A B i j = rem A B (ni A B i j) (nj A B i j) + k + 1 := ⟨rem A B i j - rem A B (ni A B i j) (nj A B i j) - 1, by omega⟩
 unfold mg
 rw [hk, mgF_succ, if_pos h, mgF_enough]
theorem mg_done {A B : List Cd} {i j : Nat} (h : ¬ (i < A.length ∨ j < B.length)) : mg A B i j = [] := by
 unfold mg rem
 rw [show A.length - i + (B.length - j) = 0 by omega]
 rfl
def cz : Cd := chP ⟨#[]⟩
def outP (A B : List Cd) : Pr → List Cd
 | (some i, some j) => if (A.getD i cz).old = (B.getD j cz).new then [] else [⟨(A.getD i cz).path, (A.getD i cz).old, (B.getD j cz).new⟩]
 | (some i, none) => [A.getD i cz]
 | (none, some j) => [B.getD j cz]
 | (none, none) => []
def badP (A B : List Cd) : Pr → Bool
 | (some i, some j) => !decide ((A.getD i cz).new = (B.getD j cz).old)
 | _ => false
def outs (A B : List Cd) (L : List Pr) : List Cd := (L.map (outP A B)).flatten
def wrong (A B : List Cd) (L : List Pr) : Bool := L.any (badP A B)
def thenE (A B : List Cd) : Int := if riseB none A && riseB none B then (if wrong A B (mg A B 0 0) then 131 else 0) else 130
def thenR (A B : List Cd) : List Cd := if thenE A B = 0 then outs A B (mg A B 0 0) else []
theorem getD_of {A : List Cd} {i : Nat} {x : Cd} (h : A[i]? = some x) : A.getD i cz = x := by simp [List.getD, h]
theorem itm_neg {A B : List Cd} {i j : Nat} (h : ordA A B i j < 0) : itm A B i j = (some i, none) ∧ ni A B i j = i + 1 ∧ nj A B i j = j := by
 unfold itm ni nj
 rw [if_pos (by omega), if_neg (by omega), if_pos (by omega), if_neg (by omega)]
 exact ⟨rfl, rfl, rfl⟩
theorem itm_pos {A B : List Cd} {i j : Nat} (h : 0 < ordA A B i j) : itm A B i j = (none, some j) ∧ ni A B i j = i ∧ nj A B i j = j + 1 := by
 unfold itm ni nj
 rw [if_neg (by omega), if_pos (by omega), if_neg (by omega), if_pos (by omega)]
 exact ⟨rfl, rfl, rfl⟩
theorem itm_zero {A B : List Cd} {i j : Nat} (h : ordA A B i j = 0) : itm A B i j = (some i, some j) ∧ ni A B i j = i + 1 ∧ nj A B i j = j + 1 := by
 unfold itm ni nj
 rw [if_pos (by omega), if_pos (by omega), if_pos (by omega), if_pos (by omega)]
 exact ⟨rfl, rfl, rfl⟩
theorem snoc_mg {A B : List Cd} {i j : Nat} {pre : List Pr} (hc : i < A.length ∨ j < B.length) (h : pre ++ mg A B i j = mg A B 0 0) : (pre ++ [itm A B i j]) ++ mg A B (ni A B i j) (nj A B i j) = mg A B 0 0 := by
 rw [List.append_assoc, List.singleton_append, ← mg_step hc]; exact h
end Go.Proofs.YthfcanpkhjgomaaGreat.Th
namespace Go.Proofs.YthfcanpkhjgomaaGreat
open Go.RowKit
open Ch (Cd riseB)
open Th (mg itm ni nj ordA outs outP badP wrong getD_of mg_step mg_done itm_neg itm_pos itm_zero rem rem_next)
open DO (vz)
end Go.Proofs.YthfcanpkhjgomaaGreat
namespace Go.Proofs.YthfcanpkhjgomaaGreat
open Go.RowKit
open Ch (Cd riseB)
open Th (mg outs wrong thenE thenR)
open DO (vz)
theorem Dd.at {t u : T3} {D : List DO.Dif} (h : Dd t u D) : ∀ x ∈ D.map toC, vcV x.old = vl t (cutN x.path) ∧ vcV x.new = vl u (cutN x.path) ∧ vl t (cutN x.path) ≠ vl u (cutN x.path) ∧ splitE (tl x.path) 64 = 0 := fun x hx => by
 obtain ⟨h1, h2, h3⟩ := h.cn _ (List.mem_map_of_mem (f := toN) hx)
 have h1' : vcV x.old = vl t (cutN x.path) := h1
 have h2' : vcV x.new = vl u (cutN x.path) := h2
 have h3' : vcV x.old ≠ vcV x.new := h3
 rw [h1', h2'] at h3'
 exact ⟨h1', h2', h3', h.split x hx⟩
theorem Dd.has {t u : T3} {D : List DO.Dif} (h : Dd t u D) (M : List ByteArray) (hM : vl t M ≠ vl u M) : ∃ x ∈ D.map toC, cutN x.path = M := by
 obtain ⟨c, hc, e⟩ := h.cn_all M hM
 obtain ⟨x, hx, rfl⟩ := List.mem_map.1 hc
 exact ⟨x, hx, e⟩
end Go.Proofs.YthfcanpkhjgomaaGreat
