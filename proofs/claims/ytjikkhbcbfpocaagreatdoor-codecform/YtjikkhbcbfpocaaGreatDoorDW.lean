import Derived.Test.YtjikkhbcbfpocaaGreatDoorDS
namespace Go.Proofs.YtjikkhbcbfpocaaGreatDoor
open Go.RowKit Go.Shelf
structure PlS (l : List Int) (s : Wi.St) : Prop where
 p : s.p ≤ l.length
 fa : s.fe = 12 → 0 ≤ s.fa ∧ s.fa ≤ l.length
structure Pl (l : List Int) (r : Rv) : Prop where
 s : PlS l r.s
 flt : ∀ x, r.flt = some x → (0 ≤ x.1 ∧ x.1 ≤ l.length) ∧ (x.2 = 63 ∨ x.2 = 64)
 st : ∀ x ∈ r.st, x.pl ≤ l.length
theorem Pl.ref {l : List Int} {r : Rv} (h : Pl l r) {a e : Int} (ha : 0 ≤ a ∧ a ≤ l.length) (he : e = 63 ∨ e = 64) : Pl l (refR a e r) := by
 refine ⟨h.s, fun x hx => ?_, h.st⟩
 unfold refR at hx
 simp only [Option.some.injEq] at hx
 subst hx
 cases q : r.flt with
 | none => exact ⟨ha, he⟩
 | some y => exact h.flt y q
theorem Pl.must {l : List Int} {r : Rv} (h : Pl l r) {a : Int} (ok : Bool) (ha : 0 ≤ a ∧ a ≤ l.length) : Pl l (mustR a ok r) := by
 unfold mustR
 split
 ·exact h.ref ha (.inl rfl)
 ·exact h
theorem Pl.bound {l : List Int} {r : Rv} (h : Pl l r) : Pl l (boundR r) := by
 unfold boundR
 split
 ·exact h.ref (h.s.fa (by assumption)) (.inr rfl)
 ·exact h
theorem Pl.wire {l : List Int} {r : Rv} (h : Pl l r) {s : Wi.St} (hs : PlS l s) : Pl l { r with s := s } := ⟨hs, h.flt, h.st⟩
theorem PlS.at {l : List Int} {s : Wi.St} (h : PlS l s) : 0 ≤ (s.p : Int) ∧ (s.p : Int) ≤ l.length := by have := h.p; omega
theorem PlS.uint {l : List Int} {s : Wi.St} (h : PlS l s) (most : Nat) : PlS l (Wi.uintS l s most).2 := by
 unfold Wi.uintS
 split
 ·exact h
 ·split
  ·rename_i n k q
   have := (Wire.rd_le _ _ _ _ q).2
   rw [List.length_drop] at this
   have hp := h.p
   split
   ·exact ⟨by simp only; omega, h.fa⟩
   ·exact ⟨h.p, fun _ => h.at⟩
  ·exact ⟨h.p, fun q => by simp at q⟩
  ·exact ⟨h.p, fun q => by simp at q⟩
theorem PlS.byte {l : List Int} {s : Wi.St} (h : PlS l s) : PlS l (Wi.byteS l s).2 := by
 unfold Wi.byteS
 split
 ·exact h
 ·split
  ·exact ⟨by simp only; omega, h.fa⟩
  ·exact ⟨h.p, fun q => by simp at q⟩
theorem PlS.raw {l : List Int} {s : Wi.St} (h : PlS l s) (n : Int) : PlS l (Wi.rawS l s n) := by
 unfold Wi.rawS
 split
 ·exact h
 ·split
  ·exact ⟨h.p, fun q => by simp at q⟩
  ·exact ⟨by simp only; omega, h.fa⟩
theorem PlS.text {l : List Int} {s : Wi.St} (h : PlS l s) (n : Int) : PlS l (Wi.textS l s n).2 := by
 unfold Wi.textS
 split
 ·exact h
 ·split
  ·split
   ·exact ⟨h.p, fun _ => h.at⟩
   ·split
    ·exact ⟨h.p, fun q => by simp at q⟩
    ·exact ⟨by simp only; omega, h.fa⟩
  ·exact ⟨h.p, fun q => by simp at q⟩
  ·exact ⟨h.p, fun q => by simp at q⟩
theorem PlS.end {l : List Int} {s : Wi.St} (h : PlS l s) : PlS l (Wi.endS l s) := by
 unfold Wi.endS
 split
 ·exact h
 ·split
  ·exact ⟨h.p, fun q => by simp at q⟩
  ·exact h
theorem Pl.num {l : List Int} {r : Rv} (h : Pl l r) (least : Int) (most : Nat) : Pl l (numR l least most r).2 := (h.wire (h.s.uint most)).must _ h.s.at
theorem Pl.sum {l : List Int} {r : Rv} (h : Pl l r) : Pl l (sumR l r).2 := (h.wire (h.s.raw 32)).must _ h.s.at
theorem Pl.mod {l : List Int} {r : Rv} (h : Pl l r) (ver : Int) : Pl l (modR l ver r).2 := by
 unfold modR
 split
 ·exact h
 ·exact (h.wire h.s.byte).must _ h.s.at
theorem Pl.mark {l : List Int} {r : Rv} (h : Pl l r) : Pl l (markR l r).2 := by
 unfold markR
 split
 ·exact (h.num _ _).num _ _
 ·exact (h.num _ _).num _ _
theorem Pl.marks {l : List Int} {r : Rv} (h : Pl l r) (ver : Int) : Pl l (marksR l ver r).2 := by
 unfold marksR
 split
 ·exact h
 ·exact h.mark.mark
theorem Pl.con {l : List Int} {r : Rv} (h : Pl l r) (least : Int) (most : Nat) : Pl l (conR l least most r).2 := (h.num _ _).sum
theorem Pl.name {l : List Int} {r : Rv} (h : Pl l r) (last : ByteArray) : Pl l (nameR l last r).2 := (h.wire (h.s.text 255)).bound.must _ h.s.at
theorem Pl.pre {l : List Int} {r : Rv} (h : Pl l r) (deep : Nat) : Pl l (preR deep r) := by
 unfold preR
 split
 ·exact h.ref h.s.at (.inl rfl)
 ·split
  ·exact h.ref h.s.at (.inr rfl)
  ·exact h
theorem Pl.kind {l : List Int} {r : Rv} (h : Pl l r) (deep : Nat) : Pl l (kindR l deep r).2 := by
 have q : Pl l (mustR r.s.p (kOk deep (Wi.byteS l r.s).1) { preR deep r with s := (Wi.byteS l r.s).2 }) := ((h.pre deep).wire h.s.byte).must _ h.s.at
 exact ⟨q.s, q.flt, q.st⟩
theorem Pl.head {l : List Int} {r : Rv} (h : Pl l r) (u : Option (List ByteArray)) (last : ByteArray) : Pl l (headR l u last r).2 := by
 unfold headR nameO
 cases u with
 | none => exact h.kind _
 | some x => exact (h.kind _).name _
theorem Pl.kids {l : List Int} (nd : ByteArray → Rv → Nd × Rv) (hn : ∀ last r, Pl l r → Pl l (nd last r).2) : ∀ (n : Nat) (f : F) (last : ByteArray) (r : Rv), Pl l r → Pl l (kidL nd n f last r).2
 | 0, _, _, _, h => h
 | n + 1, f, last, r, h => by
  unfold kidL
  split
  ·exact h
  ·exact Pl.kids nd hn n _ _ _ (hn last r h)
theorem Pl.kidE {l : List Int} {here : List ByteArray} {pl : Nat} {hs : List Nat} {x : Option F × Rv} (h : Pl l x.2) (hp : pl ≤ l.length) : Pl l (kidE here pl hs x).2 := by
 unfold Go.Proofs.YtjikkhbcbfpocaaGreatDoor.kidE
 split
 ·exact h
 ·exact ⟨h.s, h.flt, fun y hy => by
   rcases List.mem_append.1 hy with q | q
   ·exact h.st y q
   ·rw [List.mem_singleton.1 q]; exact hp⟩
theorem Pl.node {l : List Int} {ver : Int} : ∀ (n : Nat) (u : Option (List ByteArray)) (last : ByteArray) (r : Rv), Pl l r → Pl l (nodeR l ver n u last r).2
 | 0, _, _, _, h => ⟨h.s, h.flt, h.st⟩
 | n + 1, u, last, r, h => by
  unfold nodeR
  have hh := h.head u last
  unfold bodyR
  split
  ·exact hh
  ·split
   ·have hc := (hh.mod ver).num 0 ((modR l ver (headR l u last r).2).2.left.toNat)
    exact Pl.kidE (Pl.kids _ (fun la r' q => Pl.node n _ la r' q) _ _ _ _ hc.sum) hc.s.p
   ·split
    ·exact ((hh.con _ _).mod ver).marks ver
    ·split
     ·exact hh.con _ _
     ·exact hh
theorem Pl.nodes {l : List Int} {ver : Int} {most : Nat} {r : Rv} (h : Pl l r) : Pl l (nodesR l ver most r).2 := by
 have hA : Pl l (nodesA l most r) := by
  unfold nodesA
  have : Pl l { r with s := (Wi.uintS l r.s most).2, left := ((Wi.uintS l r.s most).1 : Int) } := ⟨h.s.uint most, h.flt, h.st⟩
  exact this.bound.must _ h.s.at
 have hN : Pl l (nodeR l ver 66 none ⟨#[]⟩ (nodesA l most r)).2 := Pl.node _ _ _ _ hA
 have hB : Pl l (nodesB l (nodeR l ver 66 none ⟨#[]⟩ (nodesA l most r)).2) := by
  unfold nodesB
  exact (hN.wire hN.s.end).must _ hN.s.end.at
 unfold nodesR nodesE
 simp only
 split
 ·exact hB.ref h.s.at (.inl rfl)
 ·exact hB
theorem dec_places {b : List Nat} {most : Int} (hB : Su.Bytes b) (hF : opF b = none) : (∀ x, (decN b most).2.flt = some x → (0 ≤ x.1 ∧ x.1 ≤ b.length) ∧ (x.2 = 63 ∨ x.2 = 64)) ∧ ∀ x ∈ (decN b most).2.st, x.pl ≤ b.length := by
 obtain ⟨_, hp, hl, _, _⟩ := open_none hB hF
 have hlen : (decL b).length = b.length - 4 := by unfold decL; rw [up_len, List.length_take]; omega
 have hR : Pl (decL b) (decR b) := ⟨⟨by show (opU b).2.p ≤ _; omega, fun q => (by cases q)⟩, fun x hx => (by cases hx), fun x hx => (by cases hx)⟩
 have h : Pl (decL b) (decN b most).2 := hR.nodes
 refine ⟨fun x hx => ?_, fun x hx => ?_⟩
 ·have := h.flt x hx
  omega
 ·have := h.st x hx
  omega
theorem open_places {b : List Nat} (hB : Su.Bytes b) {x : Int × Int} (hF : opF b = some x) : (0 ≤ x.1 ∧ (x.1 ≤ b.length ∨ x.1 ≤ 5)) ∧ (x.2 = 60 ∨ x.2 = 61 ∨ x.2 = 62) := by
 unfold opF at hF
 split at hF
 ·cases hF; simp
 ·split at hF
  ·cases hF; simp
  ·rename_i c1 c2
   split at hF
   ·cases hF
    have hle : (opU b).1 ≤ 3 := uintS_le _ _ _
    have h5 : (opU b).2.p = 5 := by
     cases hr : Wire.rd 0 ((up b).drop 4) with
     | form i =>
      have hu : opU b = (0, ⟨4, ((4 + i : Nat) : Int), 11⟩) := by unfold opU Wi.uintS; rw [if_neg (by simp), hr]
      rw [hu] at c2; exact absurd rfl c2
     | short =>
      have hu : opU b = (0, ⟨4, (up b).length, 10⟩) := by unfold opU Wi.uintS; rw [if_neg (by simp), hr]
      rw [hu] at c2; exact absurd rfl c2
     | ok n k =>
      have hu : opU b = if n ≤ 3 then (n, ⟨4 + k, 0, 0⟩) else (0, ⟨4, 4, 12⟩) := by unfold opU Wi.uintS; rw [if_neg (by simp), hr]; rfl
      by_cases hn : n ≤ 3
      case neg => rw [if_neg hn] at hu; rw [hu] at c2; exact absurd rfl c2
      rw [if_pos hn] at hu
      obtain ⟨_, e2⟩ := up_enc_take (up_bytes hB) hr
      rw [encN_small (n := n) (by omega)] at e2
      have hk : k = 1 := e2.symm
      rw [hu, hk]
    rw [h5]
    simp
   ·split at hF
    ·cases hF
    ·cases hF
     exact ⟨⟨by simp only; omega, .inl (by simp only; omega)⟩, by simp⟩
end Go.Proofs.YtjikkhbcbfpocaaGreatDoor
