import Derived.Test.YtbjjbgaomoihaaaGreatDoorGh
import Derived.Test.YtbjjbgaomoihaaaGreatDoorFd
namespace Go.Proofs.YtbjjbgaomoihaaaGreatDoor
open Go.RowKit
def behF : F → ByteArray → List ByteArray
  | .nil, _ => []
  | .cons n _ _ k r, q => behF k (bel q n) ++ (bel q n :: behF r q)
theorem behF_len : ∀ (f : F) (q : ByteArray), (behF f q).length = f.size
  | .nil, _ => rfl
  | .cons n v m k r, q => by
    rw [behF, List.length_append, List.length_cons, behF_len k, behF_len r, F.size]
    omega
def kindsF : F → Prop
  | .nil => True
  | .cons _ v _ k r => (v.kind = 1 ∨ k = .nil) ∧ kindsF k ∧ kindsF r
def tld : List Kid → F
  | [] => .nil
  | x :: r => .cons ⟨#[]⟩ x.v x.m x.k.flat (tld r)
theorem tld_app : ∀ a b : List Kid, tld (a ++ b) = (tld a).app (tld b)
  | [], _ => rfl
  | x :: a, b => by rw [List.cons_append, tld, tld, F.app, tld_app a b]
theorem tld_kids : ∀ l : List Kid, tld l = (kidsF l).blank
  | [] => rfl
  | x :: l => by rw [tld, kidsF, F.blank, tld_kids l]
theorem tld_len : ∀ l : List Kid, (tld l).len = l.length
  | [] => rfl
  | x :: l => by rw [tld, F.len, List.length_cons, tld_len l]
def behK : List Kid → ByteArray → List ByteArray
  | [], _ => []
  | x :: r, q => behF x.k.flat (bel q x.nm) ++ (bel q x.nm :: behK r q)
theorem behK_app (q : ByteArray) : ∀ a b : List Kid, behK (a ++ b) q = behK a q ++ behK b q
  | [], _ => rfl
  | x :: a, b => by rw [List.cons_append, behK, behK, behK_app q a b, List.append_assoc, List.cons_append]
theorem behK_kids (q : ByteArray) : ∀ l : List Kid, behK l q = behF (kidsF l) q
  | [] => rfl
  | x :: l => by rw [behK, kidsF, behF, behK_kids q l]
theorem kidsF_pre {a b : List Kid} (h : a <+: b) : (kidsF a).size ≤ (kidsF b).size := by
  obtain ⟨t, rfl⟩ := h
  induction a with
  | nil => simp [kidsF, F.size]
  | cons x a ih => simp only [List.cons_append, kidsF, F.size]; omega
theorem kids_kinds : ∀ {l : List Kid}, kindsF (kidsF l) → ∀ x ∈ l, (x.v.kind = 1 ∨ x.k.flat = .nil) ∧ kindsF x.k.flat
  | [], _, x, h => by cases h
  | z :: l, ⟨h1, h2, h3⟩, x, h => by
    rcases List.mem_cons.1 h with h | h
    · subst h; exact ⟨h1, h2⟩
    · exact kids_kinds h3 x h
def fvc (Mb : Nat) : Value := .func (.func 8) #[.pointer (some ⟨Mb, 0, none⟩)] #[]
def yvc (Mb : Nat) : Value := .func (.func 21) #[.agg #[fvc Mb]] #[]
def TOut (lo Mb Kb : Nat) (pre : List ByteArray) (M : Nat → Prop) (v : Vd) (m : Md) (f : F) (W : World) (e : Ending) (w' : World) : Prop :=
  ∃ c' M' pv' B', e = .returned (.agg c') ∧ HasNP w' (fun b => W.heap.size ≤ b ∧ ¬ M' b ∧ Cls w' b) c' ⟨#[]⟩ v m f ∧ Mt lo Mb Kb pre.length pre M' w' pv' B' ∧ Kw M W w' ∧ ∀ b, M' b → M b ∨ W.heap.size ≤ b
def ThingOk (w0 : World) (Mb Kb : Nat) (k : K) : Prop := ∀ (p : Nat) (v : Vd) (m : Md) (q : ByteArray) (pre : List ByteArray) (M : Nat → Prop) (pv : Value) (Bp : Nat → Prop) (W : World), AtT w0 p v m k → G w0 W → Mt w0.heap.size Mb Kb pre.length pre M W pv Bp → namesF k.flat → (v.kind = 1 ∨ k.flat = .nil) → kindsF k.flat → q.size + 256 * k.flat.depth ≤ 1000000 → k.flat.size ≤ 1000 → pre.length + k.flat.size ≤ 50000 →
  Calls Tryz.prog 21 #[.agg #[fvc Mb], .string q, .pointer (some ⟨p, 0, none⟩)] W (TOut w0.heap.size Mb Kb (pre ++ (behF k.flat q ++ [q])) M v m k.flat W)
def GOut (lo Mb Kb : Nat) (pre : List ByteArray) (M : Nat → Prop) (f : F) (W : World) (e : Ending) (w' : World) : Prop :=
  ∃ un ut xs T M' pv' B', e = .returned (.tuple #[un, ut]) ∧ Kw M W w' ∧ Mt lo Mb Kb pre.length pre M' w' pv' B' ∧ w'.ownsRow (W.heap.size + 2) 9 1 un f.len (f.nameL.map Value.string) ∧ w'.ownsRow (W.heap.size + 2) 30 41 ut f.len xs ∧ RCells w' T f.blank xs ∧
    (∀ b, T b → W.heap.size ≤ b ∧ Cls w' b ∧ ut.ownBlock ≠ some b ∧ un.ownBlock ≠ some b ∧ ¬ M' b) ∧ ∀ b, M' b → (M b ∨ W.heap.size ≤ b) ∧ un.ownBlock ≠ some b ∧ ut.ownBlock ≠ some b
def GatherOk (w0 : World) (Mb Kb : Nat) (k : K) : Prop := ∀ (p : Nat) (v : Vd) (m : Md) (q : ByteArray) (pre : List ByteArray) (M : Nat → Prop) (pv : Value) (Bp : Nat → Prop) (W : World), AtT w0 p v m k → G w0 W → Mt w0.heap.size Mb Kb pre.length pre M W pv Bp → namesF k.flat → kindsF k.flat → q.size + 256 * k.flat.depth ≤ 1000000 → k.flat.size ≤ 1000 → pre.length + k.flat.size ≤ 50000 →
  Calls Tryz.prog 37 #[.string q, .pointer (some ⟨p, 0, none⟩), yvc Mb] W (GOut w0.heap.size Mb Kb (pre ++ behF k.flat q) M k.flat W)
theorem Kw.others {S : Nat → Prop} {W W' : World} (h : Kw S W W') (hS : ∀ b, S b → Cls W b) : KeepsOthers W W' := ⟨h.size, fun b o hb ho => (h.block b (Array.getElem?_eq_some_iff.1 hb).1 fun e => by
  obtain ⟨o', h1, h2⟩ := hS b e
  rw [hb] at h1
  cases h1
  rw [ho] at h2
  cases h2).trans hb⟩
def F6 (lo Mb Kb : Nat) (pre : List ByteArray) (M : Nat → Prop) (v : Vd) (m : Md) (f : F) (Wd : World) (c : Array Value) (w : World) : Prop :=
  ∃ M2 pv2 B2, HasNP w (fun b => Wd.heap.size ≤ b ∧ ¬ M2 b ∧ Cls w b) c ⟨#[]⟩ v m f ∧ Mt lo Mb Kb pre.length pre M2 w pv2 B2 ∧ Kw M Wd w ∧ ∀ b, M2 b → M b ∨ Wd.heap.size ≤ b
def F8 (lo Mb Kb : Nat) (pre : List ByteArray) (M : Nat → Prop) (v : Vd) (m : Md) (f : F) (Wd : World) (D : Nat) (c : Array Value) (w : World) : Prop :=
  F6 lo Mb Kb pre M v m f Wd c w ∧ Lies w D 0 z30
theorem F6.up {lo Mb Kb : Nat} {pre : List ByteArray} {M : Nat → Prop} {v : Vd} {m : Md} {f : F} {Wd w w' : World} {c : Array Value} (h : F6 lo Mb Kb pre M v m f Wd c w) (hg : G w w') : F6 lo Mb Kb pre M v m f Wd c w' := by
  obtain ⟨M2, pv2, B2, ⟨kv, h1, hk⟩, h2, h3, h4⟩ := h
  refine ⟨M2, pv2, B2, ⟨kv, h1, hk.keep fun b ⟨k1, k2, k3⟩ => ?_⟩, h2.up hg, h3.trans (Kw.of (S := M) hg) fun _ _ e => e, h4⟩
  have e := Below.block hg b k3.lt
  exact ⟨e, k1, k2, k3.of e⟩
theorem TOut.to6 {lo Mb Kb : Nat} {pre : List ByteArray} {M : Nat → Prop} {v : Vd} {m : Md} {f : F} {Wd W w : World} {e : Ending} (h : TOut lo Mb Kb pre M v m f W e w) (hg : G Wd W) : ∃ c, e = .returned (.agg c) ∧ F6 lo Mb Kb pre M v m f Wd c w := by
  obtain ⟨c', M', pv', B', rfl, ⟨kv, h1, hk⟩, h2, h3, h4⟩ := h
  have hs := hg.size
  exact ⟨c', rfl, M', pv', B', ⟨kv, h1, hk.keep fun b ⟨k1, k2, k3⟩ => ⟨rfl, by omega, k2, k3⟩⟩, h2, (Kw.of (S := M) hg).trans h3 fun _ _ e => e, fun b hb => (h4 b hb).imp id fun k => by omega⟩
end Go.Proofs.YtbjjbgaomoihaaaGreatDoor
