import Derived.Test.YtbjjbgaomoihaaaGreatDoorFa
namespace Go.Proofs.YtbjjbgaomoihaaaGreatDoor
open Go.RowKit Go.Shelf
abbrev KidIP (w0 : World) (S : Kid → Prop) : Type := { x : Kid // AtT w0 x.p x.v x.m x.k ∧ S x }
abbrev kidsP {w0 : World} {S : Kid → Prop} (ys : List (KidIP w0 S)) : List Kid := ys.map (·.1)
theorem pre3P {w0 : World} {S : Kid → Prop} {ys qq : List (KidIP w0 S)} {x : KidIP w0 S} {ah be : K} {q : Nat} (hys : kidsP ys = ah.items) (hq : kidsP qq <+: be.items) : kidsP (ys ++ x :: qq) <+: (K.node q x.1.p x.1.nm x.1.v x.1.m x.1.k ah be).items := by
  obtain ⟨t, ht⟩ := hq
  refine ⟨t, ?_⟩
  rw [K.items, ← hys, ← ht]
  simp
theorem pre2P {w0 : World} {S : Kid → Prop} {ys : List (KidIP w0 S)} {x : KidIP w0 S} {ah be : K} {q : Nat} (hys : kidsP ys = ah.items) : kidsP (ys ++ [x]) <+: (K.node q x.1.p x.1.nm x.1.v x.1.m x.1.k ah be).items := by
  refine ⟨be.items, ?_⟩
  rw [K.items, ← hys]
  simp
end Go.Proofs.YtbjjbgaomoihaaaGreatDoor
