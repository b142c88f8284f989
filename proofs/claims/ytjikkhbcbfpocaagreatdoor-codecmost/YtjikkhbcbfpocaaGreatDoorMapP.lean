import Derived.Test.YtjikkhbcbfpocaaGreatDoorNodeI
namespace Go.Proofs.YtjikkhbcbfpocaaGreatDoor
open Go.RowKit
def F.mp (fv : Vd → Vd) (fm : Md → Md) : F → F
 | .nil => .nil
 | .cons nm v m ks r => .cons nm (fv v) (fm m) (F.mp fv fm ks) (F.mp fv fm r)
theorem F.mp_len (fv : Vd → Vd) (fm : Md → Md) : ∀ f : F, (f.mp fv fm).len = f.len
 | .nil => rfl
 | .cons _ _ _ _ r => by simp only [F.mp, F.len, F.mp_len fv fm r]
theorem F.mp_weight (fv : Vd → Vd) (fm : Md → Md) : ∀ f : F, (f.mp fv fm).weight = f.weight
 | .nil => rfl
 | .cons _ _ _ k r => by simp only [F.mp, F.weight, F.mp_weight fv fm k, F.mp_weight fv fm r]
theorem F.mp_drop (fv : Vd → Vd) (fm : Md → Md) : ∀ (f : F) (k : Nat), (f.mp fv fm).drop k = (f.drop k).mp fv fm
 | f, 0 => by rw [F.drop_zero, F.drop_zero]
 | .nil, k + 1 => rfl
 | .cons _ _ _ _ r, k + 1 => by show (r.mp fv fm).drop k = _; rw [F.mp_drop fv fm r k]; rfl
def MI (fv : Vd → Vd) (fm : Md → Md) (w : World) (B : Nat) (c : Array Value) (ks : F) (u : Value) (wr : World) (k : Nat) : Prop :=
 G w wr ∧ Var wr B c ∧ Var wr (B + 1) z30 ∧ B + 2 ≤ wr.heap.size ∧ ∃ (ys zs : List Value) (T : Nat → Prop), wr.ownsRow (B + 2) 30 41 u ks.len (ys ++ zs) ∧ jd wr T ((ks.mp fv fm).take k) ys ∧ jd wr T (ks.drop k) zs ∧ ys.length = k * 41 ∧ ∀ b, T b → B + 2 ≤ b ∧ UO wr b ∧ some b ≠ u.ownBlock
theorem MI.at {fv : Vd → Vd} {fm : Md → Md} {w : World} {B : Nat} {c : Array Value} {ks : F} {g N cap : Nat} {wr : World} {k : Nat} (h : MI fv fm w B c ks (.slice (some ⟨g, 0, none⟩) N cap) wr k) {nm : ByteArray} {v : Vd} {m : Md} {ks1 r : F} (hd : ks.drop k = .cons nm v m ks1 r) :
  ∃ c1, Lies wr g (k * 41) c1 ∧ c1.size = 41 ∧ HasN wr c1 nm v m ks1 := by
 obtain ⟨_, _, _, _, ys, zs, T, ho, _, hz, hy, _⟩ := h
 rw [hd] at hz
 obtain ⟨kv, zs', rfl, hs, _⟩ := hz
 refine ⟨nc nm v m kv, fun j x hj => ?_, jE .., kv, rfl, hs.has⟩
 have hlt := (gS hj)
 rw [jE] at hlt
 have := ho.cells (g := g) rfl (k * 41 + j) x (by
  rw [List.getElem?_append_right (by omega), hy, show k * 41 + j - k * 41 = j by omega, List.getElem?_append_left (by simp [jE]; omega)]
  simpa using hj)
 rwa [Addr.add_mid, Nat.zero_add] at this
theorem pI (ys a b zs : List Value) (h : a.length = b.length) : over (ys ++ (a ++ zs)) ys.length b = ys ++ b ++ zs := by
 unfold over
 rw [List.take_append_of_le_length (Nat.le_refl _), List.take_length, List.drop_append, List.drop_of_length_le (l := ys) (by omega), show ys.length + b.length - ys.length = b.length by omega, List.drop_append, List.drop_of_length_le (l := a) (by omega), h]
 simp
theorem MI.step {fv : Vd → Vd} {fm : Md → Md} {w : World} {B : Nat} {c : Array Value} {ks : F} {g N cap : Nat} {wr w2 w3 : World} {k : Nat} (h : MI fv fm w B c ks (.slice (some ⟨g, 0, none⟩) N cap) wr k) {nm : ByteArray} {v : Vd} {m : Md} {ks1 r : F} (hd : ks.drop k = .cons nm v m ks1 r)
  {W : World} (hW : G wr W) {c1 : Array Value} (hn : kV w2 (New W w2) c1 nm (fv v) (fm m) (ks1.mp fv fm)) (hg : G W w2) (hg3 : G w2 w3) (hwB : w.heap.size = B) (hN : ks.len = N) :
  w3.there g (k * 41) 41 ∧ MI fv fm w B c ks (.slice (some ⟨g, 0, none⟩) N cap) (w3.setCells g (k * 41) c1.toList) (k + 1) := by
 obtain ⟨h1, h2, h3, h4, ys, zs, T, ho, hy, hz, hyl, hT⟩ := h
 subst hN
 rw [hd] at hz
 obtain ⟨kv, zs', rfl, hs, hz'⟩ := hz
 obtain ⟨kv2, rfl, hk2⟩ := hn
 have hG := (hW.trans hg).trans hg3
 have ho3 := zK ho hG
 have hgb := (World.ownsRow.lt ho g rfl)
 have hs1 := hW.size
 have hs2 := hg.size
 have hs3 := hg3.size
 have hl : (nc nm v m kv).toList.length = 41 := by simp [jE]
 have hl2 : (nc nm (fv v) (fm m) kv2).toList.length = 41 := by simp [jE]
 have hle : k * 41 + 41 ≤ (ys ++ ((nc nm v m kv).toList ++ zs')).length := by rw [lA, lA, hl, hyl]; omega
 have hst := kq (nc nm (fv v) (fm m) kv2).toList (k * 41) w3 _ ho3 (by rw [hl2]; exact hle)
 rw [← hyl, pI _ _ _ _ (by rw [hl, hl2])] at hst
 rw [hyl] at hst
 have hoth : ∀ b, b ≠ g → (w3.setCells g (k * 41) (nc nm (fv v) (fm m) kv2).toList).heap[b]? = w3.heap[b]? := fun b hb => jS g _ _ _ b hb
 have hsz := hst.2.size
 refine ⟨xX ho3 _ _ hle, ?_, (hoth B (by omega)).trans (h2.grow hG), (hoth (B + 1) (by omega)).trans (h3.grow hG), by omega, ys ++ (nc nm (fv v) (fm m) kv2).toList, zs', fun b => T b ∨ New W w2 b, hst.1, ?_, ?_, by rw [lA, hyl, hl2]; omega, ?_⟩
 ·exact Below.trans (B := w.heap.size) (h1.trans hG) ((Below.refl _ _).grown hst.2 (by have := h1.size; omega) fun x hx => by injection hx with hx; omega)
 ·have hdm : (ks.mp fv fm).drop k = .cons nm (fv v) (fm m) (ks1.mp fv fm) (r.mp fv fm) := by rw [F.mp_drop, hd]; rfl
  rw [F.yv _ k nm _ _ _ _ hdm]
  refine jd.snoc (hk2.keep fun b hb => ⟨?_, .inr hb⟩) (hy.keep fun b hb => ⟨?_, .inl hb⟩)
  ·rw [hoth b (by have := hb.1; omega)]
   exact Below.block hg3 b hb.2.lt
  ·have := hT b hb
   rw [hoth b (fun e => this.2.2 (by rw [e]; rfl))]
   exact Below.block hG b this.2.1.lt
 ·have hdr : ks.drop (k + 1) = r := by
   have hlen : k < ks.len := by
    have := congrArg F.len hd
    rw [F.yd, F.len] at this
    omega
   obtain ⟨_, _, _, _, e⟩ := F.yu ks k hlen
   rw [hd] at e
   injection e with _ _ _ _ e
   exact e.symm
  rw [hdr]
  refine hz'.keep fun b hb => ⟨?_, .inl hb⟩
  have := hT b hb
  rw [hoth b (fun e => this.2.2 (by rw [e]; rfl))]
  exact Below.block hG b this.2.1.lt
 ·rintro b (hb | hb)
  ·have := hT b hb
   exact ⟨this.1, this.2.1.same ((hoth b (fun e => this.2.2 (by rw [e]; rfl))).trans (Below.block hG b this.2.1.lt)), this.2.2⟩
  ·have q1 := hb.1
   have q2 := hb.2.lt
   exact ⟨by omega, hb.2.same ((hoth b (by omega)).trans (Below.block hg3 b q2)), fun e => by have e : some b = some g := e; injection e with e; omega⟩
theorem MI.fin {fv : Vd → Vd} {fm : Md → Md} {w : World} {B : Nat} {c : Array Value} {ks : F} {u : Value} {wr : World} (h : MI fv fm w B c ks u wr ks.len) : zV wr (fun b => B + 2 ≤ b ∧ UO wr b) u (ks.mp fv fm) := by
 obtain ⟨h1, h2, h3, h4, ys, zs, T, ho, hy, hz, hyl, hT⟩ := h
 rw [F.yg _ _ (by rw [F.mp_len]; exact Nat.le_refl _)] at hy
 have hzn : zs = [] := by
  have e : ks.drop ks.len = .nil := by
   cases hq : ks.drop ks.len with
   | nil => rfl
   | cons a b c d e =>
    have := congrArg F.len hq
    rw [F.yd, F.len] at this
    omega
  rw [e] at hz
  exact hz
 subst hzn
 rw [List.append_nil] at ho
 exact jd.slice (lo := B + 2) (hy.keep fun b hb => ⟨rfl, (hT b hb).1, (hT b hb).2.1⟩) (by rw [F.mp_len]; exact ho) (fun g hg => lG ho g hg)
end Go.Proofs.YtjikkhbcbfpocaaGreatDoor
