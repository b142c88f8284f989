import Derived.Test.YtbjjbgaomoihaaaGreatDoorRow
import Derived.RangeFuncBound
import Derived.RangeFuncNested
import Derived.OwnWalkIn
import Derived.TacticsInMore
namespace Go.Proofs.YtbjjbgaomoihaaaGreatDoor
open Go.RowKit Go.Shelf
section
variable {ops : Array Oper} {Q : Exit → Act → World → Prop} {md : Region.Mode} {n : Nat}
theorem wp_region_I {id : Nat} {a : Act} {w : World} (h : wpAnyIn Fence.wide n Tryz.prog .any ops Q ops.size (Array.replicate ops.size false) a w.drew) : (Code.region id ops true).wpIn Fence.wide n Tryz.prog Q a w :=
  wpIn_region_any (by kernel_rfl) h
theorem takeI (i d : Nat) (v : Value) {oi : Oper} {fuel : Nat} {listed : Array Bool} {a : Act} {w : World} (hi : ops[i]? = some oi) (hd : oi.dst = some d)
    (hs : Region.noSelect ops = true) (hf : Region.free md ops listed i = true) (hr : (Region.ready md ops listed).contains i = true)
    (hQ : ∀ c a w, Q (.panic c) (a.put (some d) v) w → Q (.panic c) a w) (hw : Region.wanted oi (yielded ops a.tmps) = true) (ha : ∀ w, oi.about Tryz.prog w a.eval = none) (hy : ∀ w, (execOp a.eval oi).run Tryz.prog w = .ok (.value v) w)
    (h : wpAnyIn Fence.wide n Tryz.prog md ops Q fuel (listed.setIfInBounds i true) (a.put (some d) v) w) : wpAnyIn Fence.wide n Tryz.prog md ops Q (fuel + 1) listed a w :=
  wpAnyIn_take rfl hi hs hf hr (by rw [hd]; exact hQ) ⟨.inl ⟨hw, hy⟩, ha⟩ (by rw [hd]; exact h)
theorem skipI (i d : Nat) {oi : Oper} {fuel : Nat} {listed : Array Bool} {a : Act} {w : World} (hi : ops[i]? = some oi) (hd : oi.dst = some d)
    (hs : Region.noSelect ops = true) (hf : Region.free md ops listed i = true) (hr : (Region.ready md ops listed).contains i = true)
    (hQ : ∀ c a w, Q (.panic c) (a.put (some d) undef) w → Q (.panic c) a w) (hw : Region.wanted oi (yielded ops a.tmps) = false) (ha : ∀ w, oi.about Tryz.prog w a.eval = none)
    (h : wpAnyIn Fence.wide n Tryz.prog md ops Q fuel (listed.setIfInBounds i true) (a.put (some d) undef) w) : wpAnyIn Fence.wide n Tryz.prog md ops Q (fuel + 1) listed a w :=
  wpAnyIn_take rfl hi hs hf hr (by rw [hd]; exact hQ) ⟨.inr ⟨hw, rfl⟩, ha⟩ (by rw [hd]; exact h)
theorem valueI (i d : Nat) (v : Value) (w' : World) {oi : Oper} {fuel : Nat} {listed : Array Bool} {a : Act} {w : World} {rs : List Nat} (hi : ops[i]? = some oi) (hd : oi.dst = some d) (hw : Region.wanted oi (yielded ops a.tmps) = true)
    (hx : (execOp a.eval oi).run Tryz.prog w = .ok (.value v) w') (h : wpAnyIn Fence.wide n Tryz.prog md ops Q fuel (listed.setIfInBounds i true) (a.put (some d) v) w')
    (hs : AllReadyIn Fence.wide n Tryz.prog md ops Q fuel listed a w rs) : AllReadyIn Fence.wide n Tryz.prog md ops Q fuel listed a w (i :: rs) := by
  refine AllReadyIn.cons hi (fun K hK => ?_) hs
  rw [if_pos hw]
  refine ⟨fun _ _ => trivial, ?_⟩
  rw [show (Fence.wide).round = none from rfl, Oper.semAt_none, hx, Oper.uponIn_value, hd]
  exact hK _ _ h
theorem skipCallI (i d : Nat) {oi : Oper} {fuel : Nat} {listed : Array Bool} {a : Act} {w : World} {rs : List Nat} (hi : ops[i]? = some oi) (hd : oi.dst = some d) (hw : Region.wanted oi (yielded ops a.tmps) = false)
    (h : wpAnyIn Fence.wide n Tryz.prog md ops Q fuel (listed.setIfInBounds i true) (a.put (some d) undef) w)
    (hs : AllReadyIn Fence.wide n Tryz.prog md ops Q fuel listed a w rs) : AllReadyIn Fence.wide n Tryz.prog md ops Q fuel listed a w (i :: rs) := by
  refine AllReadyIn.cons hi (fun K hK => ?_) hs
  rw [if_neg (by rw [hw]; simp), hd]
  exact ⟨fun _ _ => trivial, hK _ _ h⟩
theorem callI (i d : Nat) (f : FuncId) (args : Array Value) {oi : Oper} {fuel : Nat} {listed : Array Bool} {a : Act} {w : World} {rs : List Nat} (hi : ops[i]? = some oi) (hd : oi.dst = some d) (hw : Region.wanted oi (yielded ops a.tmps) = true)
    (hx : (execOp a.eval oi).run Tryz.prog w = .ok (.enter f args) w) (hc : CallsIn Fence.wide (n - 1) Tryz.prog f args w fun e w' => ∃ v, e = .returned v ∧ wpAnyIn Fence.wide n Tryz.prog md ops Q fuel (listed.setIfInBounds i true) (a.put (some d) v) w')
    (hs : AllReadyIn Fence.wide n Tryz.prog md ops Q fuel listed a w rs) : AllReadyIn Fence.wide n Tryz.prog md ops Q fuel listed a w (i :: rs) := by
  refine AllReadyIn.cons hi (fun K hK => ?_) hs
  rw [if_pos hw]
  refine ⟨fun _ _ => trivial, ?_⟩
  rw [show (Fence.wide).round = none from rfl, Oper.semAt_none, hx, Oper.uponIn_enter, hd]
  refine ⟨fun h => (by cases h), hc.mono ?_⟩
  rintro e w' ⟨v, rfl, h⟩
  exact hK _ _ h
theorem roundI (i d l : Nat) {oi : Oper} {fuel : Nat} {listed : Array Bool} {a : Act} {w : World} {rs : List Nat} (f : FuncId) (tmps : Array Value) (assign body : Code) (hi : ops[i]? = some oi) (hd : oi.dst = some d) (hw : Region.wanted oi (yielded ops a.tmps) = true)
    (hx : (execOp a.eval oi).run Tryz.prog w = .ok (.round l f tmps assign body) w) (hc : RoundIn Fence.wide (n - 1) Tryz.prog l f tmps assign body w fun e w' => ∃ v, e = .returned v ∧ wpAnyIn Fence.wide n Tryz.prog md ops Q fuel (listed.setIfInBounds i true) (a.put (some d) v) w')
    (hs : AllReadyIn Fence.wide n Tryz.prog md ops Q fuel listed a w rs) : AllReadyIn Fence.wide n Tryz.prog md ops Q fuel listed a w (i :: rs) := by
  refine AllReadyIn.cons hi (fun K hK => ?_) hs
  rw [if_pos hw]
  refine ⟨fun _ _ => trivial, ?_⟩
  rw [show (Fence.wide).round = none from rfl, Oper.semAt_none, hx, Oper.uponIn_round, hd]
  refine ⟨fun h => (by cases h), hc.mono ?_⟩
  rintro e w' ⟨v, rfl, h⟩
  exact hK _ _ h
end
end Go.Proofs.YtbjjbgaomoihaaaGreatDoor
