import Derived.Test.YtjikkhbcbfpocaaGreatDoorM2
namespace Go.Proofs.YtjikkhbcbfpocaaGreatDoor
open Go.RowKit Go.Shelf
section
variable {F : Fence} {n : Nat} {md : Region.Mode} {ops : Array Oper} {Q : Exit → Act → World → Prop} {Inv : World → Prop}
def kj (Inv : World → Prop) (ops : Array Oper) (o : Oper) (v : Value) (a : Act) : Prop :=
 (Region.wanted o (yielded ops a.tmps) = true ∧ ∀ w, Inv w → (execOp a.eval o).run Tryz.prog w = .ok (.value v) w) ∨ (Region.wanted o (yielded ops a.tmps) = false ∧ v = undef)
theorem kj.of_same {o : Oper} {v : Value} {a a' : Act} (h : kj Inv ops o v a) (he : execOp a'.eval o = execOp a.eval o) (hw : Region.wanted o (yielded ops a'.tmps) = Region.wanted o (yielded ops a.tmps)) : kj Inv ops o v a' := by
 unfold kj at *
 rw [he, hw]
 exact h
theorem kj.wpOpIn (hF : ∀ f, F.fn f) {w : World} {i : Nat} {o : Oper} {v : Value} {a : Act} {K : Act → World → Prop} (h : kj Inv ops o v a) (hi : ops[i]? = some o) (hd : ∀ c, o.op ≠ .defer c) (hI : Inv w) (hk : K (a.put o.dst v) w) : wpOpIn F n Tryz.prog ops Q i K a w := by
 unfold Go.wpOpIn
 simp only [hi]
 rcases h with ⟨hw, h⟩ | ⟨hw, rfl⟩
 ·simp only [hw, if_true, Oper.wpIn]
  refine ⟨fun f _ => hF f, ?_⟩
  rw [Oper.semAt_plain _ _ _ hd, h w hI, Oper.uponIn_value]
  exact hk
 ·simp only [hw, Bool.false_eq_true, if_false]
  exact ⟨fun f _ => hF f, hk⟩
theorem bg {Inv : World → Prop} {j : Nat} {oi oj : Oper} {v : Value} (hj : ops[j]? = some oj) (hdj : ∀ c, oj.op ≠ .defer c) (hap : oi.apart ops oj = true)
  (hsi : ∀ cs b, oi.op ≠ .select cs b) (hsj : ∀ cs b, oj.op ≠ .select cs b)
  (hQ : ∀ c a w, Q (.panic c) (a.put oi.dst v) w → Q (.panic c) a w) {K : Act → World → Prop} {a : Act} {w : World}
  (hy : kj Inv ops oi v a) (h : wpOpIn F n Tryz.prog ops Q j K (a.put oi.dst v) w) :
  wpOpIn F n Tryz.prog ops Q j (fun a' w' => kj Inv ops oi v a' ∧ K (a'.put oi.dst v) w') a w := by
 obtain ⟨h1, h2, h3⟩ := Oper.apart_spec hap
 have keep : ∀ (a : Act), kj Inv ops oi v a → ∀ u, kj Inv ops oi v (a.put oj.dst u) := fun a hy u =>
  hy.of_same (execOp_put oi hsi a oj.dst u h3) (wanted_put oi a oj.dst u h3)
 have keepD : ∀ d, kj Inv ops oi v { a with defers := d :: a.defers } := fun d => hy.of_same rfl rfl
 unfold wpOpIn at *
 simp only [hj] at *
 rw [wanted_put oj a oi.dst v h1, about_put oj w a oi.dst v h1] at h
 split
 ·rename_i hw
  simp only [hw, if_true] at h
  unfold Oper.wpIn at *
  rw [about_put oj w a oi.dst v h1] at h
  refine ⟨h.1, ?_⟩
  have h := h.2
  rw [Oper.semAt_plain _ _ _ hdj, execOp_put oj hsj a oi.dst v h1] at h
  rw [Oper.semAt_plain _ _ _ hdj]
  generalize (execOp a.eval oj).run Tryz.prog w = r at *
  cases r with
  | ok x w' =>
   cases x <;> simp only [Oper.uponIn] at h ⊢
   case value u => exact ⟨keep a hy u, by rw [← Act.put_comm a v u h2]; exact h⟩
   case skip => exact ⟨keep a hy _, by rw [← Act.put_comm a v undef h2]; exact h⟩
   case defer d =>
    refine ⟨keep _ (keepD d) _, ?_⟩
    rw [← Act.put_comm _ v undef h2, ← Act.put_defers]
    exact h
   case enter f args =>
    refine ⟨h.1, CallsIn.mono h.2 fun e w'' he => ?_⟩
    cases e with
    | returned u => exact ⟨keep a hy u, by rw [← Act.put_comm a v u h2]; exact he⟩
    | panicked c => exact hQ _ _ _ he
    | outgrown => exact he
   case row row args => exact ⟨h.1, RowsIn.mono h.2 fun u w'' he => ⟨keep a hy u, by rw [← Act.put_comm a v u h2]; exact he⟩⟩
   case round l f tmps assign body =>
    refine ⟨h.1, RoundIn.mono h.2 fun e w'' he => ?_⟩
    cases e with
    | returned u => exact ⟨keep a hy u, by rw [← Act.put_comm a v u h2]; exact he⟩
    | panicked c => exact hQ _ _ _ he
    | outgrown => exact he
  | halt x w' =>
   cases x <;> simp only [Oper.uponIn] at h ⊢
   case panic u => exact hQ _ _ _ h
 ·rename_i hw
  simp only [hw] at h
  exact ⟨h.1, keep a hy _, by rw [← Act.put_comm a v undef h2]; exact h.2⟩
def wpJ (Inv : World → Prop) (F : Fence) (n : Nat) (md : Region.Mode) (ops : Array Oper) (Q : Exit → Act → World → Prop) : Nat → Array Bool → Act → World → Prop
 | 0, listed, a, w => Region.ready md ops listed = [] ∧ Q .normal a w
 | k + 1, listed, a, w => (Region.ready md ops listed = [] → Q .normal a w) ∧ ∀ i ∈ Region.ready md ops listed, wpOpIn F n Tryz.prog ops Q i (fun a' w' => Inv w' ∧ wpJ Inv F n md ops Q k (listed.setIfInBounds i true) a' w') a w
theorem wpJ.any : ∀ (k : Nat) (listed : Array Bool) (a : Act) (w : World), wpJ Inv F n md ops Q k listed a w → wpAnyIn F n Tryz.prog md ops Q k listed a w
 | 0, _, _, _, h => h
 | k + 1, _, _, _, h => ⟨h.1, fun i hi => wpOpIn_mono (fun a' w' h' => wpJ.any k _ a' w' h'.2) (h.2 i hi)⟩
theorem mg (hF : ∀ f, F.fn f) (hnd : qT ops = true) {i : Nat} {oi : Oper} {v : Value} (hi : ops[i]? = some oi) (hsel : ∀ (j : Nat) (o : Oper) cs b, ops[j]? = some o → o.op ≠ .select cs b)
  (hQ : ∀ c a w, Q (.panic c) (a.put oi.dst v) w → Q (.panic c) a w) :
  ∀ (k : Nat) (listed : Array Bool) (a : Act) (w : World), Inv w → (∀ j oj, ops[j]? = some oj → j ≠ i → listed.getD j true = false → (∀ e ∈ oj.after, Region.binds md e = true → e.on ≠ i) → oi.apart ops oj = true) →
   i ∈ Region.ready md ops listed → kj Inv ops oi v a → wpJ Inv F n md ops Q k (listed.setIfInBounds i true) (a.put oi.dst v) w → wpJ Inv F n md ops Q (k + 1) listed a w := by
 intro k
 induction k with
 | zero =>
  intro listed a w hI _ hr hy H
  refine ⟨fun e => (by rw [e] at hr; cases hr), fun j hj => ?_⟩
  by_cases hji : j = i
  ·subst hji
   exact hy.wpOpIn hF hi (jg hnd hi) hI ⟨hI, H⟩
  ·have := ready_mono hj hji
   rw [H.1] at this
   cases this
 | succ k ih =>
  intro listed a w hI hfree hr hy H
  refine ⟨fun e => (by rw [e] at hr; cases hr), fun j hj => ?_⟩
  by_cases hji : j = i
  ·subst hji
   exact hy.wpOpIn hF hi (jg hnd hi) hI ⟨hI, H⟩
  ·obtain ⟨hun, oj, hoj, hall⟩ := mem_ready.1 hj
   have hno : ∀ e ∈ oj.after, Region.binds md e = true → e.on ≠ i := fun e he hb heq => by
    have h1 := hall e he hb
    rw [heq] at h1
    have h0 := (mem_ready.1 hr).1
    by_cases hlt : i < listed.size
    ·simp [Array.getD, hlt] at h0 h1
     rw [h0] at h1
     cases h1
    ·simp [Array.getD, hlt] at h1
   have h2 := bg hoj (jg hnd hoj) (hfree j oj hoj hji hun hno) (fun cs b => hsel i oi cs b hi) (fun cs b => hsel j oj cs b hoj) hQ hy (H.2 j (ready_mono hj hji))
   refine wpOpIn_mono (fun a' w' h3 => ⟨h3.2.1, ih (listed.setIfInBounds j true) a' w' h3.2.1 ?_ (ready_mono hr (Ne.symm hji)) h3.1 ?_⟩) h2
   ·intro l ol hl hli hunl hnol
    refine hfree l ol hl hli ?_ hnol
    by_cases hjl : j = l
    ·subst hjl; exact hun
    ·rwa [getD_set_ne true hjl] at hunl
   ·rw [Array.setIfInBounds_comm _ _ hji]
    exact h3.2.2
theorem qw (Inv : World → Prop) {id : Nat} {a : Act} {w : World} (h : wpJ Inv F n .any ops Q ops.size (Array.replicate ops.size false) a w.drew) : (Code.region id ops true).wpIn F n Tryz.prog Q a w :=
 wpIn_region_any (by kernel_rfl) (wpJ.any _ _ _ _ h)
def okJ (md : Region.Mode) (ops : Array Oper) (listed : Array Bool) (i d : Nat) (oi : Oper) (t : Array Value) (b : Bool) : Bool :=
 oi.dst == some d && qT ops && Region.noSelect ops && Region.free md ops listed i && (Region.ready md ops listed).contains i && (Region.wanted oi (yielded ops t) == b)
theorem pF {listed : Array Bool} {i d : Nat} {oi : Oper} {t : Array Value} {b : Bool} (h : okJ md ops listed i d oi t b = true) : oi.dst = some d ∧ qT ops = true ∧ Region.noSelect ops = true ∧ Region.free md ops listed i = true ∧ (Region.ready md ops listed).contains i = true ∧ Region.wanted oi (yielded ops t) = b := by
 simp only [okJ, Bool.and_eq_true, beq_iff_eq] at h
 obtain ⟨⟨⟨⟨⟨h1, h2⟩, h3⟩, h4⟩, h5⟩, h6⟩ := h
 exact ⟨h1, h2, h3, h4, h5, h6⟩
theorem tJ (hL : Lets F n) (i d : Nat) (v : Value) {oi : Oper} {k : Nat} {listed l' : Array Bool} {a a' : Act} {w : World} (hI : Inv w) (hy : ∀ w, Inv w → (execOp a.eval oi).run Tryz.prog w = .ok (.value v) w) (h : wpJ Inv F n md ops Q k l' a' w) (hi : ops[i]? = some oi := by exact rfl) (hk : okJ md ops listed i d oi a.tmps true = true := by kernel_rfl) (hQ : ∀ c a w, Q (.panic c) (a.put (some d) v) w → Q (.panic c) a w := by exact fun _ _ _ h => h)
  (hl : listed.setIfInBounds i true = l' := by (first | (simp only [Act.put, sA, sB, sC] <;> exact rfl) | exact rfl)) (hp : a.put (some d) v = a' := by (first | (simp only [Act.put, sA, sB, sC] <;> exact rfl) | exact rfl)) : wpJ Inv F n md ops Q (k + 1) listed a w := by
 subst hl hp
 obtain ⟨h1, h2, h3, h4, h5, h6⟩ := pF hk
 exact mg hL.fn h2 hi (Region.noSelect_spec h3) (by rw [h1]; exact hQ) k listed a w hI (Region.free_spec hi h4) (by simpa using h5) (.inl ⟨h6, hy⟩) (by rw [h1]; exact h)
def AllJ (Inv : World → Prop) (F : Fence) (n : Nat) (md : Region.Mode) (ops : Array Oper) (Q : Exit → Act → World → Prop) (k : Nat) (listed : Array Bool) (a : Act) (w : World) (rs : List Nat) : Prop :=
 ∀ i ∈ rs, wpOpIn F n Tryz.prog ops Q i (fun a' w' => Inv w' ∧ wpJ Inv F n md ops Q k (listed.setIfInBounds i true) a' w') a w
theorem jU (rs : List Nat) {k : Nat} {listed : Array Bool} {a : Act} {w : World} (hr : Region.ready md ops listed = rs) (hne : rs ≠ []) (h : AllJ Inv F n md ops Q k listed a w rs) : wpJ Inv F n md ops Q (k + 1) listed a w :=
 ⟨fun e => absurd (hr ▸ e) hne, hr ▸ h⟩
theorem AllJ.nil {k : Nat} {listed : Array Bool} {a : Act} {w : World} : AllJ Inv F n md ops Q k listed a w [] := fun _ h => by cases h
theorem AllJ.call (hL : Lets F n) (i d : Nat) {oi : Oper} {k : Nat} {listed : Array Bool} {a : Act} {w : World} {rs : List Nat} (f : FuncId) (args : Array Value) (hi : ops[i]? = some oi) (hk : (oi.dst == some d && qT ops && Region.wanted oi (yielded ops a.tmps)) = true)
  (hx : (execOp a.eval oi).run Tryz.prog w = .ok (.enter f args) w) (hc : CallsIn F (n - 1) Tryz.prog f args w fun e w' => ∃ v, e = .returned v ∧ Inv w' ∧ wpJ Inv F n md ops Q k (listed.setIfInBounds i true) (a.put (some d) v) w')
  (hs : AllJ Inv F n md ops Q k listed a w rs) : AllJ Inv F n md ops Q k listed a w (i :: rs) := fun j hj => by
 simp only [Bool.and_eq_true, beq_iff_eq] at hk
 obtain ⟨⟨hd, hnd⟩, hw⟩ := hk
 rcases List.mem_cons.1 hj with rfl | hj
 ·unfold Go.wpOpIn
  simp only [hi, hw, if_true, Oper.wpIn]
  refine ⟨fun f _ => hL.fn f, ?_⟩
  rw [Oper.semAt_plain _ _ _ (jg hnd hi), hx, Oper.uponIn_enter]
  refine ⟨hL.dp, hc.mono ?_⟩
  rintro e w' ⟨v, rfl, hg, h⟩
  show _ ∧ _
  rw [hd]
  exact ⟨hg, h⟩
 ·exact hs j hj
theorem AllJ.value (hL : Lets F n) (i d : Nat) (v : Value) (w' : World) {oi : Oper} {k : Nat} {listed : Array Bool} {a : Act} {w : World} {rs : List Nat} (hi : ops[i]? = some oi) (hk : (oi.dst == some d && qT ops && Region.wanted oi (yielded ops a.tmps)) = true)
  (hx : (execOp a.eval oi).run Tryz.prog w = .ok (.value v) w') (hI : Inv w') (h : wpJ Inv F n md ops Q k (listed.setIfInBounds i true) (a.put (some d) v) w')
  (hs : AllJ Inv F n md ops Q k listed a w rs) : AllJ Inv F n md ops Q k listed a w (i :: rs) := fun j hj => by
 simp only [Bool.and_eq_true, beq_iff_eq] at hk
 obtain ⟨⟨hd, hnd⟩, hw⟩ := hk
 rcases List.mem_cons.1 hj with rfl | hj
 ·unfold Go.wpOpIn
  simp only [hi, hw, if_true, Oper.wpIn]
  refine ⟨fun f _ => hL.fn f, ?_⟩
  rw [Oper.semAt_plain _ _ _ (jg hnd hi), hx, Oper.uponIn_value]
  show _ ∧ _
  rw [hd]
  exact ⟨hI, h⟩
 ·exact hs j hj
theorem AllJ.skip (hL : Lets F n) (i : Nat) (w' : World) {oi : Oper} {k : Nat} {listed : Array Bool} {a : Act} {w : World} {rs : List Nat} (hi : ops[i]? = some oi) (hk : (oi.dst == none && qT ops && Region.wanted oi (yielded ops a.tmps)) = true)
  (hx : (execOp a.eval oi).run Tryz.prog w = .ok .skip w') (hI : Inv w') (h : wpJ Inv F n md ops Q k (listed.setIfInBounds i true) a w')
  (hs : AllJ Inv F n md ops Q k listed a w rs) : AllJ Inv F n md ops Q k listed a w (i :: rs) := fun j hj => by
 simp only [Bool.and_eq_true, beq_iff_eq] at hk
 obtain ⟨⟨hd, hnd⟩, hw⟩ := hk
 rcases List.mem_cons.1 hj with rfl | hj
 ·unfold Go.wpOpIn
  simp only [hi, hw, if_true, Oper.wpIn]
  refine ⟨fun f _ => hL.fn f, ?_⟩
  rw [Oper.semAt_plain _ _ _ (jg hnd hi), hx, Oper.uponIn_skip]
  show _ ∧ _
  rw [hd]
  exact ⟨hI, h⟩
 ·exact hs j hj
theorem zp {k : Nat} {listed : Array Bool} {a : Act} {w : World} (hr : Region.ready md ops listed = []) (h : Q .normal a w) : wpJ Inv F n md ops Q k listed a w := by
 cases k with
 | zero => exact ⟨hr, h⟩
 | succ k => exact ⟨fun _ => h, fun i hi => by rw [hr] at hi; cases hi⟩
end
end Go.Proofs.YtjikkhbcbfpocaaGreatDoor
