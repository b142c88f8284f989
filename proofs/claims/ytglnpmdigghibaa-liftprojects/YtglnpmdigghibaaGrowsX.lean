/-
  The same as in GrowsI, up to one operation (s) behind which anything may come.
-/
import Derived.Test.YtglnpmdigghibaaGrowsI
import Derived.Test.YtglnpmdigghibaaLast
namespace Go.Proofs.Ytglnpmdigghibaa
open Go.RowKit

section
variable {s : Nat} {F : Fence} {n : Nat} {md : Region.Mode} {ops : Array Oper} {Q : Exit → Act → World → Prop}
def wpX (s : Nat) (F : Fence) (n : Nat) (md : Region.Mode) (ops : Array Oper) (Q : Exit → Act → World → Prop) : Nat → Array Bool → Act → World → Prop
  | 0, listed, a, w0 => ∀ w, G w0 w → Region.ready md ops listed = [] ∧ Q .normal a w
  | k + 1, listed, a, w0 => ∀ w, G w0 w → (Region.ready md ops listed = [] → Q .normal a w) ∧
    ∀ i ∈ Region.ready md ops listed, wpOpIn F n Try.prog ops Q i (fun a' w' => (i = s → wpAnyIn F n Try.prog md ops Q k (listed.setIfInBounds i true) a' w') ∧ (i ≠ s → G w w' ∧ wpX s F n md ops Q k (listed.setIfInBounds i true) a' w')) a w
theorem wpX.grow {k : Nat} {listed : Array Bool} {a : Act} {w w' : World} (h : wpX s F n md ops Q k listed a w) (hg : G w w') : wpX s F n md ops Q k listed a w' := by
  cases k with
  | zero => exact fun x hx => h x (hg.trans hx)
  | succ k => exact fun x hx => h x (hg.trans hx)
theorem wpX.any : ∀ (k : Nat) (listed : Array Bool) (a : Act) (w : World), wpX s F n md ops Q k listed a w → wpAnyIn F n Try.prog md ops Q k listed a w
  | 0, _, _, w, h => h w (G.refl w)
  | k + 1, _, _, w, h => ⟨(h w (G.refl w)).1, fun i hi => wpOpIn_mono (fun a' w' h' => by
      by_cases e : i = s
      · exact h'.1 e
      · exact wpX.any k _ a' w' (h'.2 e).2) ((h w (G.refl w)).2 i hi)⟩
theorem wpX_first (hF : ∀ f, F.fn f) (hn : F.depth.isSome = true → 1 ≤ n) (hnd : noDefer ops = true) {i : Nat} {oi : Oper} {v : Value} (hi : ops[i]? = some oi) (hsel : ∀ (j : Nat) (o : Oper) cs b, ops[j]? = some o → o.op ≠ .select cs b)
    (hQ : ∀ c a w, Q (.panic c) (a.put oi.dst v) w → Q (.panic c) a w) (his : i ≠ s) (hdep : ∀ os, ops[s]? = some os → ∃ e ∈ os.after, Region.binds md e = true ∧ e.on = i) :
    ∀ (k : Nat) (listed : Array Bool) (a : Act) (w0 : World), (∀ j oj, ops[j]? = some oj → j ≠ i → listed.getD j true = false → (∀ e ∈ oj.after, Region.binds md e = true → e.on ≠ i) → oi.apart ops oj = true) →
      i ∈ Region.ready md ops listed → YieldsI F n ops w0 oi v a → wpX s F n md ops Q k (listed.setIfInBounds i true) (a.put oi.dst v) w0 → wpX s F n md ops Q (k + 1) listed a w0 := by
  intro k
  induction k with
  | zero =>
    intro listed a w0 _ hr hy H w hg
    refine ⟨fun e => (by rw [e] at hr; cases hr), fun j hj => ?_⟩
    by_cases hji : j = i
    · subst hji
      exact hy.wpOpIn hF hn hi (noDefer_spec hnd hi) hg fun w' hg' => ⟨fun e => absurd e his, fun _ => ⟨hg', fun x hx => H x ((hg.trans hg').trans hx)⟩⟩
    · have := ready_mono hj hji
      rw [(H w hg).1] at this
      cases this
  | succ k ih =>
    intro listed a w0 hfree hr hy H w hg
    refine ⟨fun e => (by rw [e] at hr; cases hr), fun j hj => ?_⟩
    by_cases hji : j = i
    · subst hji
      exact hy.wpOpIn hF hn hi (noDefer_spec hnd hi) hg fun w' hg' => ⟨fun e => absurd e his, fun _ => ⟨hg', H.grow (hg.trans hg')⟩⟩
    · obtain ⟨hun, oj, hoj, hall⟩ := mem_ready.1 hj
      have hno : ∀ e ∈ oj.after, Region.binds md e = true → e.on ≠ i := fun e he hb heq => by
        have h1 := hall e he hb
        rw [heq] at h1
        have h0 := (mem_ready.1 hr).1
        by_cases hlt : i < listed.size
        · simp [Array.getD, hlt] at h0 h1
          rw [h0] at h1
          cases h1
        · simp [Array.getD, hlt] at h1
      have hjs : j ≠ s := fun e => by
        subst e
        obtain ⟨e, he, hb, heq⟩ := hdep oj hoj
        exact hno e he hb heq
      have h2 := wpOpIn_beforeI hoj (noDefer_spec hnd hoj) (hfree j oj hoj hji hun hno) (fun cs b => hsel i oi cs b hi) (fun cs b => hsel j oj cs b hoj) hQ hy ((H w hg).2 j (ready_mono hj hji))
      refine wpOpIn_mono (fun a' w' h3 => ⟨fun e => absurd e hjs, fun _ => ⟨(h3.2.2 hjs).1, ih (listed.setIfInBounds j true) a' w' ?_ (ready_mono hr (Ne.symm hji)) (h3.1.mono (hg.trans (h3.2.2 hjs).1)) ?_⟩⟩) h2
      · intro l ol hl hli hunl hnol
        refine hfree l ol hl hli ?_ hnol
        by_cases hjl : j = l
        · subst hjl; exact hun
        · rwa [getD_set_ne true hjl] at hunl
      · rw [Array.setIfInBounds_comm _ _ hji]
        exact (h3.2.2 hjs).2
theorem wp_region_X (s : Nat) {id : Nat} {a : Act} {w : World} (h : wpX s F n .any ops Q ops.size (Array.replicate ops.size false) a w.drew) : (Code.region id ops true).wpIn F n Try.prog Q a w :=
  wpIn_region_any (by kernel_rfl) (wpX.any _ _ _ _ h)
theorem takeX (hL : Lets F n) (i d : Nat) (v : Value) {oi : Oper} {k : Nat} {listed : Array Bool} {a : Act} {w0 : World} (hi : ops[i]? = some oi) (hd : oi.dst = some d) (hnd : noDefer ops = true)
    (hs : Region.noSelect ops = true) (hf : Region.free md ops listed i = true) (hr : (Region.ready md ops listed).contains i = true) (hp : depsOn md ops s i = true)
    (hQ : ∀ c a w, Q (.panic c) (a.put (some d) v) w → Q (.panic c) a w) (hw : Region.wanted oi (yielded ops a.tmps) = true) (hy : ∀ w, G w0 w → (execOp a.eval oi).run Try.prog w = .ok (.value v) w)
    (h : wpX s F n md ops Q k (listed.setIfInBounds i true) (a.put (some d) v) w0) : wpX s F n md ops Q (k + 1) listed a w0 :=
  wpX_first hL.fn hL.dp hnd hi (Region.noSelect_spec hs) (by rw [hd]; exact hQ) (depsOn_spec hp).1 (depsOn_spec hp).2 k listed a w0 (Region.free_spec hi hf) (by simpa using hr) (.inl ⟨hw, fun w hg => .inl (hy w hg)⟩) (by rw [hd]; exact h)
theorem callX (hL : Lets F n) (i d : Nat) (v : Value) {oi : Oper} {k : Nat} {listed : Array Bool} {a : Act} {w0 : World} (f : FuncId) (args : Array Value) (hi : ops[i]? = some oi) (hd : oi.dst = some d) (hnd : noDefer ops = true)
    (hs : Region.noSelect ops = true) (hf : Region.free md ops listed i = true) (hr : (Region.ready md ops listed).contains i = true) (hp : depsOn md ops s i = true)
    (hQ : ∀ c a w, Q (.panic c) (a.put (some d) v) w → Q (.panic c) a w) (hw : Region.wanted oi (yielded ops a.tmps) = true) (hx : ∀ w, (execOp a.eval oi).run Try.prog w = .ok (.enter f args) w)
    (hc : ∀ w, G w0 w → CallsIn F (n - 1) Try.prog f args w fun e w' => e = .returned v ∧ G w w')
    (h : wpX s F n md ops Q k (listed.setIfInBounds i true) (a.put (some d) v) w0) : wpX s F n md ops Q (k + 1) listed a w0 :=
  wpX_first hL.fn hL.dp hnd hi (Region.noSelect_spec hs) (by rw [hd]; exact hQ) (depsOn_spec hp).1 (depsOn_spec hp).2 k listed a w0 (Region.free_spec hi hf) (by simpa using hr) (.inl ⟨hw, fun w hg => .inr ⟨f, args, hx w, hc w hg⟩⟩) (by rw [hd]; exact h)
/-- each of these comes up next -/
def AllX (s : Nat) (F : Fence) (n : Nat) (md : Region.Mode) (ops : Array Oper) (Q : Exit → Act → World → Prop) (k : Nat) (listed : Array Bool) (a : Act) (w : World) (rs : List Nat) : Prop :=
  ∀ i ∈ rs, wpOpIn F n Try.prog ops Q i (fun a' w' => (i = s → wpAnyIn F n Try.prog md ops Q k (listed.setIfInBounds i true) a' w') ∧ (i ≠ s → G w w' ∧ wpX s F n md ops Q k (listed.setIfInBounds i true) a' w')) a w
theorem readyX (rs : List Nat) {k : Nat} {listed : Array Bool} {a : Act} {w0 : World} (hr : Region.ready md ops listed = rs) (hne : rs ≠ []) (h : ∀ w, G w0 w → AllX s F n md ops Q k listed a w rs) : wpX s F n md ops Q (k + 1) listed a w0 :=
  fun w hg => ⟨fun e => absurd (hr ▸ e) hne, hr ▸ h w hg⟩
theorem AllX.nil {k : Nat} {listed : Array Bool} {a : Act} {w : World} : AllX s F n md ops Q k listed a w [] := fun _ h => by cases h
theorem AllX.call (hL : Lets F n) (i d : Nat) {oi : Oper} {k : Nat} {listed : Array Bool} {a : Act} {w : World} {rs : List Nat} (f : FuncId) (args : Array Value) (hi : ops[i]? = some oi) (hd : oi.dst = some d) (his : i ≠ s) (hnd : noDefer ops = true) (hw : Region.wanted oi (yielded ops a.tmps) = true)
    (hx : (execOp a.eval oi).run Try.prog w = .ok (.enter f args) w) (hc : CallsIn F (n - 1) Try.prog f args w fun e w' => ∃ v, e = .returned v ∧ G w w' ∧ wpX s F n md ops Q k (listed.setIfInBounds i true) (a.put (some d) v) w')
    (hs : AllX s F n md ops Q k listed a w rs) : AllX s F n md ops Q k listed a w (i :: rs) := fun j hj => by
  rcases List.mem_cons.1 hj with rfl | hj
  · unfold Go.wpOpIn
    simp only [hi, hw, if_true, Oper.wpIn]
    refine ⟨fun f _ => hL.fn f, ?_⟩
    rw [Oper.semAt_plain _ _ _ (noDefer_spec hnd hi), hx, Oper.uponIn_enter]
    refine ⟨hL.dp, hc.mono ?_⟩
    rintro e w' ⟨v, rfl, hg, h⟩
    show _ ∧ _
    rw [hd]
    exact ⟨fun e => absurd e his, fun _ => ⟨hg, h⟩⟩
  · exact hs j hj
theorem AllX.value (hL : Lets F n) (i d : Nat) (v : Value) (w' : World) {oi : Oper} {k : Nat} {listed : Array Bool} {a : Act} {w : World} {rs : List Nat} (hi : ops[i]? = some oi) (hd : oi.dst = some d) (his : i ≠ s) (hnd : noDefer ops = true) (hw : Region.wanted oi (yielded ops a.tmps) = true)
    (hx : (execOp a.eval oi).run Try.prog w = .ok (.value v) w') (hg : G w w') (h : wpX s F n md ops Q k (listed.setIfInBounds i true) (a.put (some d) v) w')
    (hs : AllX s F n md ops Q k listed a w rs) : AllX s F n md ops Q k listed a w (i :: rs) := fun j hj => by
  rcases List.mem_cons.1 hj with rfl | hj
  · unfold Go.wpOpIn
    simp only [hi, hw, if_true, Oper.wpIn]
    refine ⟨fun f _ => hL.fn f, ?_⟩
    rw [Oper.semAt_plain _ _ _ (noDefer_spec hnd hi), hx, Oper.uponIn_value]
    rw [hd]
    exact ⟨fun e => absurd e his, fun _ => ⟨hg, h⟩⟩
  · exact hs j hj
/-- from here on by hand: nothing but s comes up -/
theorem lastX {k : Nat} {listed : Array Bool} {a : Act} {w0 : World} (hr : Region.ready md ops listed = [s]) (h : ∀ w, G w0 w → wpAnyIn F n Try.prog md ops Q (k + 1) listed a w) : wpX s F n md ops Q (k + 1) listed a w0 := fun w hg => by
  refine ⟨fun e => (by rw [hr] at e; cases e), fun j hj => ?_⟩
  have hj' := hj
  rw [hr] at hj'
  obtain rfl : j = s := by simpa using hj'
  exact wpOpIn_mono (fun a' w' h' => ⟨fun _ => h', fun e => absurd rfl e⟩) ((h w hg).2 j hj)
end
end Go.Proofs.Ytglnpmdigghibaa
