import Derived.Test.YtlelgboklkmkdaaEq
/-
  REGIONS THAT DRAW THEIR ORDER AND WHOSE OPERATIONS ONLY LAY NEW BLOCKS: what yields one value in every world that has grown out of the one at hand may be taken first, calls too.
-/
namespace Go.Proofs.Ytlelgboklkmkdaa
open Go.RowKit
/-- w' has grown out of w: what was there is as it was -/
def G (w w' : World) : Prop := Below w.heap.size w w'
theorem G.refl (w : World) : G w w := Below.refl _ _
theorem G.trans {a b c : World} (h : G a b) (k : G b c) : G a c := Below.trans (B := a.heap.size) h (k.mono h.size)
theorem G.drew (w : World) : G w w.drew := (Below.refl _ w).drew
theorem G.cell {w w' : World} {a : Addr} {v : Value} (h : G w w') (hc : w.cell? a = some v) : w'.cell? a = some v := (Below.cell (B := w.heap.size) h (World.block_lt_of_cell? w _ hc)).trans hc
theorem G.lies {w w' : World} {g o : Nat} {c : Array Value} (h : G w w') (hc : Lies w g o c) : Lies w' g o c := hc.below h
theorem G.alloc (w : World) (o : Obj) : G w (w.alloc o) := (Below.refl _ w).alloc (Nat.le_refl _) o
/-- in every world that has grown out of w0 operation o yields v, and the world grows -/
def YieldsG (ops : Array Oper) (w0 : World) (o : Oper) (v : Value) (a : Act) : Prop :=
  (Region.wanted o (yielded ops a.tmps) = true ∧ ∀ w, G w0 w → o.quietAt Try.prog a (G w) w v) ∨ (Region.wanted o (yielded ops a.tmps) = false ∧ v = undef)
theorem YieldsG.of_same {ops : Array Oper} {w0 : World} {o : Oper} {v : Value} {a a' : Act} (h : YieldsG ops w0 o v a) (he : execOp a'.eval o = execOp a.eval o)
    (hw : Region.wanted o (yielded ops a'.tmps) = Region.wanted o (yielded ops a.tmps)) : YieldsG ops w0 o v a' := by
  unfold YieldsG Oper.quietAt at *
  rw [he, hw]
  exact h
theorem YieldsG.mono {ops : Array Oper} {w0 w1 : World} {o : Oper} {v : Value} {a : Act} (h : YieldsG ops w0 o v a) (hg : G w0 w1) : YieldsG ops w1 o v a :=
  h.imp (fun h => ⟨h.1, fun w hw => h.2 w (hg.trans hw)⟩) id
theorem wp_of_quietAt {o : Oper} {a : Act} {w : World} {v : Value} {K : Act → World → Prop} {Q : Exit → Act → World → Prop} (h : o.quietAt Try.prog a (G w) w v) (hk : ∀ w', G w w' → K (a.put o.dst v) w') : o.wp Try.prog a w K Q := by
  unfold Oper.quietAt at h
  unfold Oper.wp
  generalize (execOp a.eval o).run Try.prog w = r at *
  match r, h with
  | .ok (.value u) w', h =>
    obtain ⟨rfl, rfl⟩ := h
    exact hk _ (G.refl _)
  | .ok .skip w', h =>
    obtain ⟨rfl, rfl⟩ := h
    exact hk _ (G.refl _)
  | .ok (.enter f args) w', h =>
    obtain ⟨rfl, h⟩ := h
    refine Calls.mono h ?_
    rintro e w'' ⟨rfl, hg⟩
    exact hk _ hg
theorem YieldsG.wpOp {ops : Array Oper} {Q : Exit → Act → World → Prop} {w0 w : World} {i : Nat} {o : Oper} {v : Value} {a : Act} {K : Act → World → Prop} (h : YieldsG ops w0 o v a) (hi : ops[i]? = some o) (hg : G w0 w) (hk : ∀ w', G w w' → K (a.put o.dst v) w') : wpOp Try.prog ops Q i K a w := by
  unfold Go.wpOp
  rw [hi]
  rcases h with ⟨hw, h⟩ | ⟨hw, rfl⟩
  · simp only [hw, if_true]
    exact .inl (wp_of_quietAt (h w hg) hk)
  · simp only [hw, Bool.false_eq_true, if_false]
    exact hk _ (G.refl _)
/-- operation j, apart from i: it makes no difference whether i's value is there already -/
theorem wpOp_before {ops : Array Oper} {Q : Exit → Act → World → Prop} {w0 w : World} {j : Nat} {oi oj : Oper} {v : Value} {a : Act} {K : Act → World → Prop} (hj : ops[j]? = some oj) (hap : oi.apart ops oj = true)
    (hsi : ∀ cs b, oi.op ≠ .select cs b) (hsj : ∀ cs b, oj.op ≠ .select cs b) (hQ : ∀ c a w, Q (.panic c) (a.put oi.dst v) w → Q (.panic c) a w)
    (hy : YieldsG ops w0 oi v a) (h : wpOp Try.prog ops Q j K (a.put oi.dst v) w) : wpOp Try.prog ops Q j (fun a' w' => YieldsG ops w0 oi v a' ∧ K (a'.put oi.dst v) w') a w := by
  obtain ⟨s1, s2, s3⟩ := Oper.apart_spec hap
  have stay : ∀ u, YieldsG ops w0 oi v (a.put oj.dst u) := fun u => hy.of_same (execOp_put oi hsi a oj.dst u s3) (wanted_put oi a oj.dst u s3)
  have swap : ∀ u, (a.put oi.dst v).put oj.dst u = (a.put oj.dst u).put oi.dst v := fun u => Act.put_comm a v u s2
  have ex : execOp (a.put oi.dst v).eval oj = execOp a.eval oj := execOp_put oj hsj a oi.dst v s1
  unfold Go.wpOp at h ⊢
  rw [hj] at h ⊢
  simp only at h ⊢
  rw [wanted_put oj a oi.dst v s1] at h
  by_cases hw : Region.wanted oj (yielded ops a.tmps) = true
  · rw [if_pos hw] at h ⊢
    rcases h with h | h
    · left
      unfold Oper.wp at h ⊢
      rw [ex] at h
      generalize (execOp a.eval oj).run Try.prog w = r at h ⊢
      match r, h with
      | .ok (.value u) w', h => exact ⟨stay u, by rw [← swap]; exact h⟩
      | .ok .skip w', h => exact ⟨stay undef, by rw [← swap]; exact h⟩
      | .ok (.defer d) w', h =>
        refine ⟨(hy.of_same (a' := { a with defers := d :: a.defers }) rfl rfl).of_same (execOp_put oi hsi _ oj.dst undef s3) (wanted_put oi _ oj.dst undef s3), ?_⟩
        rw [← Act.put_comm _ v undef s2, ← Act.put_defers]
        exact h
      | .ok (.enter f args) w', h =>
        refine Calls.mono h fun e w'' he => ?_
        match e, he with
        | .returned u, he => exact ⟨stay u, by rw [← swap]; exact he⟩
        | .panicked c, he => exact hQ _ _ _ he
        | .outgrown, he => exact he
      | .ok (.row row args) w', h => exact Rows.mono h fun u w'' he => ⟨stay u, by rw [← swap]; exact he⟩
      | .halt (.panic u) w', h => exact hQ _ _ _ h
    · right
      refine ⟨?_, h.2⟩
      have := h.1
      unfold Oper.asks at this ⊢
      rw [ex] at this
      exact this
  · rw [if_neg hw] at h ⊢
    exact ⟨stay undef, by rw [← swap]; exact h⟩
/-- whatever order is picked from here on, in every world that has grown out of this one; every operation lets it grow -/
def wpG (md : Region.Mode) (ops : Array Oper) (Q : Exit → Act → World → Prop) : Nat → Array Bool → Act → World → Prop
  | 0, listed, a, w0 => ∀ w, G w0 w → Region.ready md ops listed = [] ∧ Q .normal a w
  | n + 1, listed, a, w0 => ∀ w, G w0 w → (Region.ready md ops listed = [] → Q .normal a w) ∧
    ∀ i ∈ Region.ready md ops listed, wpOp Try.prog ops Q i (fun a' w' => G w w' ∧ wpG md ops Q n (listed.setIfInBounds i true) a' w') a w
theorem wpG.grow {md : Region.Mode} {ops : Array Oper} {Q : Exit → Act → World → Prop} {n : Nat} {listed : Array Bool} {a : Act} {w w' : World} (h : wpG md ops Q n listed a w) (hg : G w w') : wpG md ops Q n listed a w' := by
  cases n with
  | zero => exact fun x hx => h x (hg.trans hx)
  | succ n => exact fun x hx => h x (hg.trans hx)
theorem wpG.any {md : Region.Mode} {ops : Array Oper} {Q : Exit → Act → World → Prop} : ∀ (n : Nat) (listed : Array Bool) (a : Act) (w : World), wpG md ops Q n listed a w → wpAny Try.prog md ops Q n listed a w
  | 0, _, _, w, h => h w (G.refl w)
  | n + 1, _, _, w, h => ⟨(h w (G.refl w)).1, fun i hi => wpOp_mono (fun a' w' h' => wpG.any n _ a' w' h'.2) ((h w (G.refl w)).2 i hi)⟩
theorem wpG_first {md : Region.Mode} {ops : Array Oper} {Q : Exit → Act → World → Prop} {i : Nat} {oi : Oper} {v : Value} (hi : ops[i]? = some oi) (hsel : ∀ (j : Nat) (o : Oper) cs b, ops[j]? = some o → o.op ≠ .select cs b)
    (hQ : ∀ c a w, Q (.panic c) (a.put oi.dst v) w → Q (.panic c) a w) :
    ∀ (n : Nat) (listed : Array Bool) (a : Act) (w0 : World), (∀ j oj, ops[j]? = some oj → j ≠ i → listed.getD j true = false → (∀ e ∈ oj.after, Region.binds md e = true → e.on ≠ i) → oi.apart ops oj = true) →
      i ∈ Region.ready md ops listed → YieldsG ops w0 oi v a → wpG md ops Q n (listed.setIfInBounds i true) (a.put oi.dst v) w0 → wpG md ops Q (n + 1) listed a w0 := by
  intro n
  induction n with
  | zero =>
    intro listed a w0 _ hr hy H w hg
    refine ⟨fun e => (by rw [e] at hr; cases hr), fun j hj => ?_⟩
    by_cases hji : j = i
    · subst hji
      exact hy.wpOp hi hg fun w' hg' => ⟨hg', fun x hx => H x ((hg.trans hg').trans hx)⟩
    · have := ready_mono hj hji
      rw [(H w hg).1] at this
      cases this
  | succ n ih =>
    intro listed a w0 hfree hr hy H w hg
    refine ⟨fun e => (by rw [e] at hr; cases hr), fun j hj => ?_⟩
    by_cases hji : j = i
    · subst hji
      exact hy.wpOp hi hg fun w' hg' => ⟨hg', H.grow (hg.trans hg')⟩
    · obtain ⟨hun, oj, hoj, hall⟩ := mem_ready.1 hj
      have hno : ∀ e ∈ oj.after, Region.binds md e = true → e.on ≠ i := fun e he hb heq => by
        have h1 := hall e he hb
        rw [heq] at h1
        have h0 := (mem_ready.1 hr).1
        by_cases hlt : i < listed.size
        · simp [Array.getD, hlt] at h0 h1
          rw [h0] at h1
          cases h1
        · simp [Array.getD, hlt] at h1
      have h2 := wpOp_before hoj (hfree j oj hoj hji hun hno) (fun cs b => hsel i oi cs b hi) (fun cs b => hsel j oj cs b hoj) hQ hy ((H w hg).2 j (ready_mono hj hji))
      refine wpOp_mono (fun a' w' h3 => ⟨h3.2.1, ih (listed.setIfInBounds j true) a' w' ?_ (ready_mono hr (Ne.symm hji)) (h3.1.mono (hg.trans h3.2.1)) ?_⟩) h2
      · intro k ok hk hki hunk hnok
        refine hfree k ok hk hki ?_ hnok
        by_cases hjk : j = k
        · subst hjk; exact hun
        · rwa [getD_set_ne true hjk] at hunk
      · rw [Array.setIfInBounds_comm _ _ hji]
        exact h3.2.2
section
variable {ops : Array Oper} {Q : Exit → Act → World → Prop} {md : Region.Mode}
theorem wp_region_G {id : Nat} {a : Act} {w : World} (h : wpG .any ops Q ops.size (Array.replicate ops.size false) a w.drew) : (Code.region id ops true).wp Try.prog Q a w :=
  wp_region_any (by kernel_rfl) (wpG.any _ _ _ _ h)
theorem takeG (i d : Nat) (v : Value) {oi : Oper} {n : Nat} {listed : Array Bool} {a : Act} {w0 : World} (hi : ops[i]? = some oi) (hd : oi.dst = some d)
    (hs : Region.noSelect ops = true) (hf : Region.free md ops listed i = true) (hr : (Region.ready md ops listed).contains i = true)
    (hQ : ∀ c a w, Q (.panic c) (a.put (some d) v) w → Q (.panic c) a w) (hw : Region.wanted oi (yielded ops a.tmps) = true) (hy : ∀ w, G w0 w → (execOp a.eval oi).run Try.prog w = .ok (.value v) w)
    (h : wpG md ops Q n (listed.setIfInBounds i true) (a.put (some d) v) w0) : wpG md ops Q (n + 1) listed a w0 :=
  wpG_first hi (Region.noSelect_spec hs) (by rw [hd]; exact hQ) n listed a w0 (Region.free_spec hi hf) (by simpa using hr)
    (.inl ⟨hw, fun w hg => by unfold Oper.quietAt; rw [hy w hg]; exact ⟨rfl, rfl⟩⟩) (by rw [hd]; exact h)
theorem skipG (i d : Nat) {oi : Oper} {n : Nat} {listed : Array Bool} {a : Act} {w0 : World} (hi : ops[i]? = some oi) (hd : oi.dst = some d)
    (hs : Region.noSelect ops = true) (hf : Region.free md ops listed i = true) (hr : (Region.ready md ops listed).contains i = true)
    (hQ : ∀ c a w, Q (.panic c) (a.put (some d) undef) w → Q (.panic c) a w) (hw : Region.wanted oi (yielded ops a.tmps) = false)
    (h : wpG md ops Q n (listed.setIfInBounds i true) (a.put (some d) undef) w0) : wpG md ops Q (n + 1) listed a w0 :=
  wpG_first hi (Region.noSelect_spec hs) (by rw [hd]; exact hQ) n listed a w0 (Region.free_spec hi hf) (by simpa using hr) (.inr ⟨hw, rfl⟩) (by rw [hd]; exact h)
/-- a call that yields one value in every world that has grown out of the one at hand -/
theorem callG (i d : Nat) (v : Value) {oi : Oper} {n : Nat} {listed : Array Bool} {a : Act} {w0 : World} (f : FuncId) (args : Array Value) (hi : ops[i]? = some oi) (hd : oi.dst = some d)
    (hs : Region.noSelect ops = true) (hf : Region.free md ops listed i = true) (hr : (Region.ready md ops listed).contains i = true)
    (hQ : ∀ c a w, Q (.panic c) (a.put (some d) v) w → Q (.panic c) a w) (hw : Region.wanted oi (yielded ops a.tmps) = true) (hx : ∀ w, (execOp a.eval oi).run Try.prog w = .ok (.enter f args) w)
    (hc : ∀ w, G w0 w → Calls Try.prog f args w fun e w' => e = .returned v ∧ G w w')
    (h : wpG md ops Q n (listed.setIfInBounds i true) (a.put (some d) v) w0) : wpG md ops Q (n + 1) listed a w0 :=
  wpG_first hi (Region.noSelect_spec hs) (by rw [hd]; exact hQ) n listed a w0 (Region.free_spec hi hf) (by simpa using hr)
    (.inl ⟨hw, fun w hg => by unfold Oper.quietAt; rw [hx w]; exact ⟨rfl, hc w hg⟩⟩) (by rw [hd]; exact h)
theorem doneG {n : Nat} {listed : Array Bool} {a : Act} {w0 : World} (hr : Region.ready md ops listed = []) (h : ∀ w, G w0 w → Q .normal a w) : wpG md ops Q n listed a w0 := by
  cases n with
  | zero => exact fun w hg => ⟨hr, h w hg⟩
  | succ n => exact fun w hg => ⟨fun _ => h w hg, fun i hi => by rw [hr] at hi; cases hi⟩
/-- each of these comes up next -/
def AllG (md : Region.Mode) (ops : Array Oper) (Q : Exit → Act → World → Prop) (n : Nat) (listed : Array Bool) (a : Act) (w : World) (rs : List Nat) : Prop :=
  ∀ i ∈ rs, wpOp Try.prog ops Q i (fun a' w' => G w w' ∧ wpG md ops Q n (listed.setIfInBounds i true) a' w') a w
theorem readyG (rs : List Nat) {n : Nat} {listed : Array Bool} {a : Act} {w0 : World} (hr : Region.ready md ops listed = rs) (hne : rs ≠ []) (h : ∀ w, G w0 w → AllG md ops Q n listed a w rs) : wpG md ops Q (n + 1) listed a w0 :=
  fun w hg => ⟨fun e => absurd (hr ▸ e) hne, hr ▸ h w hg⟩
theorem AllG.nil {n : Nat} {listed : Array Bool} {a : Act} {w : World} : AllG md ops Q n listed a w [] := fun _ h => by cases h
theorem AllG.call (i d : Nat) {oi : Oper} {n : Nat} {listed : Array Bool} {a : Act} {w : World} {rs : List Nat} (f : FuncId) (args : Array Value) (hi : ops[i]? = some oi) (hd : oi.dst = some d) (hw : Region.wanted oi (yielded ops a.tmps) = true)
    (hx : (execOp a.eval oi).run Try.prog w = .ok (.enter f args) w) (hc : Calls Try.prog f args w fun e w' => ∃ v, e = .returned v ∧ G w w' ∧ wpG md ops Q n (listed.setIfInBounds i true) (a.put (some d) v) w')
    (hs : AllG md ops Q n listed a w rs) : AllG md ops Q n listed a w (i :: rs) := fun j hj => by
  rcases List.mem_cons.1 hj with rfl | hj
  · unfold Go.wpOp
    rw [hi]
    simp only [hw, if_true]
    left
    unfold Oper.wp
    rw [hx]
    refine Calls.mono hc ?_
    rintro e w' ⟨v, rfl, hg, h⟩
    rw [hd]
    exact ⟨hg, h⟩
  · exact hs j hj
theorem AllG.value (i d : Nat) (v : Value) (w' : World) {oi : Oper} {n : Nat} {listed : Array Bool} {a : Act} {w : World} {rs : List Nat} (hi : ops[i]? = some oi) (hd : oi.dst = some d) (hw : Region.wanted oi (yielded ops a.tmps) = true)
    (hx : (execOp a.eval oi).run Try.prog w = .ok (.value v) w') (hg : G w w') (h : wpG md ops Q n (listed.setIfInBounds i true) (a.put (some d) v) w')
    (hs : AllG md ops Q n listed a w rs) : AllG md ops Q n listed a w (i :: rs) := fun j hj => by
  rcases List.mem_cons.1 hj with rfl | hj
  · unfold Go.wpOp
    rw [hi]
    simp only [hw, if_true]
    left
    unfold Oper.wp
    rw [hx]
    show G w w' ∧ _
    rw [hd]
    exact ⟨hg, h⟩
  · exact hs j hj
end
end Go.Proofs.Ytlelgboklkmkdaa
