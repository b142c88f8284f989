/-
  REGIONS THAT DRAW THEIR ORDER, with a word Inv that every operation but one (s) keeps: what yields one value wherever Inv holds may be taken first; the worlds stay exact.
-/
import Derived.Test.YthioflehpifflaaGreatDoorTexts
import Derived.Deep.Quiet
namespace Go.Proofs.YthioflehpifflaaGreatDoor
open Go.RowKit

section
variable {md : Region.Mode} {ops : Array Oper} {Q : Exit → Act → World → Prop} {Inv : World → Prop} {s : Nat}
theorem wpOp_beforeY {Y : Act → Prop} {w : World} {j : Nat} {oi oj : Oper} {v : Value} {a : Act} {K : Act → World → Prop} (hj : ops[j]? = some oj) (hap : oi.apart ops oj = true)
    (hsi : ∀ cs b, oi.op ≠ .select cs b) (hsj : ∀ cs b, oj.op ≠ .select cs b) (hQ : ∀ c a w, Q (.panic c) (a.put oi.dst v) w → Q (.panic c) a w)
    (hyc : ∀ a a' : Act, execOp a'.eval oi = execOp a.eval oi → Region.wanted oi (yielded ops a'.tmps) = Region.wanted oi (yielded ops a.tmps) → Y a → Y a') (hy : Y a) (h : wpOp Tryz.prog ops Q j K (a.put oi.dst v) w) : wpOp Tryz.prog ops Q j (fun a' w' => Y a' ∧ K (a'.put oi.dst v) w') a w := by
  obtain ⟨s1, s2, s3⟩ := Oper.apart_spec hap
  have stay : ∀ u, Y (a.put oj.dst u) := fun u => hyc _ _ (execOp_put oi hsi a oj.dst u s3) (wanted_put oi a oj.dst u s3) hy
  have swap : ∀ u, (a.put oi.dst v).put oj.dst u = (a.put oj.dst u).put oi.dst v := fun u => Act.put_comm a v u s2
  have ex : execOp (a.put oi.dst v).eval oj = execOp a.eval oj := execOp_put oj hsj a oi.dst v s1
  unfold Go.wpOp at h ⊢
  rw [hj] at h ⊢
  simp only at h ⊢
  rw [wanted_put oj a oi.dst v s1] at h
  by_cases hw : Region.wanted oj (yielded ops a.tmps) = true
  · rw [if_pos hw] at h ⊢
    rcases h with h | h
    · left
      unfold Oper.wp at h ⊢
      rw [ex] at h
      generalize (execOp a.eval oj).run Tryz.prog w = r at h ⊢
      match r, h with
      | .ok (.value u) w', h => exact ⟨stay u, by rw [← swap]; exact h⟩
      | .ok .skip w', h => exact ⟨stay undef, by rw [← swap]; exact h⟩
      | .ok (.defer d) w', h =>
        refine ⟨hyc { a with defers := d :: a.defers } _ (execOp_put oi hsi _ oj.dst undef s3) (wanted_put oi _ oj.dst undef s3) (hyc a _ rfl rfl hy), ?_⟩
        rw [← Act.put_comm _ v undef s2, ← Act.put_defers]
        exact h
      | .ok (.enter f args) w', h =>
        refine Calls.mono h fun e w'' he => ?_
        match e, he with
        | .returned u, he => exact ⟨stay u, by rw [← swap]; exact he⟩
        | .panicked c, he => exact hQ _ _ _ he
        | .outgrown, he => exact he
      | .ok (.row row args) w', h => exact Rows.mono h fun u w'' he => ⟨stay u, by rw [← swap]; exact he⟩
      | .halt (.panic u) w', h => exact hQ _ _ _ h
    · right
      refine ⟨?_, h.2⟩
      have := h.1
      unfold Oper.asks at this ⊢
      rw [ex] at this
      exact this
  · rw [if_neg hw] at h ⊢
    exact ⟨stay undef, by rw [← swap]; exact h⟩
def YieldsN (Inv : World → Prop) (ops : Array Oper) (o : Oper) (v : Value) (a : Act) : Prop :=
  (Region.wanted o (yielded ops a.tmps) = true ∧ ∀ w, Inv w → (execOp a.eval o).run Tryz.prog w = .ok (.value v) w) ∨ (Region.wanted o (yielded ops a.tmps) = false ∧ v = undef)
theorem YieldsN.same {o : Oper} {v : Value} (a a' : Act) (he : execOp a'.eval o = execOp a.eval o) (hw : Region.wanted o (yielded ops a'.tmps) = Region.wanted o (yielded ops a.tmps)) (h : YieldsN Inv ops o v a) : YieldsN Inv ops o v a' := by
  unfold YieldsN at *
  rw [he, hw]
  exact h
theorem YieldsN.wpOp {w : World} {i : Nat} {o : Oper} {v : Value} {a : Act} {K : Act → World → Prop} (h : YieldsN Inv ops o v a) (hi : ops[i]? = some o) (hI : Inv w) (hk : K (a.put o.dst v) w) : wpOp Tryz.prog ops Q i K a w := by
  unfold Go.wpOp
  rw [hi]
  rcases h with ⟨hw, h⟩ | ⟨hw, rfl⟩
  · simp only [hw, if_true]
    left
    unfold Oper.wp
    rw [h w hI]
    exact hk
  · simp only [hw, Bool.false_eq_true, if_false]
    exact hk
/-- whatever order is picked from here on -/
def wpN (s : Nat) (Inv : World → Prop) (md : Region.Mode) (ops : Array Oper) (Q : Exit → Act → World → Prop) : Nat → Array Bool → Act → World → Prop
  | 0, listed, a, w => Region.ready md ops listed = [] ∧ Q .normal a w
  | k + 1, listed, a, w => (Region.ready md ops listed = [] → Q .normal a w) ∧ ∀ i ∈ Region.ready md ops listed, wpOp Tryz.prog ops Q i (fun a' w' => (i ≠ s → Inv w') ∧ wpN s Inv md ops Q k (listed.setIfInBounds i true) a' w') a w
theorem wpN.any : ∀ (k : Nat) (listed : Array Bool) (a : Act) (w : World), wpN s Inv md ops Q k listed a w → wpAny Tryz.prog md ops Q k listed a w
  | 0, _, _, _, h => h
  | k + 1, _, _, _, h => ⟨h.1, fun i hi => wpOp_mono (fun a' w' h' => wpN.any k _ a' w' h'.2) (h.2 i hi)⟩
theorem wpN_first {i : Nat} {oi : Oper} {v : Value} (hi : ops[i]? = some oi) (hsel : ∀ (j : Nat) (o : Oper) cs b, ops[j]? = some o → o.op ≠ .select cs b)
    (hQ : ∀ c a w, Q (.panic c) (a.put oi.dst v) w → Q (.panic c) a w) (his : i ≠ s) (hdep : ∀ os, ops[s]? = some os → ∃ e ∈ os.after, Region.binds md e = true ∧ e.on = i) :
    ∀ (k : Nat) (listed : Array Bool) (a : Act) (w : World), Inv w → (∀ j oj, ops[j]? = some oj → j ≠ i → listed.getD j true = false → (∀ e ∈ oj.after, Region.binds md e = true → e.on ≠ i) → oi.apart ops oj = true) →
      i ∈ Region.ready md ops listed → YieldsN Inv ops oi v a → wpN s Inv md ops Q k (listed.setIfInBounds i true) (a.put oi.dst v) w → wpN s Inv md ops Q (k + 1) listed a w := by
  intro k
  induction k with
  | zero =>
    intro listed a w hI _ hr hy H
    refine ⟨fun e => (by rw [e] at hr; cases hr), fun j hj => ?_⟩
    by_cases hji : j = i
    · subst hji
      exact hy.wpOp hi hI ⟨fun _ => hI, H⟩
    · have := ready_mono hj hji
      rw [H.1] at this
      cases this
  | succ k ih =>
    intro listed a w hI hfree hr hy H
    refine ⟨fun e => (by rw [e] at hr; cases hr), fun j hj => ?_⟩
    by_cases hji : j = i
    · subst hji
      exact hy.wpOp hi hI ⟨fun _ => hI, H⟩
    · obtain ⟨hun, oj, hoj, hall⟩ := mem_ready.1 hj
      have hno : ∀ e ∈ oj.after, Region.binds md e = true → e.on ≠ i := fun e he hb heq => by
        have h1 := hall e he hb
        rw [heq] at h1
        have h0 := (mem_ready.1 hr).1
        by_cases hlt : i < listed.size
        · simp [Array.getD, hlt] at h0 h1
          rw [h0] at h1
          cases h1
        · simp [Array.getD, hlt] at h1
      have hjs : j ≠ s := fun e => by
        subst e
        obtain ⟨e, he, hb, heq⟩ := hdep oj hoj
        exact hno e he hb heq
      have h2 := wpOp_beforeY hoj (hfree j oj hoj hji hun hno) (fun cs b => hsel i oi cs b hi) (fun cs b => hsel j oj cs b hoj) hQ YieldsN.same hy (H.2 j (ready_mono hj hji))
      refine wpOp_mono (fun a' w' h3 => ⟨fun _ => h3.2.1 hjs, ih (listed.setIfInBounds j true) a' w' (h3.2.1 hjs) ?_ (ready_mono hr (Ne.symm hji)) h3.1 ?_⟩) h2
      · intro l ol hl hli hunl hnol
        refine hfree l ol hl hli ?_ hnol
        by_cases hjl : j = l
        · subst hjl; exact hun
        · rwa [getD_set_ne true hjl] at hunl
      · rw [Array.setIfInBounds_comm _ _ hji]
        exact h3.2.2
theorem wp_region_N (s : Nat) (Inv : World → Prop) {id : Nat} {a : Act} {w : World} (h : wpN s Inv .any ops Q ops.size (Array.replicate ops.size false) a w.drew) : (Code.region id ops true).wp Tryz.prog Q a w :=
  wp_region_any (by kernel_rfl) (wpN.any _ _ _ _ h)
def depN (md : Region.Mode) (ops : Array Oper) (s i : Nat) : Bool := match ops[s]? with
  | some os => os.after.any fun e => Region.binds md e && e.on == i
  | none => true
theorem depN_spec {i : Nat} (h : depN md ops s i = true) : ∀ os, ops[s]? = some os → ∃ e ∈ os.after, Region.binds md e = true ∧ e.on = i := by
  intro os ho
  unfold depN at h
  rw [ho] at h
  simp only [Array.any_eq_true] at h
  obtain ⟨k, hk, h⟩ := h
  simp at h
  exact ⟨_, Array.getElem_mem hk, h.1, h.2⟩
def okN (s : Nat) (md : Region.Mode) (ops : Array Oper) (listed : Array Bool) (i d : Nat) (oi : Oper) (t : Array Value) (b : Bool) : Bool :=
  oi.dst == some d && Region.noSelect ops && Region.free md ops listed i && (Region.ready md ops listed).contains i && (Region.wanted oi (yielded ops t) == b) && (i != s) && depN md ops s i
theorem okN_spec {listed : Array Bool} {i d : Nat} {oi : Oper} {t : Array Value} {b : Bool} (h : okN s md ops listed i d oi t b = true) : oi.dst = some d ∧ Region.noSelect ops = true ∧ Region.free md ops listed i = true ∧ (Region.ready md ops listed).contains i = true ∧ Region.wanted oi (yielded ops t) = b ∧ i ≠ s ∧ depN md ops s i = true := by
  simp only [okN, Bool.and_eq_true, beq_iff_eq, bne_iff_ne] at h
  obtain ⟨⟨⟨⟨⟨⟨h1, h2⟩, h3⟩, h4⟩, h5⟩, h6⟩, h7⟩ := h
  exact ⟨h1, h2, h3, h4, h5, h6, h7⟩
theorem tN (i d : Nat) (v : Value) {oi : Oper} {k : Nat} {listed : Array Bool} {a : Act} {w : World} (hi : ops[i]? = some oi) (hk : okN s md ops listed i d oi a.tmps true = true) (hI : Inv w)
    (hQ : ∀ c a w, Q (.panic c) (a.put (some d) v) w → Q (.panic c) a w) (hy : ∀ w, Inv w → (execOp a.eval oi).run Tryz.prog w = .ok (.value v) w)
    (h : wpN s Inv md ops Q k (listed.setIfInBounds i true) (a.put (some d) v) w) : wpN s Inv md ops Q (k + 1) listed a w := by
  obtain ⟨h1, h3, h4, h5, h6, h7, h8⟩ := okN_spec hk
  exact wpN_first hi (Region.noSelect_spec h3) (by rw [h1]; exact hQ) h7 (depN_spec h8) k listed a w hI (Region.free_spec hi h4) (by simpa using h5) (.inl ⟨h6, hy⟩) (by rw [h1]; exact h)
/-- each of these comes up next -/
def AllN (s : Nat) (Inv : World → Prop) (md : Region.Mode) (ops : Array Oper) (Q : Exit → Act → World → Prop) (k : Nat) (listed : Array Bool) (a : Act) (w : World) (rs : List Nat) : Prop :=
  ∀ i ∈ rs, wpOp Tryz.prog ops Q i (fun a' w' => (i ≠ s → Inv w') ∧ wpN s Inv md ops Q k (listed.setIfInBounds i true) a' w') a w
theorem readyN (rs : List Nat) {k : Nat} {listed : Array Bool} {a : Act} {w : World} (hr : Region.ready md ops listed = rs) (hne : rs ≠ []) (h : AllN s Inv md ops Q k listed a w rs) : wpN s Inv md ops Q (k + 1) listed a w :=
  ⟨fun e => absurd (hr ▸ e) hne, hr ▸ h⟩
theorem AllN.nil {k : Nat} {listed : Array Bool} {a : Act} {w : World} : AllN s Inv md ops Q k listed a w [] := fun _ h => by cases h
theorem AllN.call (i d : Nat) {oi : Oper} {k : Nat} {listed : Array Bool} {a : Act} {w : World} {rs : List Nat} (f : FuncId) (args : Array Value) (hi : ops[i]? = some oi) (hk : (oi.dst == some d && Region.wanted oi (yielded ops a.tmps)) = true)
    (hx : (execOp a.eval oi).run Tryz.prog w = .ok (.enter f args) w) (hc : Calls Tryz.prog f args w fun e w' => ∃ v, e = .returned v ∧ Inv w' ∧ wpN s Inv md ops Q k (listed.setIfInBounds i true) (a.put (some d) v) w')
    (hs : AllN s Inv md ops Q k listed a w rs) : AllN s Inv md ops Q k listed a w (i :: rs) := fun j hj => by
  simp only [Bool.and_eq_true, beq_iff_eq] at hk
  obtain ⟨hd, hw⟩ := hk
  rcases List.mem_cons.1 hj with rfl | hj
  · unfold Go.wpOp
    rw [hi]
    simp only [hw, if_true]
    left
    unfold Oper.wp
    rw [hx]
    refine Calls.mono hc ?_
    rintro e w' ⟨v, rfl, hg, h⟩
    show _ ∧ _
    rw [hd]
    exact ⟨fun _ => hg, h⟩
  · exact hs j hj
theorem AllN.value (i d : Nat) (v : Value) (w' : World) {oi : Oper} {k : Nat} {listed : Array Bool} {a : Act} {w : World} {rs : List Nat} (hi : ops[i]? = some oi) (hk : (oi.dst == some d && Region.wanted oi (yielded ops a.tmps)) = true)
    (hx : (execOp a.eval oi).run Tryz.prog w = .ok (.value v) w') (hI : Inv w') (h : wpN s Inv md ops Q k (listed.setIfInBounds i true) (a.put (some d) v) w')
    (hs : AllN s Inv md ops Q k listed a w rs) : AllN s Inv md ops Q k listed a w (i :: rs) := fun j hj => by
  simp only [Bool.and_eq_true, beq_iff_eq] at hk
  obtain ⟨hd, hw⟩ := hk
  rcases List.mem_cons.1 hj with rfl | hj
  · unfold Go.wpOp
    rw [hi]
    simp only [hw, if_true]
    left
    unfold Oper.wp
    rw [hx]
    show _ ∧ _
    rw [hd]
    exact ⟨fun _ => hI, h⟩
  · exact hs j hj
theorem AllN.last (i : Nat) (w' : World) {oi : Oper} {k : Nat} {listed : Array Bool} {a : Act} {w : World} {rs : List Nat} (hi : ops[i]? = some oi) (hk : (oi.dst == none && Region.wanted oi (yielded ops a.tmps) && i == s) = true)
    (hx : (execOp a.eval oi).run Tryz.prog w = .ok .skip w') (h : wpN s Inv md ops Q k (listed.setIfInBounds i true) a w')
    (hs : AllN s Inv md ops Q k listed a w rs) : AllN s Inv md ops Q k listed a w (i :: rs) := fun j hj => by
  simp only [Bool.and_eq_true, beq_iff_eq] at hk
  obtain ⟨⟨hd, hw⟩, hs'⟩ := hk
  rcases List.mem_cons.1 hj with rfl | hj
  · unfold Go.wpOp
    rw [hi]
    simp only [hw, if_true]
    left
    unfold Oper.wp
    rw [hx]
    show _ ∧ _
    rw [hd]
    exact ⟨fun e => absurd hs' e, h⟩
  · exact hs j hj
theorem doneN {k : Nat} {listed : Array Bool} {a : Act} {w : World} (hr : Region.ready md ops listed = []) (h : Q .normal a w) : wpN s Inv md ops Q k listed a w := by
  cases k with
  | zero => exact ⟨hr, h⟩
  | succ k => exact ⟨fun _ => h, fun i hi => by rw [hr] at hi; cases hi⟩
end
end Go.Proofs.YthioflehpifflaaGreatDoor
