import Derived.Test.YtbjjbgaomoihaaaGreatDoorPutA
namespace Go.Proofs.YtbjjbgaomoihaaaGreatDoor
open Go.RowKit
def GB (K : Nat) (w w' : World) : Prop := But K w w'
theorem GB.refl {K : Nat} (w : World) : GB K w w := But.refl _ _
theorem GB.trans {K : Nat} {a b c : World} (h : GB K a b) (k : GB K b c) : GB K a c := But.trans h k
theorem GB.of {K : Nat} {a b : World} (h : G a b) : GB K a b := But.of_below h
theorem GB.drew {K : Nat} (w : World) : GB K w w.drew := GB.of (G.drew w)
theorem GB.cell {K : Nat} {w w' : World} {a : Addr} {v : Value} (h : GB K w w') (hn : a.block ≠ K) (hc : w.cell? a = some v) : w'.cell? a = some v := But.cell h hc hn
variable {K : Nat}
def YieldsB (K : Nat) (ops : Array Oper) (w0 : World) (o : Oper) (v : Value) (a : Act) : Prop :=
  (Region.wanted o (yielded ops a.tmps) = true ∧ ∀ w, GB K w0 w → o.quietAt Tryz.prog a (GB K w) w v) ∨ (Region.wanted o (yielded ops a.tmps) = false ∧ v = undef)
theorem YieldsB.of_same {ops : Array Oper} {w0 : World} {o : Oper} {v : Value} {a a' : Act} (h : YieldsB K ops w0 o v a) (he : execOp a'.eval o = execOp a.eval o)
    (hw : Region.wanted o (yielded ops a'.tmps) = Region.wanted o (yielded ops a.tmps)) : YieldsB K ops w0 o v a' := by
  unfold YieldsB Oper.quietAt at *
  rw [he, hw]
  exact h
theorem YieldsB.mono {ops : Array Oper} {w0 w1 : World} {o : Oper} {v : Value} {a : Act} (h : YieldsB K ops w0 o v a) (hg : GB K w0 w1) : YieldsB K ops w1 o v a :=
  h.imp (fun h => ⟨h.1, fun w hw => h.2 w (hg.trans hw)⟩) id
theorem wp_of_quietAtB {o : Oper} {a : Act} {w : World} {v : Value} {KK : Act → World → Prop} {Q : Exit → Act → World → Prop} (h : o.quietAt Tryz.prog a (GB K w) w v) (hk : ∀ w', GB K w w' → KK (a.put o.dst v) w') : o.wp Tryz.prog a w KK Q := by
  unfold Oper.quietAt at h
  unfold Oper.wp
  generalize (execOp a.eval o).run Tryz.prog w = r at *
  match r, h with
  | .ok (.value u) w', h =>
    obtain ⟨rfl, rfl⟩ := h
    exact hk _ (GB.refl _)
  | .ok .skip w', h =>
    obtain ⟨rfl, rfl⟩ := h
    exact hk _ (GB.refl _)
  | .ok (.enter f args) w', h =>
    obtain ⟨rfl, h⟩ := h
    refine Calls.mono h ?_
    rintro e w'' ⟨rfl, hg⟩
    exact hk _ hg
theorem YieldsB.wpOp {ops : Array Oper} {Q : Exit → Act → World → Prop} {w0 w : World} {i : Nat} {o : Oper} {v : Value} {a : Act} {KK : Act → World → Prop} (h : YieldsB K ops w0 o v a) (hi : ops[i]? = some o) (hg : GB K w0 w) (hk : ∀ w', GB K w w' → KK (a.put o.dst v) w') : wpOp Tryz.prog ops Q i KK a w := by
  unfold Go.wpOp
  rw [hi]
  rcases h with ⟨hw, h⟩ | ⟨hw, rfl⟩
  · simp only [hw, if_true]
    exact .inl (wp_of_quietAtB (h w hg) hk)
  · simp only [hw, Bool.false_eq_true, if_false]
    exact hk _ (GB.refl _)
def wpB (K : Nat) (md : Region.Mode) (ops : Array Oper) (Q : Exit → Act → World → Prop) : Nat → Array Bool → Act → World → Prop
  | 0, listed, a, w0 => ∀ w, GB K w0 w → Region.ready md ops listed = [] ∧ Q .normal a w
  | n + 1, listed, a, w0 => ∀ w, GB K w0 w → (Region.ready md ops listed = [] → Q .normal a w) ∧
    ∀ i ∈ Region.ready md ops listed, wpOp Tryz.prog ops Q i (fun a' w' => GB K w w' ∧ wpB K md ops Q n (listed.setIfInBounds i true) a' w') a w
theorem wpB.grow {md : Region.Mode} {ops : Array Oper} {Q : Exit → Act → World → Prop} {n : Nat} {listed : Array Bool} {a : Act} {w w' : World} (h : wpB K md ops Q n listed a w) (hg : GB K w w') : wpB K md ops Q n listed a w' := by
  cases n with
  | zero => exact fun x hx => h x (hg.trans hx)
  | succ n => exact fun x hx => h x (hg.trans hx)
theorem wpB.any {md : Region.Mode} {ops : Array Oper} {Q : Exit → Act → World → Prop} : ∀ (n : Nat) (listed : Array Bool) (a : Act) (w : World), wpB K md ops Q n listed a w → wpAny Tryz.prog md ops Q n listed a w
  | 0, _, _, w, h => h w (GB.refl w)
  | n + 1, _, _, w, h => ⟨(h w (GB.refl w)).1, fun i hi => wpOp_mono (fun a' w' h' => wpB.any n _ a' w' h'.2) ((h w (GB.refl w)).2 i hi)⟩
section
variable {ops : Array Oper} {Q : Exit → Act → World → Prop} {md : Region.Mode}
def AllB (K : Nat) (md : Region.Mode) (ops : Array Oper) (Q : Exit → Act → World → Prop) (n : Nat) (listed : Array Bool) (a : Act) (w : World) (rs : List Nat) : Prop :=
  ∀ i ∈ rs, wpOp Tryz.prog ops Q i (fun a' w' => GB K w w' ∧ wpB K md ops Q n (listed.setIfInBounds i true) a' w') a w
theorem AllB.nil {n : Nat} {listed : Array Bool} {a : Act} {w : World} : AllB K md ops Q n listed a w [] := fun _ h => by cases h
theorem AllB.call (i d : Nat) {oi : Oper} {n : Nat} {listed : Array Bool} {a : Act} {w : World} {rs : List Nat} (f : FuncId) (args : Array Value) (hi : ops[i]? = some oi) (hd : oi.dst = some d) (hw : Region.wanted oi (yielded ops a.tmps) = true)
    (hx : (execOp a.eval oi).run Tryz.prog w = .ok (.enter f args) w) (hc : Calls Tryz.prog f args w fun e w' => ∃ v, e = .returned v ∧ GB K w w' ∧ wpB K md ops Q n (listed.setIfInBounds i true) (a.put (some d) v) w')
    (hs : AllB K md ops Q n listed a w rs) : AllB K md ops Q n listed a w (i :: rs) := fun j hj => by
  rcases List.mem_cons.1 hj with rfl | hj
  · unfold Go.wpOp
    rw [hi]
    simp only [hw, if_true]
    left
    unfold Oper.wp
    rw [hx]
    refine Calls.mono hc ?_
    rintro e w' ⟨v, rfl, hg, h⟩
    rw [hd]
    exact ⟨hg, h⟩
  · exact hs j hj
theorem AllB.value (i d : Nat) (v : Value) (w' : World) {oi : Oper} {n : Nat} {listed : Array Bool} {a : Act} {w : World} {rs : List Nat} (hi : ops[i]? = some oi) (hd : oi.dst = some d) (hw : Region.wanted oi (yielded ops a.tmps) = true)
    (hx : (execOp a.eval oi).run Tryz.prog w = .ok (.value v) w') (hg : GB K w w') (h : wpB K md ops Q n (listed.setIfInBounds i true) (a.put (some d) v) w')
    (hs : AllB K md ops Q n listed a w rs) : AllB K md ops Q n listed a w (i :: rs) := fun j hj => by
  rcases List.mem_cons.1 hj with rfl | hj
  · unfold Go.wpOp
    rw [hi]
    simp only [hw, if_true]
    left
    unfold Oper.wp
    rw [hx]
    show GB K w w' ∧ _
    rw [hd]
    exact ⟨hg, h⟩
  · exact hs j hj
theorem AllB.skip (i : Nat) (w' : World) {oi : Oper} {n : Nat} {listed : Array Bool} {a : Act} {w : World} {rs : List Nat} (hi : ops[i]? = some oi) (hd : oi.dst = none) (hw : Region.wanted oi (yielded ops a.tmps) = true)
    (hx : (execOp a.eval oi).run Tryz.prog w = .ok .skip w') (hg : GB K w w') (h : wpB K md ops Q n (listed.setIfInBounds i true) a w')
    (hs : AllB K md ops Q n listed a w rs) : AllB K md ops Q n listed a w (i :: rs) := fun j hj => by
  rcases List.mem_cons.1 hj with rfl | hj
  · unfold Go.wpOp
    rw [hi]
    simp only [hw, if_true]
    left
    unfold Oper.wp
    rw [hx]
    show GB K w w' ∧ _
    rw [hd]
    exact ⟨hg, h⟩
  · exact hs j hj
end
end Go.Proofs.YtbjjbgaomoihaaaGreatDoor
namespace Go.Proofs.YtbjjbgaomoihaaaGreatDoor
open Go.RowKit
def wpM (s1 s2 K : Nat) (md : Region.Mode) (ops : Array Oper) (Q : Exit → Act → World → Prop) : Nat → Array Bool → Act → World → Prop
  | 0, listed, a, w0 => ∀ w, G w0 w → Region.ready md ops listed = [] ∧ Q .normal a w
  | n + 1, listed, a, w0 => ∀ w, G w0 w → (Region.ready md ops listed = [] → Q .normal a w) ∧
    ∀ i ∈ Region.ready md ops listed, wpOp Tryz.prog ops Q i (fun a' w' => (i = s1 → GB K w w' ∧ wpS s2 md ops Q n (listed.setIfInBounds i true) a' w') ∧ (i ≠ s1 → G w w' ∧ wpM s1 s2 K md ops Q n (listed.setIfInBounds i true) a' w')) a w
theorem wpM.grow {s1 s2 K : Nat} {md : Region.Mode} {ops : Array Oper} {Q : Exit → Act → World → Prop} {n : Nat} {listed : Array Bool} {a : Act} {w w' : World} (h : wpM s1 s2 K md ops Q n listed a w) (hg : G w w') : wpM s1 s2 K md ops Q n listed a w' := by
  cases n with
  | zero => exact fun x hx => h x (hg.trans hx)
  | succ n => exact fun x hx => h x (hg.trans hx)
theorem wpM.any {s1 s2 K : Nat} {md : Region.Mode} {ops : Array Oper} {Q : Exit → Act → World → Prop} : ∀ (n : Nat) (listed : Array Bool) (a : Act) (w : World), wpM s1 s2 K md ops Q n listed a w → wpAny Tryz.prog md ops Q n listed a w
  | 0, _, _, w, h => h w (G.refl w)
  | n + 1, _, _, w, h => ⟨(h w (G.refl w)).1, fun i hi => wpOp_mono (fun a' w' h' => by
      by_cases e : i = s1
      · exact wpS.any n _ a' w' (h'.1 e).2
      · exact wpM.any n _ a' w' (h'.2 e).2) ((h w (G.refl w)).2 i hi)⟩
theorem wpOp_beforeY {Y : Act → Prop} {ops : Array Oper} {Q : Exit → Act → World → Prop} {w : World} {j : Nat} {oi oj : Oper} {v : Value} {a : Act} {K : Act → World → Prop} (hj : ops[j]? = some oj) (hap : oi.apart ops oj = true)
    (hsi : ∀ cs b, oi.op ≠ .select cs b) (hsj : ∀ cs b, oj.op ≠ .select cs b) (hQ : ∀ c a w, Q (.panic c) (a.put oi.dst v) w → Q (.panic c) a w)
    (hyc : ∀ a a' : Act, execOp a'.eval oi = execOp a.eval oi → Region.wanted oi (yielded ops a'.tmps) = Region.wanted oi (yielded ops a.tmps) → Y a → Y a') (hy : Y a) (h : wpOp Tryz.prog ops Q j K (a.put oi.dst v) w) : wpOp Tryz.prog ops Q j (fun a' w' => Y a' ∧ K (a'.put oi.dst v) w') a w := by
  obtain ⟨s1, s2, s3⟩ := Oper.apart_spec hap
  have stay : ∀ u, Y (a.put oj.dst u) := fun u => hyc _ _ (execOp_put oi hsi a oj.dst u s3) (wanted_put oi a oj.dst u s3) hy
  have swap : ∀ u, (a.put oi.dst v).put oj.dst u = (a.put oj.dst u).put oi.dst v := fun u => Act.put_comm a v u s2
  have ex : execOp (a.put oi.dst v).eval oj = execOp a.eval oj := execOp_put oj hsj a oi.dst v s1
  unfold Go.wpOp at h ⊢
  rw [hj] at h ⊢
  simp only at h ⊢
  rw [wanted_put oj a oi.dst v s1] at h
  by_cases hw : Region.wanted oj (yielded ops a.tmps) = true
  · rw [if_pos hw] at h ⊢
    rcases h with h | h
    · left
      unfold Oper.wp at h ⊢
      rw [ex] at h
      generalize (execOp a.eval oj).run Tryz.prog w = r at h ⊢
      match r, h with
      | .ok (.value u) w', h => exact ⟨stay u, by rw [← swap]; exact h⟩
      | .ok .skip w', h => exact ⟨stay undef, by rw [← swap]; exact h⟩
      | .ok (.defer d) w', h =>
        refine ⟨hyc { a with defers := d :: a.defers } _ (execOp_put oi hsi _ oj.dst undef s3) (wanted_put oi _ oj.dst undef s3) (hyc a _ rfl rfl hy), ?_⟩
        rw [← Act.put_comm _ v undef s2, ← Act.put_defers]
        exact h
      | .ok (.enter f args) w', h =>
        refine Calls.mono h fun e w'' he => ?_
        match e, he with
        | .returned u, he => exact ⟨stay u, by rw [← swap]; exact he⟩
        | .panicked c, he => exact hQ _ _ _ he
        | .outgrown, he => exact he
      | .ok (.row row args) w', h => exact Rows.mono h fun u w'' he => ⟨stay u, by rw [← swap]; exact he⟩
      | .halt (.panic u) w', h => exact hQ _ _ _ h
    · right
      refine ⟨?_, h.2⟩
      have := h.1
      unfold Oper.asks at this ⊢
      rw [ex] at this
      exact this
  · rw [if_neg hw] at h ⊢
    exact ⟨stay undef, by rw [← swap]; exact h⟩
def YM (K : Nat) (dep : Prop) (ops : Array Oper) (w0 : World) (oi : Oper) (v : Value) (a : Act) : Prop := Region.wanted oi (yielded ops a.tmps) = true ∧ (∀ w, G w0 w → (execOp a.eval oi).run Tryz.prog w = .ok (.value v) w) ∧ (dep ∨ ∀ w, GB K w0 w → (execOp a.eval oi).run Tryz.prog w = .ok (.value v) w)
theorem YM.same {K : Nat} {dep : Prop} {ops : Array Oper} {w0 : World} {oi : Oper} {v : Value} (a a' : Act) (he : execOp a'.eval oi = execOp a.eval oi) (hw : Region.wanted oi (yielded ops a'.tmps) = Region.wanted oi (yielded ops a.tmps)) (h : YM K dep ops w0 oi v a) : YM K dep ops w0 oi v a' := by
  unfold YM at *
  rw [he, hw]
  exact h
theorem YM.mono {K : Nat} {dep : Prop} {ops : Array Oper} {w0 w1 : World} {oi : Oper} {v : Value} {a : Act} (h : YM K dep ops w0 oi v a) (hg : G w0 w1) : YM K dep ops w1 oi v a :=
  ⟨h.1, fun w hw => h.2.1 w (hg.trans hw), h.2.2.imp id fun h w hw => h w ((GB.of hg).trans hw)⟩
theorem YM.yields {K : Nat} {dep : Prop} {ops : Array Oper} {w0 : World} {oi : Oper} {v : Value} {a : Act} (h : YM K dep ops w0 oi v a) : YieldsG ops w0 oi v a :=
  .inl ⟨h.1, fun w hg => by unfold Oper.quietAt; rw [h.2.1 w hg]; exact ⟨rfl, rfl⟩⟩
theorem wpM_first {s1 s2 K : Nat} {md : Region.Mode} {ops : Array Oper} {Q : Exit → Act → World → Prop} {i : Nat} {oi : Oper} {v : Value} {dep : Prop} (hi : ops[i]? = some oi) (hsel : ∀ (j : Nat) (o : Oper) cs b, ops[j]? = some o → o.op ≠ .select cs b)
    (hQ : ∀ c a w, Q (.panic c) (a.put oi.dst v) w → Q (.panic c) a w) (his : i ≠ s1) (hi2 : i ≠ s2) (hdep2 : ∀ os, ops[s2]? = some os → ∃ e ∈ os.after, Region.binds md e = true ∧ e.on = i)
    (hdep : dep → ∀ os, ops[s1]? = some os → ∃ e ∈ os.after, Region.binds md e = true ∧ e.on = i) :
    ∀ (n : Nat) (listed : Array Bool) (a : Act) (w0 : World), (∀ j oj, ops[j]? = some oj → j ≠ i → listed.getD j true = false → (∀ e ∈ oj.after, Region.binds md e = true → e.on ≠ i) → oi.apart ops oj = true) →
      i ∈ Region.ready md ops listed → YM K dep ops w0 oi v a → wpM s1 s2 K md ops Q n (listed.setIfInBounds i true) (a.put oi.dst v) w0 → wpM s1 s2 K md ops Q (n + 1) listed a w0 := by
  intro n
  induction n with
  | zero =>
    intro listed a w0 _ hr hy H w hg
    refine ⟨fun e => (by rw [e] at hr; cases hr), fun j hj => ?_⟩
    by_cases hji : j = i
    · subst hji
      exact hy.yields.wpOp hi hg fun w' hg' => ⟨fun e => absurd e his, fun _ => ⟨hg', fun x hx => H x ((hg.trans hg').trans hx)⟩⟩
    · have := ready_mono hj hji
      rw [(H w hg).1] at this
      cases this
  | succ n ih =>
    intro listed a w0 hfree hr hy H w hg
    refine ⟨fun e => (by rw [e] at hr; cases hr), fun j hj => ?_⟩
    by_cases hji : j = i
    · subst hji
      exact hy.yields.wpOp hi hg fun w' hg' => ⟨fun e => absurd e his, fun _ => ⟨hg', H.grow (hg.trans hg')⟩⟩
    · obtain ⟨hun, oj, hoj, hall⟩ := mem_ready.1 hj
      have hlist : ∀ e ∈ oj.after, Region.binds md e = true → e.on ≠ i := fun e he hb heq => by
        have h1 := hall e he hb
        rw [heq] at h1
        have h0 := (mem_ready.1 hr).1
        by_cases hlt : i < listed.size
        · simp [Array.getD, hlt] at h0 h1
          rw [h0] at h1
          cases h1
        · simp [Array.getD, hlt] at h1
      have hap := hfree j oj hoj hji hun hlist
      have h2 := wpOp_beforeY hoj hap (fun cs b => hsel i oi cs b hi) (fun cs b => hsel j oj cs b hoj) hQ YM.same hy ((H w hg).2 j (ready_mono hj hji))
      have hfree' : ∀ k ok, ops[k]? = some ok → k ≠ i → (listed.setIfInBounds j true).getD k true = false → (∀ e ∈ ok.after, Region.binds md e = true → e.on ≠ i) → oi.apart ops ok = true := by
        intro k ok hk hki hunk hnok
        refine hfree k ok hk hki ?_ hnok
        by_cases hjk : j = k
        · subst hjk; exact hun
        · rwa [getD_set_ne true hjk] at hunk
      refine wpOp_mono (fun a' w' h3 => ⟨fun hjs => ?_, fun hjs => ?_⟩) h2
      · have hinv : ∀ w, GB K w0 w → (execOp a'.eval oi).run Tryz.prog w = .ok (.value v) w := by
          rcases h3.1.2.2 with hd | h
          · exfalso
            obtain ⟨e, he, hb, heq⟩ := hdep hd oj (hjs ▸ hoj)
            exact hlist e he hb heq
          · exact h
        have h4 := h3.2.1 hjs
        have hB0 : GB K w0 w' := (GB.of hg).trans h4.1
        refine ⟨h4.1, wpS_first hi hsel hQ hi2 hdep2 n (listed.setIfInBounds j true) a' w' hfree' (ready_mono hr (Ne.symm hji)) (.inl ⟨h3.1.1, fun x hx => by unfold Oper.quietAt; rw [hinv x (hB0.trans (GB.of hx))]; exact ⟨rfl, rfl⟩⟩) ?_⟩
        rw [Array.setIfInBounds_comm _ _ hji]
        exact h4.2
      · have h4 := h3.2.2 hjs
        refine ⟨h4.1, ih (listed.setIfInBounds j true) a' w' hfree' (ready_mono hr (Ne.symm hji)) (h3.1.mono (hg.trans h4.1)) ?_⟩
        rw [Array.setIfInBounds_comm _ _ hji]
        exact h4.2
section
variable {s1 s2 K : Nat} {ops : Array Oper} {Q : Exit → Act → World → Prop} {md : Region.Mode}
theorem wp_region_M (s1 s2 K : Nat) {id : Nat} {a : Act} {w : World} (h : wpM s1 s2 K .any ops Q ops.size (Array.replicate ops.size false) a w.drew) : (Code.region id ops true).wp Tryz.prog Q a w :=
  wp_region_any (by kernel_rfl) (wpM.any _ _ _ _ h)
theorem takeM (i d : Nat) (v : Value) {oi : Oper} {n : Nat} {listed : Array Bool} {a : Act} {w0 : World} (hi : ops[i]? = some oi) (hd : oi.dst = some d)
    (hs : Region.noSelect ops = true) (hf : Region.free md ops listed i = true) (hr : (Region.ready md ops listed).contains i = true) (hp : depsOn md ops s2 i = true) (his : (i != s1) = true)
    (hQ : ∀ c a w, Q (.panic c) (a.put (some d) v) w → Q (.panic c) a w) (hw : Region.wanted oi (yielded ops a.tmps) = true) (hy : ∀ w, GB K w0 w → (execOp a.eval oi).run Tryz.prog w = .ok (.value v) w)
    (h : wpM s1 s2 K md ops Q n (listed.setIfInBounds i true) (a.put (some d) v) w0) : wpM s1 s2 K md ops Q (n + 1) listed a w0 :=
  wpM_first (dep := False) hi (Region.noSelect_spec hs) (by rw [hd]; exact hQ) (by simpa using his) (depsOn_spec hp).1 (depsOn_spec hp).2 (fun h => h.elim) n listed a w0 (Region.free_spec hi hf) (by simpa using hr)
    ⟨hw, fun w hg => hy w (GB.of hg), .inr hy⟩ (by rw [hd]; exact h)
theorem takeMd (i d : Nat) (v : Value) {oi : Oper} {n : Nat} {listed : Array Bool} {a : Act} {w0 : World} (hi : ops[i]? = some oi) (hd : oi.dst = some d)
    (hs : Region.noSelect ops = true) (hf : Region.free md ops listed i = true) (hr : (Region.ready md ops listed).contains i = true) (hp : depsOn md ops s2 i = true) (hp1 : depsOn md ops s1 i = true)
    (hQ : ∀ c a w, Q (.panic c) (a.put (some d) v) w → Q (.panic c) a w) (hw : Region.wanted oi (yielded ops a.tmps) = true) (hy : ∀ w, G w0 w → (execOp a.eval oi).run Tryz.prog w = .ok (.value v) w)
    (h : wpM s1 s2 K md ops Q n (listed.setIfInBounds i true) (a.put (some d) v) w0) : wpM s1 s2 K md ops Q (n + 1) listed a w0 :=
  wpM_first (dep := True) hi (Region.noSelect_spec hs) (by rw [hd]; exact hQ) (depsOn_spec hp1).1 (depsOn_spec hp).1 (depsOn_spec hp).2 (fun _ => (depsOn_spec hp1).2) n listed a w0 (Region.free_spec hi hf) (by simpa using hr)
    ⟨hw, hy, .inl trivial⟩ (by rw [hd]; exact h)
theorem storeM {oi : Oper} {n : Nat} {listed : Array Bool} {a : Act} {w0 : World} (hi : ops[s1]? = some oi) (hd : oi.dst = none) (hr : Region.ready md ops listed = [s1]) (hw : Region.wanted oi (yielded ops a.tmps) = true)
    (hx : ∀ w, G w0 w → ∃ w', (execOp a.eval oi).run Tryz.prog w = .ok .skip w' ∧ GB K w w' ∧ wpS s2 md ops Q n (listed.setIfInBounds s1 true) a w') : wpM s1 s2 K md ops Q (n + 1) listed a w0 := fun w hg => by
  refine ⟨fun e => (by rw [hr] at e; cases e), fun j hj => ?_⟩
  rw [hr] at hj
  obtain rfl : j = s1 := by simpa using hj
  unfold Go.wpOp
  rw [hi]
  simp only [hw, if_true]
  left
  unfold Oper.wp
  obtain ⟨w', h1, h2, h3⟩ := hx w hg
  rw [h1, Oper.upon_skip, hd]
  exact ⟨fun _ => ⟨h2, h3⟩, fun e => absurd rfl e⟩
end
end Go.Proofs.YtbjjbgaomoihaaaGreatDoor
