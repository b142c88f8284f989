/-
  few: how many parts raw data has.
-/
import Derived.Test.YtjkbhfkeagfhbaaEq
import Derived.Deep.Quiet
namespace Go.Proofs.Ytjkbhfkeagfhbaa
open Go.RowKit

/-- w' has grown out of w: what was there is as it was -/
def G (w w' : World) : Prop := Below w.heap.size w w'
theorem G.refl (w : World) : G w w := Below.refl _ _
theorem G.trans {a b c : World} (h : G a b) (k : G b c) : G a c := Below.trans (B := a.heap.size) h (k.mono h.size)
theorem G.drew (w : World) : G w w.drew := (Below.refl _ w).drew
theorem G.cell {w w' : World} {a : Addr} {v : Value} (h : G w w') (hc : w.cell? a = some v) : w'.cell? a = some v := (Below.cell (B := w.heap.size) h (World.block_lt_of_cell? w _ hc)).trans hc
theorem G.lies {w w' : World} {g o : Nat} {c : Array Value} (h : G w w') (hc : Lies w g o c) : Lies w' g o c := hc.below h
theorem G.alloc (w : World) (o : Obj) : G w (w.alloc o) := (Below.refl _ w).alloc (Nat.le_refl _) o

/-- in every world that has grown out of w0 operation o yields v, and the world grows -/
def YieldsG (ops : Array Oper) (w0 : World) (o : Oper) (v : Value) (a : Act) : Prop :=
  (Region.wanted o (yielded ops a.tmps) = true ∧ ∀ w, G w0 w → o.quietAt Try.prog a (G w) w v) ∨ (Region.wanted o (yielded ops a.tmps) = false ∧ v = undef)
theorem YieldsG.of_same {ops : Array Oper} {w0 : World} {o : Oper} {v : Value} {a a' : Act} (h : YieldsG ops w0 o v a) (he : execOp a'.eval o = execOp a.eval o)
    (hw : Region.wanted o (yielded ops a'.tmps) = Region.wanted o (yielded ops a.tmps)) : YieldsG ops w0 o v a' := by
  unfold YieldsG Oper.quietAt at *
  rw [he, hw]
  exact h
theorem YieldsG.mono {ops : Array Oper} {w0 w1 : World} {o : Oper} {v : Value} {a : Act} (h : YieldsG ops w0 o v a) (hg : G w0 w1) : YieldsG ops w1 o v a :=
  h.imp (fun h => ⟨h.1, fun w hw => h.2 w (hg.trans hw)⟩) id
theorem wp_of_quietAt {o : Oper} {a : Act} {w : World} {v : Value} {K : Act → World → Prop} {Q : Exit → Act → World → Prop} (h : o.quietAt Try.prog a (G w) w v) (hk : ∀ w', G w w' → K (a.put o.dst v) w') : o.wp Try.prog a w K Q := by
  unfold Oper.quietAt at h
  unfold Oper.wp
  generalize (execOp a.eval o).run Try.prog w = r at *
  match r, h with
  | .ok (.value u) w', h =>
    obtain ⟨rfl, rfl⟩ := h
    exact hk _ (G.refl _)
  | .ok .skip w', h =>
    obtain ⟨rfl, rfl⟩ := h
    exact hk _ (G.refl _)
  | .ok (.enter f args) w', h =>
    obtain ⟨rfl, h⟩ := h
    refine Calls.mono h ?_
    rintro e w'' ⟨rfl, hg⟩
    exact hk _ hg
theorem YieldsG.wpOp {ops : Array Oper} {Q : Exit → Act → World → Prop} {w0 w : World} {i : Nat} {o : Oper} {v : Value} {a : Act} {K : Act → World → Prop} (h : YieldsG ops w0 o v a) (hi : ops[i]? = some o) (hg : G w0 w) (hk : ∀ w', G w w' → K (a.put o.dst v) w') : wpOp Try.prog ops Q i K a w := by
  unfold Go.wpOp
  rw [hi]
  rcases h with ⟨hw, h⟩ | ⟨hw, rfl⟩
  · simp only [hw, if_true]
    exact .inl (wp_of_quietAt (h w hg) hk)
  · simp only [hw, Bool.false_eq_true, if_false]
    exact hk _ (G.refl _)

/-- operation j, apart from i: it makes no difference whether i's value is there already -/
theorem wpOp_before {ops : Array Oper} {Q : Exit → Act → World → Prop} {w0 w : World} {j : Nat} {oi oj : Oper} {v : Value} {a : Act} {K : Act → World → Prop} (hj : ops[j]? = some oj) (hap : oi.apart ops oj = true)
    (hsi : ∀ cs b, oi.op ≠ .select cs b) (hsj : ∀ cs b, oj.op ≠ .select cs b) (hQ : ∀ c a w, Q (.panic c) (a.put oi.dst v) w → Q (.panic c) a w)
    (hy : YieldsG ops w0 oi v a) (h : wpOp Try.prog ops Q j K (a.put oi.dst v) w) : wpOp Try.prog ops Q j (fun a' w' => YieldsG ops w0 oi v a' ∧ K (a'.put oi.dst v) w') a w := by
  obtain ⟨s1, s2, s3⟩ := Oper.apart_spec hap
  have stay : ∀ u, YieldsG ops w0 oi v (a.put oj.dst u) := fun u => hy.of_same (execOp_put oi hsi a oj.dst u s3) (wanted_put oi a oj.dst u s3)
  have swap : ∀ u, (a.put oi.dst v).put oj.dst u = (a.put oj.dst u).put oi.dst v := fun u => Act.put_comm a v u s2
  have ex : execOp (a.put oi.dst v).eval oj = execOp a.eval oj := execOp_put oj hsj a oi.dst v s1
  unfold Go.wpOp at h ⊢
  rw [hj] at h ⊢
  simp only at h ⊢
  rw [wanted_put oj a oi.dst v s1] at h
  by_cases hw : Region.wanted oj (yielded ops a.tmps) = true
  · rw [if_pos hw] at h ⊢
    rcases h with h | h
    · left
      unfold Oper.wp at h ⊢
      rw [ex] at h
      generalize (execOp a.eval oj).run Try.prog w = r at h ⊢
      match r, h with
      | .ok (.value u) w', h => exact ⟨stay u, by rw [← swap]; exact h⟩
      | .ok .skip w', h => exact ⟨stay undef, by rw [← swap]; exact h⟩
      | .ok (.defer d) w', h =>
        refine ⟨(hy.of_same (a' := { a with defers := d :: a.defers }) rfl rfl).of_same (execOp_put oi hsi _ oj.dst undef s3) (wanted_put oi _ oj.dst undef s3), ?_⟩
        rw [← Act.put_comm _ v undef s2, ← Act.put_defers]
        exact h
      | .ok (.enter f args) w', h =>
        refine Calls.mono h fun e w'' he => ?_
        match e, he with
        | .returned u, he => exact ⟨stay u, by rw [← swap]; exact he⟩
        | .panicked c, he => exact hQ _ _ _ he
        | .outgrown, he => exact he
      | .ok (.row row args) w', h => exact Rows.mono h fun u w'' he => ⟨stay u, by rw [← swap]; exact he⟩
      | .halt (.panic u) w', h => exact hQ _ _ _ h
    · right
      refine ⟨?_, h.2⟩
      have := h.1
      unfold Oper.asks at this ⊢
      rw [ex] at this
      exact this
  · rw [if_neg hw] at h ⊢
    exact ⟨stay undef, by rw [← swap]; exact h⟩

/-- whatever order is picked from here on, in every world that has grown out of this one; every operation lets it grow -/
def wpG (md : Region.Mode) (ops : Array Oper) (Q : Exit → Act → World → Prop) : Nat → Array Bool → Act → World → Prop
  | 0, listed, a, w0 => ∀ w, G w0 w → Region.ready md ops listed = [] ∧ Q .normal a w
  | n + 1, listed, a, w0 => ∀ w, G w0 w → (Region.ready md ops listed = [] → Q .normal a w) ∧
    ∀ i ∈ Region.ready md ops listed, wpOp Try.prog ops Q i (fun a' w' => G w w' ∧ wpG md ops Q n (listed.setIfInBounds i true) a' w') a w
theorem wpG.grow {md : Region.Mode} {ops : Array Oper} {Q : Exit → Act → World → Prop} {n : Nat} {listed : Array Bool} {a : Act} {w w' : World} (h : wpG md ops Q n listed a w) (hg : G w w') : wpG md ops Q n listed a w' := by
  cases n with
  | zero => exact fun x hx => h x (hg.trans hx)
  | succ n => exact fun x hx => h x (hg.trans hx)
theorem wpG.any {md : Region.Mode} {ops : Array Oper} {Q : Exit → Act → World → Prop} : ∀ (n : Nat) (listed : Array Bool) (a : Act) (w : World), wpG md ops Q n listed a w → wpAny Try.prog md ops Q n listed a w
  | 0, _, _, w, h => h w (G.refl w)
  | n + 1, _, _, w, h => ⟨(h w (G.refl w)).1, fun i hi => wpOp_mono (fun a' w' h' => wpG.any n _ a' w' h'.2) ((h w (G.refl w)).2 i hi)⟩

theorem wpG_first {md : Region.Mode} {ops : Array Oper} {Q : Exit → Act → World → Prop} {i : Nat} {oi : Oper} {v : Value} (hi : ops[i]? = some oi) (hsel : ∀ (j : Nat) (o : Oper) cs b, ops[j]? = some o → o.op ≠ .select cs b)
    (hQ : ∀ c a w, Q (.panic c) (a.put oi.dst v) w → Q (.panic c) a w) :
    ∀ (n : Nat) (listed : Array Bool) (a : Act) (w0 : World), (∀ j oj, ops[j]? = some oj → j ≠ i → listed.getD j true = false → (∀ e ∈ oj.after, Region.binds md e = true → e.on ≠ i) → oi.apart ops oj = true) →
      i ∈ Region.ready md ops listed → YieldsG ops w0 oi v a → wpG md ops Q n (listed.setIfInBounds i true) (a.put oi.dst v) w0 → wpG md ops Q (n + 1) listed a w0 := by
  intro n
  induction n with
  | zero =>
    intro listed a w0 _ hr hy H w hg
    refine ⟨fun e => (by rw [e] at hr; cases hr), fun j hj => ?_⟩
    by_cases hji : j = i
    · subst hji
      exact hy.wpOp hi hg fun w' hg' => ⟨hg', fun x hx => H x ((hg.trans hg').trans hx)⟩
    · have := ready_mono hj hji
      rw [(H w hg).1] at this
      cases this
  | succ n ih =>
    intro listed a w0 hfree hr hy H w hg
    refine ⟨fun e => (by rw [e] at hr; cases hr), fun j hj => ?_⟩
    by_cases hji : j = i
    · subst hji
      exact hy.wpOp hi hg fun w' hg' => ⟨hg', H.grow (hg.trans hg')⟩
    · obtain ⟨hun, oj, hoj, hall⟩ := mem_ready.1 hj
      have hno : ∀ e ∈ oj.after, Region.binds md e = true → e.on ≠ i := fun e he hb heq => by
        have h1 := hall e he hb
        rw [heq] at h1
        have h0 := (mem_ready.1 hr).1
        by_cases hlt : i < listed.size
        · simp [Array.getD, hlt] at h0 h1
          rw [h0] at h1
          cases h1
        · simp [Array.getD, hlt] at h1
      have h2 := wpOp_before hoj (hfree j oj hoj hji hun hno) (fun cs b => hsel i oi cs b hi) (fun cs b => hsel j oj cs b hoj) hQ hy ((H w hg).2 j (ready_mono hj hji))
      refine wpOp_mono (fun a' w' h3 => ⟨h3.2.1, ih (listed.setIfInBounds j true) a' w' ?_ (ready_mono hr (Ne.symm hji)) (h3.1.mono (hg.trans h3.2.1)) ?_⟩) h2
      · intro k ok hk hki hunk hnok
        refine hfree k ok hk hki ?_ hnok
        by_cases hjk : j = k
        · subst hjk; exact hun
        · rwa [getD_set_ne true hjk] at hunk
      · rw [Array.setIfInBounds_comm _ _ hji]
        exact h3.2.2

section
variable {ops : Array Oper} {Q : Exit → Act → World → Prop} {md : Region.Mode}

theorem wp_region_G {id : Nat} {a : Act} {w : World} (h : wpG .any ops Q ops.size (Array.replicate ops.size false) a w.drew) : (Code.region id ops true).wp Try.prog Q a w :=
  wp_region_any (by kernel_rfl) (wpG.any _ _ _ _ h)
theorem takeG (i d : Nat) (v : Value) {oi : Oper} {n : Nat} {listed : Array Bool} {a : Act} {w0 : World} (hi : ops[i]? = some oi) (hd : oi.dst = some d)
    (hs : Region.noSelect ops = true) (hf : Region.free md ops listed i = true) (hr : (Region.ready md ops listed).contains i = true)
    (hQ : ∀ c a w, Q (.panic c) (a.put (some d) v) w → Q (.panic c) a w) (hw : Region.wanted oi (yielded ops a.tmps) = true) (hy : ∀ w, G w0 w → (execOp a.eval oi).run Try.prog w = .ok (.value v) w)
    (h : wpG md ops Q n (listed.setIfInBounds i true) (a.put (some d) v) w0) : wpG md ops Q (n + 1) listed a w0 :=
  wpG_first hi (Region.noSelect_spec hs) (by rw [hd]; exact hQ) n listed a w0 (Region.free_spec hi hf) (by simpa using hr)
    (.inl ⟨hw, fun w hg => by unfold Oper.quietAt; rw [hy w hg]; exact ⟨rfl, rfl⟩⟩) (by rw [hd]; exact h)
theorem skipG (i d : Nat) {oi : Oper} {n : Nat} {listed : Array Bool} {a : Act} {w0 : World} (hi : ops[i]? = some oi) (hd : oi.dst = some d)
    (hs : Region.noSelect ops = true) (hf : Region.free md ops listed i = true) (hr : (Region.ready md ops listed).contains i = true)
    (hQ : ∀ c a w, Q (.panic c) (a.put (some d) undef) w → Q (.panic c) a w) (hw : Region.wanted oi (yielded ops a.tmps) = false)
    (h : wpG md ops Q n (listed.setIfInBounds i true) (a.put (some d) undef) w0) : wpG md ops Q (n + 1) listed a w0 :=
  wpG_first hi (Region.noSelect_spec hs) (by rw [hd]; exact hQ) n listed a w0 (Region.free_spec hi hf) (by simpa using hr) (.inr ⟨hw, rfl⟩) (by rw [hd]; exact h)
/-- a call that yields one value in every world that has grown out of the one at hand -/
theorem callG (i d : Nat) (v : Value) {oi : Oper} {n : Nat} {listed : Array Bool} {a : Act} {w0 : World} (f : FuncId) (args : Array Value) (hi : ops[i]? = some oi) (hd : oi.dst = some d)
    (hs : Region.noSelect ops = true) (hf : Region.free md ops listed i = true) (hr : (Region.ready md ops listed).contains i = true)
    (hQ : ∀ c a w, Q (.panic c) (a.put (some d) v) w → Q (.panic c) a w) (hw : Region.wanted oi (yielded ops a.tmps) = true) (hx : ∀ w, (execOp a.eval oi).run Try.prog w = .ok (.enter f args) w)
    (hc : ∀ w, G w0 w → Calls Try.prog f args w fun e w' => e = .returned v ∧ G w w')
    (h : wpG md ops Q n (listed.setIfInBounds i true) (a.put (some d) v) w0) : wpG md ops Q (n + 1) listed a w0 :=
  wpG_first hi (Region.noSelect_spec hs) (by rw [hd]; exact hQ) n listed a w0 (Region.free_spec hi hf) (by simpa using hr)
    (.inl ⟨hw, fun w hg => by unfold Oper.quietAt; rw [hx w]; exact ⟨rfl, hc w hg⟩⟩) (by rw [hd]; exact h)
theorem doneG {n : Nat} {listed : Array Bool} {a : Act} {w0 : World} (hr : Region.ready md ops listed = []) (h : ∀ w, G w0 w → Q .normal a w) : wpG md ops Q n listed a w0 := by
  cases n with
  | zero => exact fun w hg => ⟨hr, h w hg⟩
  | succ n => exact fun w hg => ⟨fun _ => h w hg, fun i hi => by rw [hr] at hi; cases hi⟩

/-- each of these comes up next -/
def AllG (md : Region.Mode) (ops : Array Oper) (Q : Exit → Act → World → Prop) (n : Nat) (listed : Array Bool) (a : Act) (w : World) (rs : List Nat) : Prop :=
  ∀ i ∈ rs, wpOp Try.prog ops Q i (fun a' w' => G w w' ∧ wpG md ops Q n (listed.setIfInBounds i true) a' w') a w
theorem readyG (rs : List Nat) {n : Nat} {listed : Array Bool} {a : Act} {w0 : World} (hr : Region.ready md ops listed = rs) (hne : rs ≠ []) (h : ∀ w, G w0 w → AllG md ops Q n listed a w rs) : wpG md ops Q (n + 1) listed a w0 :=
  fun w hg => ⟨fun e => absurd (hr ▸ e) hne, hr ▸ h w hg⟩
theorem AllG.nil {n : Nat} {listed : Array Bool} {a : Act} {w : World} : AllG md ops Q n listed a w [] := fun _ h => by cases h
theorem AllG.call (i d : Nat) {oi : Oper} {n : Nat} {listed : Array Bool} {a : Act} {w : World} {rs : List Nat} (f : FuncId) (args : Array Value) (hi : ops[i]? = some oi) (hd : oi.dst = some d) (hw : Region.wanted oi (yielded ops a.tmps) = true)
    (hx : (execOp a.eval oi).run Try.prog w = .ok (.enter f args) w) (hc : Calls Try.prog f args w fun e w' => ∃ v, e = .returned v ∧ G w w' ∧ wpG md ops Q n (listed.setIfInBounds i true) (a.put (some d) v) w')
    (hs : AllG md ops Q n listed a w rs) : AllG md ops Q n listed a w (i :: rs) := fun j hj => by
  rcases List.mem_cons.1 hj with rfl | hj
  · unfold Go.wpOp
    rw [hi]
    simp only [hw, if_true]
    left
    unfold Oper.wp
    rw [hx]
    refine Calls.mono hc ?_
    rintro e w' ⟨v, rfl, hg, h⟩
    rw [hd]
    exact ⟨hg, h⟩
  · exact hs j hj
theorem AllG.value (i d : Nat) (v : Value) (w' : World) {oi : Oper} {n : Nat} {listed : Array Bool} {a : Act} {w : World} {rs : List Nat} (hi : ops[i]? = some oi) (hd : oi.dst = some d) (hw : Region.wanted oi (yielded ops a.tmps) = true)
    (hx : (execOp a.eval oi).run Try.prog w = .ok (.value v) w') (hg : G w w') (h : wpG md ops Q n (listed.setIfInBounds i true) (a.put (some d) v) w')
    (hs : AllG md ops Q n listed a w rs) : AllG md ops Q n listed a w (i :: rs) := fun j hj => by
  rcases List.mem_cons.1 hj with rfl | hj
  · unfold Go.wpOp
    rw [hi]
    simp only [hw, if_true]
    left
    unfold Oper.wp
    rw [hx]
    show G w w' ∧ _
    rw [hd]
    exact ⟨hg, h⟩
  · exact hs j hj
end
end Go.Proofs.Ytjkbhfkeagfhbaa
namespace Go.Proofs.Ytjkbhfkeagfhbaa
open Go.RowKit

/-- how many parts -/
def F.weight : F → Nat
  | .nil => 0
  | .cons nm _ _ k r => 1 + nm.size + k.weight + r.weight
def F.ok : F → Prop
  | .nil => True
  | .cons nm _ _ k r => nm.size ≤ 9223372036854775807 ∧ k.len ≤ 9223372036854775807 ∧ k.ok ∧ r.ok
theorem F.ok_drop : ∀ {f : F} {k : Nat}, f.ok → (f.drop k).ok
  | f, 0, h => by rw [F.drop_zero]; exact h
  | .nil, _ + 1, _ => trivial
  | .cons _ _ _ _ r, k + 1, h => F.ok_drop (f := r) h.2.2.2

/-- the count at block C -/
def CountAt (w : World) (C : Nat) (n : Int) : Prop := w.cell? ⟨C, 0, none⟩ = some (.int .i64 n) ∧ w.frozen? ⟨C, 0, none⟩ = false ∧ n ≤ 9223372036854775807 ∧ -9223372036854775808 ≤ n
/-- so much less, if it went on -/
def less (n : Int) (k : Nat) (n' : Int) : Prop := 0 ≤ n' → n' = n - (k : Int) ∧ 0 ≤ n
theorem less.trans {a b c : Int} {k l : Nat} (h : less a k b) (h' : less b l c) : less a (k + l) c := fun h0 => by
  have h1 := h' h0
  have h2 := h h1.2
  omega
/-- a forest of an elder world still lies -/
theorem HasS.elder {w0 w : World} {v : Value} {f : F} (h : HasS w0 v f) (hb : Below w0.heap.size w0 w) : HasS w v f := h.below hb

set_option maxRecDepth 100000 in
theorem add_any (C : Nat) (n : Int) (k : Nat) (w : World) (hC : CountAt w C n) (hk : (k : Int) ≤ 9223372036854775807) :
    Calls Try.prog 113 #[.pointer (some ⟨C, 0, none⟩), .int .i64 k] w fun e w' => (∃ v, e = .returned v) ∧ ∃ n', CountAt w' C n' ∧ less n k n' ∧ But C w w' := by
  obtain ⟨hc, hf, hn, hn'⟩ := hC
  by_cases h0 : 0 ≤ n
  · have HN : ∀ r : Int, w.cell? ⟨C, 0, none⟩ = some (.int .i64 n) → Hid ((w.setCell ⟨C, 0, none⟩ (.int .i64 r)).cell? ⟨C, 0, none⟩ = some (.int .i64 r)) := fun r h => World.cell?_setCell_same _ _ _ h
    have HF : ∀ r : Int, Hid ((w.setCell ⟨C, 0, none⟩ (.int .i64 r)).frozen? ⟨C, 0, none⟩ = false) := fun r => by show _ = _; rw [World.frozen?_setCell]; exact hf
    obtain ⟨r, hr⟩ : ∃ r, n - (k : Int) = r := ⟨_, rfl⟩
    have hw : IntKind.i64.wrap (n - (k : Int)) = r := by rw [IntKind.wrap_i64, hr]; omega
    have HR : Hid (r = n - (k : Int) ∧ r ≤ 9223372036854775807 ∧ -9223372036854775808 ≤ r) := ⟨hr.symm, by omega, by omega⟩
    have hc2 := (HN r hc).out
    clear hr
    go_enter Try.func113, Try.ntmps113
    go_wp2
    go_ret
    exact ⟨⟨_, rfl⟩, r, ⟨(HN r hc).out, (HF r).out, HR.out.2⟩, fun _ => ⟨HR.out.1, h0⟩, (But.refl C w).setCell 0 _⟩
  · go_enter Try.func113, Try.ntmps113
    go_wp2
    go_ret
    exact ⟨⟨_, rfl⟩, n, ⟨hc, hf, hn, hn'⟩, fun h => by omega, But.refl C w⟩

set_option maxRecDepth 100000 in
theorem ok_any (C : Nat) (n : Int) (w : World) (hC : CountAt w C n) : Calls Try.prog 32 #[.pointer (some ⟨C, 0, none⟩)] w fun e w' => e = .returned (.bool (decide (0 ≤ n))) ∧ w = w' := by
  obtain ⟨hc, hf, hn, hn'⟩ := hC
  go_enter Try.func32, Try.ntmps32
  go_wp2
  go_ret
  exact ⟨rfl, rfl⟩

set_option maxRecDepth 100000 in
theorem text_any (C : Nat) (n : Int) (s : ByteArray) (w : World) (hC : CountAt w C n) (hs : s.size ≤ 9223372036854775807) :
    Calls Try.prog 95 #[.pointer (some ⟨C, 0, none⟩), .string s] w fun e w' => (∃ v, e = .returned v) ∧ ∃ n', CountAt w' C n' ∧ less n (1 + s.size) n' ∧ But C w w' := by
  have C1 := add_any C n 1 w hC (by omega)
  have C2 := fun w n hC => add_any C n s.size w hC (by omega)
  clear hC
  go_enter Try.func95, Try.ntmps95
  go_wp2_with (first
    | (go_at_call_of 113 (Value.int .i64 1); refine C1.mono ?_; rintro e w1 ⟨⟨b1, rfl⟩, n1, hC1, l1, bl1⟩; have D2 := C2 w1 n1 hC1; clear C1 C2 hC1)
    | (go_at_call 113; refine D2.mono ?_; rintro e w2 ⟨⟨b2, rfl⟩, n2, hC2, l2, bl2⟩))
  go_end0
  exact ⟨⟨_, rfl⟩, n2, hC2, l1.trans l2, bl1.trans bl2⟩

/-- Nodes by contract, of this forest -/
def NodesOk (w0 : World) (f : F) : Prop := ∀ (v : Value), HasS w0 v f → f.ok → f.len ≤ 9223372036854775807 → ∀ (w : World) (C : Nat) (n : Int), Below w0.heap.size w0 w → w0.heap.size ≤ C → CountAt w C n →
    Calls Try.prog 31 #[.pointer (some ⟨C, 0, none⟩), v] w fun e w' => (∃ v, e = .returned v) ∧ ∃ n', CountAt w' C n' ∧ less n f.weight n' ∧ But C w w'
theorem CountAt.alloc {w : World} {C : Nat} {n : Int} (h : CountAt w C n) (o : Obj) : CountAt (w.alloc o) C n :=
  have hlt := World.block_lt_of_cell? w _ h.1
  ⟨(World.cell?_of_block (w := w) (Below.heap_alloc w o C hlt)).trans h.1, (World.frozen?_of_block (w := w) (Below.heap_alloc w o C hlt)).trans h.2.1, h.2.2⟩
theorem CountAt.lt {w : World} {C : Nat} {n : Int} (h : CountAt w C n) : C < w.heap.size := World.block_lt_of_cell? w _ h.1
theorem lies_new (w : World) (c : Array Value) (t : TypeId) : Lies (w.alloc (.cells c t)) w.heap.size 0 c := fun j u hj => by
  have h : (w.alloc (.cells c t)).heap[w.heap.size]? = some (.cells c t) := World.alloc_heap_new w _
  simp only [World.cell?, h, Nat.zero_add]
  exact hj

set_option maxRecDepth 100000 in
theorem node_any (w0 : World) (c : Array Value) (nm : ByteArray) (vv : Vd) (m : Md) (ks : F) (hN : HasN w0 c nm vv m ks) (hok : nm.size ≤ 9223372036854775807 ∧ ks.len ≤ 9223372036854775807 ∧ ks.ok) (ih : NodesOk w0 ks)
    (w : World) (C : Nat) (n : Int) (hb : Below w0.heap.size w0 w) (hw : w0.heap.size ≤ C) (hC : CountAt w C n) :
    Calls Try.prog 69 #[.pointer (some ⟨C, 0, none⟩), .agg c] w fun e w' => (∃ v, e = .returned v) ∧ ∃ n', CountAt w' C n' ∧ less n (1 + nm.size + ks.weight) n' ∧ But C w w' := by
  obtain ⟨kv, hc, hS⟩ := hN
  have hN := nc_nc nm vv m kv
  rw [← hc] at hN
  have k1 := hN.name
  have k2 := hN.kids
  have hlt := hC.lt
  have C1 := text_any C n nm (w.alloc (.cells c 30)) (hC.alloc _) hok.1
  have C2 := fun (w1 : World) (n1 : Int) (b1 : But C (w.alloc (.cells c 30)) w1) (h1 : CountAt w1 C n1) => ih kv hS hok.2.2 hok.2.1 w1 C n1 (hb.trans (((Below.refl _ w).alloc (by omega) _).trans (b1.below hw (by simp; omega)))) hw h1
  have C3 : ∀ w1, But C (w.alloc (.cells c 30)) w1 → w1.cell? ⟨w.heap.size, 40, none⟩ = some kv := fun w1 b1 => b1.cell (by simpa using lies_new w c 30 40 kv k2) (by show w.heap.size ≠ C; omega)
  clear hN hc hC ih
  go_enter Try.func69, Try.ntmps69
  go_wp2_with (first
    | (go_at_call 95; refine C1.mono ?_; rintro e w1 ⟨⟨b1, rfl⟩, n1, hC1, l1, bl1⟩; have D2 := C2 w1 n1 bl1 hC1; have D3 := C3 w1 bl1; clear C1 C2 C3 hC1)
    | (go_at_call 31; refine D2.mono ?_; rintro e w2 ⟨⟨b2, rfl⟩, n2, hC2, l2, bl2⟩))
  go_end0
  exact ⟨⟨_, rfl⟩, n2, hC2, l1.trans l2, ((But.refl C w).alloc _).trans (bl1.trans bl2)⟩

theorem F.kids_size {f : F} {k : Nat} {nm : ByteArray} {v : Vd} {m : Md} {ks r : F} (h : f.drop k = .cons nm v m ks r) : ks.size + 1 + r.size ≤ f.size := by
  have := F.drop_size f k
  rw [h, F.size] at this
  omega
theorem Below.of_but {C : Nat} {w0 w w' : World} (hb : Below w0.heap.size w0 w) (h : But C w w') (hC : w0.heap.size ≤ C) : Below w0.heap.size w0 w' :=
  hb.trans (h.below hC hb.size)

set_option maxRecDepth 100000 in
set_option maxHeartbeats 800000 in
theorem nodes_any (w0 : World) : ∀ (N : Nat) (f : F), f.size < N → NodesOk w0 f := by
  intro N
  induction N with
  | zero => intro f h; omega
  | succ N ih =>
    intro f hN v hS hok hlen w C n hb hw hC
    obtain ⟨a, cap, rfl, _⟩ := hS.form
    have C1 := fun w n h => ok_any C n w h
    obtain ⟨L, hL⟩ : ∃ L, f.len = L := ⟨_, rfl⟩
    rw [hL] at hlen
    have HC : Hid (CountAt w C n) := hC
    have HL : Hid (f.len = L) := hL
    have HS : Hid (HasS w0 (.slice a f.len cap) f) := hS
    rw [hL]
    clear hC hS hL
    go_enter Try.func31, Try.ntmps31
    go_wp2_with fail
    go_loopw [4] (fun i wr => ∃ k : Nat, i = .int .i64 k ∧ k ≤ L ∧ Hid (∃ q n', q + (f.drop k).weight = f.weight ∧ CountAt wr C n' ∧ less n q n' ∧ But C w wr)) (fun i _ => L - iOf i)
    case atStart => exact ⟨0, rfl, Nat.zero_le _, 0, n, by rw [F.drop_zero]; omega, HC.out, fun h => by omega, But.refl _ _⟩
    case round =>
      obtain ⟨k, rfl, hk, q, n', hq, hC', hl', hb'⟩ := hrel
      have D1 := C1 wr n' hC'
      by_cases hlt : k < L
      · have hltI : (k : Int) < (L : Int) := by omega
        by_cases h0 : 0 ≤ n'
        · obtain ⟨g, o, cap', nm, vv, m, ks, c, hv, hd, hN', hc⟩ := HS.out.at (k := k) (by rw [HL.out]; exact hlt)
          cases hv
          have hod : (f.drop k).ok := F.ok_drop hok
          rw [hd] at hod
          have hks := F.kids_size hd
          have hbw := Below.of_but hb hb' hw
          have HLd : Hid (c.size = 41 ∧ Lies wr g (o + k * 41) c) := ⟨by obtain ⟨kv, rfl, _⟩ := hN'; exact nc_size .., Lies.below (w' := wr) hc hbw⟩
          have D2 := node_any w0 c nm vv m ks hN' ⟨hod.1, hod.2.1, hod.2.2.1⟩ (ih ks (by omega)) wr C n' hbw hw hC'
          have HW : Hid (q + (1 + nm.size + ks.weight) + (f.drop (k + 1)).weight = f.weight) := by show _ = _; rw [← hq, hd, F.weight]; omega
          have HB : Hid (less n q n' ∧ But C w wr) := ⟨hl', hb'⟩
          clear hq hd hN' hc hod hks hbw hC' hl' hb'
          go_wp2_with (first
            | (go_at_call 32; refine D1.mono ?_; rintro e w1 ⟨rfl, e1⟩; subst e1)
            | refine wpList_load30 rfl _ rfl _ _ rfl c HLd.out.1 HLd.out.2 ?_
            | (go_at_call 69; refine D2.mono ?_; rintro e w2 ⟨⟨b2, rfl⟩, n2, hC2, l2, bl2⟩))
          go_roundw
          case rel => exact ⟨k + 1, by go_num, by omega, _, n2, HW.out, hC2, HB.out.1.trans l2, HB.out.2.trans bl2⟩
          case measure => simp; omega
        · have HX : Hid (∃ n', CountAt wr C n' ∧ less n f.weight n' ∧ But C w wr) := ⟨n', hC', fun h => absurd h h0, hb'⟩
          clear hq hC' hl' hb'
          go_wp2_with (go_at_call 32; refine D1.mono ?_; rintro e w1 ⟨rfl, e1⟩; subst e1)
          go_end0
          exact ⟨⟨_, rfl⟩, HX.out⟩
      · have hltI : ¬ (k : Int) < (L : Int) := by omega
        obtain rfl : k = L := by omega
        have HX : Hid (∃ n', CountAt wr C n' ∧ less n f.weight n' ∧ But C w wr) := by
          refine ⟨n', hC', ?_, hb'⟩
          rw [F.drop_all f k (by rw [HL.out]; omega), F.weight] at hq
          rw [← hq]; exact hl'
        clear hq hC' hl' hb'
        go_wp2_with fail
        go_end0
        exact ⟨⟨_, rfl⟩, HX.out⟩

set_option maxRecDepth 100000 in
theorem many_any (w : World) : Calls Try.prog 30 #[.int .i64 20000] w fun e w' => e = .returned (.pointer (some ⟨w.heap.size, 0, none⟩)) ∧ CountAt w' w.heap.size 20000 ∧ Below w.heap.size w w' := by
  go_enter Try.func30, Try.ntmps30
  go_wp2
  go_ret
  exact ⟨rfl, ⟨by simp, by simp, by omega, by omega⟩, (Below.refl _ w).alloc (Nat.le_refl _) _⟩

set_option maxRecDepth 100000 in
theorem few_any (v : Value) (f : F) (w : World) (hS : HasS w v f) (hok : f.ok) (hlen : f.len ≤ 9223372036854775807) :
    Calls Try.prog 6 #[v] w fun e w' => ∃ n : Int, e = .returned (.bool (decide (0 ≤ n))) ∧ (0 ≤ n → f.weight ≤ 20000) ∧ Below w.heap.size w w' := by
  have C1 := many_any w
  have C2 := fun (w1 : World) (n : Int) (b1 : Below w.heap.size w w1) hC => nodes_any w (f.size + 1) f (Nat.lt_succ_self _) v hS hok hlen w1 w.heap.size n b1 (Nat.le_refl _) hC
  have C3 := fun (w1 : World) (n : Int) hC => ok_any w.heap.size n w1 hC
  obtain ⟨a, cap, rfl, _⟩ := hS.form
  clear hS
  obtain ⟨L, hL⟩ : ∃ L, f.len = L := ⟨_, rfl⟩
  rw [hL] at C2 hlen ⊢
  clear hL
  go_enter Try.func6, Try.ntmps6
  go_wp2_with (first
    | (go_at_call 30; refine C1.mono ?_; rintro e w1 ⟨rfl, hC1, bl1⟩; have D2 := C2 w1 _ bl1 hC1; clear C1 C2 hC1)
    | (go_at_call 31; refine D2.mono ?_; rintro e w2 ⟨⟨b2, rfl⟩, n2, hC2, l2, bl2⟩; have D3 := C3 w2 n2 hC2; clear D2 C3 hC2)
    | (go_at_call 32; refine D3.mono ?_; rintro e w3 ⟨rfl, e3⟩; subst e3))
  go_ret
  refine ⟨n2, rfl, fun h => ?_, bl1.trans (bl2.below (Nat.le_refl _) bl1.size)⟩
  have := l2 h
  omega
end Go.Proofs.Ytjkbhfkeagfhbaa
