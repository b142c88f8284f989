import Derived.Test.YtlelgboklkmkdaaDKids
import Derived.LoopIn
set_option maxRecDepth 100000
set_option maxHeartbeats 8000000
/-
  Drawn regions: operations behind a guard.
-/
namespace Go.Proofs.Ytlelgboklkmkdaa.Ch
open Go.RowKit
theorem yielded_at {ops : Array Oper} {t : Array Value} {k d : Nat} (hk : slotB ops k = some d) : yielded ops t k = (match t[d]? with | some (.bool b) => some b | _ => none) := by
  unfold slotB at hk
  unfold yielded
  rw [hk]
  rfl
theorem wanted_yes {ops : Array Oper} {t : Array Value} {o : Oper} {k d : Nat} {b : Bool} (hg : o.guard = some (k, b)) (hk : slotB ops k = some d) (hv : t[d]?.getD undef = .bool b) : Region.wanted o (yielded ops t) = true := by
  unfold Region.wanted
  rw [hg]
  simp only
  rw [yielded_at hk]
  cases h : t[d]? with
  | none => rw [h] at hv; simp [undef] at hv
  | some v => rw [h] at hv; simp at hv; subst hv; simp
theorem wanted_no {ops : Array Oper} {t : Array Value} {o : Oper} {k d : Nat} {b c : Bool} (hg : o.guard = some (k, b)) (hk : slotB ops k = some d) (hv : t[d]?.getD undef = .bool c) (hn : (c == b) = false) : Region.wanted o (yielded ops t) = false := by
  unfold Region.wanted
  rw [hg]
  simp only
  rw [yielded_at hk]
  cases h : t[d]? with
  | none => rw [h] at hv; simp [undef] at hv
  | some v => rw [h] at hv; simp at hv; subst hv; simpa using hn
theorem wanted_un {ops : Array Oper} {t : Array Value} {o : Oper} {k d : Nat} {b : Bool} (hg : o.guard = some (k, b)) (hk : slotB ops k = some d) (hv : t[d]?.getD undef = undef) : Region.wanted o (yielded ops t) = false := by
  unfold Region.wanted
  rw [hg]
  simp only
  rw [yielded_at hk]
  cases h : t[d]? with
  | none => simp
  | some v => rw [h] at hv; simp at hv; subst hv; simp [undef]
section
variable {P : Program} {ops : Array Oper} {Q : Exit → Act → World → Prop} {V : Nat → Value} {t0 t : Array Value} {done : Nat → Bool} {Mem : (Nat → Bool) → World → Prop}
theorem iv_valG {i d : Nat} {o : Oper} {w w' : World} (hB : dstB ops t0.size = true) (ho : ops[i]? = some o) (hg : Region.wanted o (yielded ops t) = true) (hd : o.dst = some d) (hs : Slots ops V t0 t done) (hM : Mem (upd done i) w') (hrun : (execOp (Act.mk t []).eval o).run P w = .ok (.value (V i)) w') : wpOp P ops Q i (IV ops V t0 Mem (upd done i)) ⟨t, []⟩ w := by
  unfold wpOp
  rw [ho]
  simp only
  rw [if_pos hg]
  left
  unfold Oper.wp
  rw [hrun, Oper.upon_value, hd]
  exact ⟨_, rfl, hs.put hB ho hd, hM⟩
theorem iv_skip {i d : Nat} {o : Oper} {w : World} (hB : dstB ops t0.size = true) (ho : ops[i]? = some o) (hg : Region.wanted o (yielded ops t) = false) (hd : o.dst = some d) (hs : Slots ops V t0 t done) (hM : Mem (upd done i) w) (hV : V i = undef) : wpOp P ops Q i (IV ops V t0 Mem (upd done i)) ⟨t, []⟩ w := by
  unfold wpOp
  rw [ho]
  simp only
  rw [if_neg (by rw [hg]; simp), hd]
  have := hs.put hB ho hd
  rw [hV] at this
  exact ⟨_, rfl, this, hM⟩
theorem iv_callG {i d : Nat} {o : Oper} {w : World} (f : FuncId) (args : Array Value) (hB : dstB ops t0.size = true) (ho : ops[i]? = some o) (hg : Region.wanted o (yielded ops t) = true) (hd : o.dst = some d) (hs : Slots ops V t0 t done) (hrun : (execOp (Act.mk t []).eval o).run P w = .ok (.enter f args) w) (hC : Calls P f args w fun e w' => e = .returned (V i) ∧ Mem (upd done i) w') : wpOp P ops Q i (IV ops V t0 Mem (upd done i)) ⟨t, []⟩ w := by
  unfold wpOp
  rw [ho]
  simp only
  rw [if_pos hg]
  left
  unfold Oper.wp
  rw [hrun]
  refine Calls.mono hC ?_
  rintro e w' ⟨rfl, hM⟩
  rw [hd]
  exact ⟨_, rfl, hs.put hB ho hd, hM⟩
theorem wanted_none {o : Oper} {y : Nat → Option Bool} (hg : o.guard = none) : Region.wanted o y = true := by simp [Region.wanted, hg]
end
end Go.Proofs.Ytlelgboklkmkdaa.Ch
/-
  Drawn regions within a fence: one word for all orders.
-/
namespace Go.Proofs.Ytlelgboklkmkdaa.Ch
open Go.RowKit
section
variable {F : Fence} {n0 : Nat} {P : Program} {ops : Array Oper} {Q : Exit → Act → World → Prop}
theorem inv_regionIn {id : Nat} {a : Act} {w : World} (hm : P.follows .mixedOrders = true) (I : (Nat → Bool) → Act → World → Prop) (hback : backB ops = true) (h0 : I (fun _ => false) a w.drew)
    (hs : ∀ i o done a w, ops[i]? = some o → I done a w → done i = false → Deps o done → Closed ops done → wpOpIn F n0 P ops Q i (I (upd done i)) a w)
    (hd : ∀ done a w, I done a w → (∀ i, i < ops.size → done i = true) → Q .normal a w) : (Code.region id ops true).wpIn F n0 P Q a w := by
  refine wpIn_region_any hm ?_
  have key : ∀ (n : Nat) (listed : Array Bool) (a : Act) (w : World), listed.size = ops.size → listed.toList.count false ≤ n → I (fun i => listed.getD i false) a w → Closed ops (fun i => listed.getD i false) → wpAnyIn F n0 P .any ops Q n listed a w := by
    have full : ∀ (listed : Array Bool) (a : Act) (w : World), listed.size = ops.size → I (fun i => listed.getD i false) a w → Region.ready .any ops listed = [] → Q .normal a w := by
      intro listed a w hz hI hr
      refine hd _ a w hI ?_
      intro i
      induction i using Nat.strongRecOn with
      | ind i ih =>
        intro hi
        cases hl : listed.getD i false with
        | true => rfl
        | false =>
          have hm : i ∈ Region.ready .any ops listed := by
            refine mem_ready.2 ⟨?_, ops[i], by simp [hi], fun e he hb => ?_⟩
            · have : i < listed.size := by omega
              simp [Array.getD, this] at hl ⊢
              exact hl
            · have hlt := back_spec hback (i := i) (o := ops[i]) (by simp [hi]) e he hb
              exact ih e.on hlt (by omega)
          rw [hr] at hm
          cases hm
    intro n
    induction n with
    | zero =>
      intro listed a w hz hc hI hC
      have hr : Region.ready .any ops listed = [] := by
        rw [List.eq_nil_iff_forall_not_mem]
        intro i hi
        obtain ⟨h1, _⟩ := mem_ready.1 hi
        have hlt : i < listed.size := by
          by_cases h : i < listed.size
          · exact h
          · simp [Array.getD, h] at h1
        have : listed.toList.count false = 0 := by omega
        rw [List.count_eq_zero] at this
        refine this ?_
        simp [Array.getD, hlt] at h1
        rw [← h1]
        exact Array.getElem_mem_toList hlt
      exact ⟨hr, full listed a w hz hI hr⟩
    | succ n ih =>
      intro listed a w hz hc hI hC
      refine ⟨full listed a w hz hI, fun i hi => ?_⟩
      obtain ⟨h1, o, ho, h2⟩ := mem_ready.1 hi
      have hlt : i < listed.size := by
        by_cases h : i < listed.size
        · exact h
        · simp [Array.getD, h] at h1
      have hnd : listed.getD i false = false := by
        simp [Array.getD, hlt] at h1 ⊢; exact h1
      have eu : (fun j => (listed.setIfInBounds i true).getD j false) = upd (fun j => listed.getD j false) i := by
        funext j
        unfold upd
        by_cases hji : j = i
        · subst hji; simp [Array.getD, hlt]
        · rw [if_neg hji]
          by_cases hjl : j < listed.size
          · simp only [Array.getD, hjl, Array.size_setIfInBounds, dif_pos]
            exact Array.getElem_setIfInBounds_ne hjl (Ne.symm hji)
          · simp [Array.getD, hjl]
      refine wpOpIn_mono (fun a' w' hI' => ih _ a' w' (by simp [hz]) ?_ (by rw [eu]; exact hI') ?_) (hs i o _ a w ho hI hnd h2 hC)
      · simp [Array.getD, hlt] at h1
        have e1 : (listed.setIfInBounds i true).toList = listed.toList.set i true := by simp
        rw [e1, List.count_set (by simpa using hlt)]
        have : listed.toList[i]'(by simpa using hlt) = false := by simpa using h1
        rw [this]
        have hpos : 0 < listed.toList.count false := List.count_pos_iff.2 (by rw [← this]; exact List.getElem_mem _)
        simp only [beq_self_eq_true, if_true, Bool.true_eq_false, beq_iff_eq, if_false, Nat.add_zero]
        omega
      · rw [eu]
        intro j oj hoj hj e he hb
        unfold upd at hj ⊢
        by_cases hji : j = i
        · subst hji
          rw [ho] at hoj
          injection hoj with hoj
          subst hoj
          have := h2 e he hb
          split
          · rfl
          · exact this
        · rw [if_neg hji] at hj
          have := hC j oj hoj hj e he hb
          split
          · rfl
          · exact this
  exact key ops.size _ a _ (by simp) (by simp) (by
    have : (fun i => (Array.replicate ops.size false).getD i false) = fun _ => false := by
      funext i
      by_cases h : i < ops.size <;> simp [Array.getD, h]
    rw [this]; exact h0) (by
    intro j oj _ hj
    by_cases h : j < ops.size <;> simp [Array.getD, h] at hj)
variable {V : Nat → Value} {t0 t : Array Value} {done : Nat → Bool} {Mem : (Nat → Bool) → World → Prop}
theorem iv_valI {i d : Nat} {o : Oper} {w w' : World} (hF : ∀ f, F.fn f) (hB : dstB ops t0.size = true) (ho : ops[i]? = some o) (hg : Region.wanted o (yielded ops t) = true) (hd : o.dst = some d) (hs : Slots ops V t0 t done) (hn : ∀ c, o.op ≠ .defer c) (hM : Mem (upd done i) w') (hrun : (execOp (Act.mk t []).eval o).run P w = .ok (.value (V i)) w') : wpOpIn F n0 P ops Q i (IV ops V t0 Mem (upd done i)) ⟨t, []⟩ w := by
  unfold wpOpIn
  rw [ho]
  simp only
  rw [if_pos hg]
  refine ⟨fun f _ => hF f, ?_⟩
  rw [Oper.semAt_plain _ _ _ hn, hrun, Oper.uponIn_value, hd]
  exact ⟨_, rfl, hs.put hB ho hd, hM⟩
theorem iv_storeI {i : Nat} {o : Oper} {w w' : World} (hF : ∀ f, F.fn f) (ho : ops[i]? = some o) (hg : Region.wanted o (yielded ops t) = true) (hd : o.dst = none) (hs : Slots ops V t0 t done) (hn : ∀ c, o.op ≠ .defer c) (hM : Mem (upd done i) w') (hrun : (execOp (Act.mk t []).eval o).run P w = .ok .skip w') : wpOpIn F n0 P ops Q i (IV ops V t0 Mem (upd done i)) ⟨t, []⟩ w := by
  unfold wpOpIn
  rw [ho]
  simp only
  rw [if_pos hg]
  refine ⟨fun f _ => hF f, ?_⟩
  rw [Oper.semAt_plain _ _ _ hn, hrun, Oper.uponIn_skip, hd]
  exact ⟨t, rfl, hs.skip ho hd, hM⟩
theorem iv_skipI {i d : Nat} {o : Oper} {w : World} (hF : ∀ f, F.fn f) (hB : dstB ops t0.size = true) (ho : ops[i]? = some o) (hg : Region.wanted o (yielded ops t) = false) (hd : o.dst = some d) (hs : Slots ops V t0 t done) (hM : Mem (upd done i) w) (hV : V i = undef) : wpOpIn F n0 P ops Q i (IV ops V t0 Mem (upd done i)) ⟨t, []⟩ w := by
  unfold wpOpIn
  rw [ho]
  simp only
  rw [if_neg (by rw [hg]; simp), hd]
  have := hs.put hB ho hd
  rw [hV] at this
  exact ⟨fun f _ => hF f, _, rfl, this, hM⟩
theorem iv_callI {i d : Nat} {o : Oper} {w : World} (f : FuncId) (args : Array Value) (hF : ∀ f, F.fn f) (hD : F.depth.isSome = true → 1 ≤ n0) (hB : dstB ops t0.size = true) (ho : ops[i]? = some o) (hg : Region.wanted o (yielded ops t) = true) (hd : o.dst = some d) (hs : Slots ops V t0 t done) (hn : ∀ c, o.op ≠ .defer c) (hrun : (execOp (Act.mk t []).eval o).run P w = .ok (.enter f args) w) (hC : CallsIn F (n0 - 1) P f args w fun e w' => e = .returned (V i) ∧ Mem (upd done i) w') : wpOpIn F n0 P ops Q i (IV ops V t0 Mem (upd done i)) ⟨t, []⟩ w := by
  unfold wpOpIn
  rw [ho]
  simp only
  rw [if_pos hg]
  refine ⟨fun f _ => hF f, ?_⟩
  rw [Oper.semAt_plain _ _ _ hn, hrun, Oper.uponIn_enter]
  refine ⟨hD, CallsIn.mono hC ?_⟩
  rintro e w' ⟨rfl, hM⟩
  rw [hd]
  exact ⟨_, rfl, hs.put hB ho hd, hM⟩
end
end Go.Proofs.Ytlelgboklkmkdaa.Ch
/-
  Two lists of kids that rise, side by side: in Lean alone; slices of kids.
-/
namespace Go.Proofs.Ytlelgboklkmkdaa.Ch
open Go.RowKit
def kA (x : Kid) : Array Value := (kdC x).toArray
/-- a pair: a place of the first list, a place of the second -/
abbrev Pr := Option Nat × Option Nat
def ordA (A B : List Kid) (i j : Nat) : Int := match A[i]?, B[j]? with
  | none, _ => 1
  | some _, none => -1
  | some x, some y => cmpB x.nm y.nm
def itm (A B : List Kid) (i j : Nat) : Pr := (if ordA A B i j ≤ 0 then some i else none, if 0 ≤ ordA A B i j then some j else none)
def ni (A B : List Kid) (i j : Nat) : Nat := if ordA A B i j ≤ 0 then i + 1 else i
def nj (A B : List Kid) (i j : Nat) : Nat := if 0 ≤ ordA A B i j then j + 1 else j
def mgF (A B : List Kid) : Nat → Nat → Nat → List Pr
  | 0, _, _ => []
  | f + 1, i, j => if i < A.length ∨ j < B.length then itm A B i j :: mgF A B f (ni A B i j) (nj A B i j) else []
def rem (A B : List Kid) (i j : Nat) : Nat := (A.length - i) + (B.length - j)
theorem ord_left {A B : List Kid} {i j : Nat} (_h : i < A.length ∨ j < B.length) (ho : ordA A B i j ≤ 0) : i < A.length := by
  unfold ordA at ho
  by_cases hi : i < A.length
  · exact hi
  · rw [List.getElem?_eq_none (by omega)] at ho
    simp at ho
theorem ord_right {A B : List Kid} {i j : Nat} (h : i < A.length ∨ j < B.length) (ho : 0 ≤ ordA A B i j) : j < B.length := by
  unfold ordA at ho
  by_cases hj : j < B.length
  · exact hj
  · have hi : i < A.length := by omega
    rw [List.getElem?_eq_none (l := B) (by omega), List.getElem?_eq_getElem hi] at ho
    simp at ho
theorem rem_next {A B : List Kid} {i j : Nat} (h : i < A.length ∨ j < B.length) : rem A B (ni A B i j) (nj A B i j) < rem A B i j := by
  unfold rem ni nj
  by_cases h1 : ordA A B i j ≤ 0
  · have := ord_left h h1
    rw [if_pos h1]
    split
    · rename_i h2
      have := ord_right h h2
      omega
    · omega
  · have h2 : 0 ≤ ordA A B i j := by omega
    have := ord_right h h2
    rw [if_neg h1, if_pos h2]
    omega
theorem mgF_succ (A B : List Kid) (f i j : Nat) : mgF A B (f + 1) i j = if i < A.length ∨ j < B.length then itm A B i j :: mgF A B f (ni A B i j) (nj A B i j) else [] := rfl
theorem mgF_more (A B : List Kid) : ∀ (f i j : Nat), rem A B i j ≤ f → mgF A B (f + 1) i j = mgF A B f i j
  | 0, i, j, h => by
    unfold rem at h
    rw [mgF_succ, if_neg (by omega)]
    rfl
  | f + 1, i, j, h => by
    rw [mgF_succ A B (f + 1) i j, mgF_succ A B f i j]
    split
    · rename_i hc
      rw [mgF_more A B f _ _ (by have := rem_next hc; omega)]
    · rfl
theorem mgF_enough (A B : List Kid) (i j : Nat) : ∀ k, mgF A B (rem A B i j + k) i j = mgF A B (rem A B i j) i j
  | 0 => rfl
  | k + 1 => by rw [← Nat.add_assoc, mgF_more A B _ i j (by omega), mgF_enough A B i j k]
/-- what comes from a place on -/
def mg (A B : List Kid) (i j : Nat) : List Pr := mgF A B (rem A B i j) i j
theorem mg_step {A B : List Kid} {i j : Nat} (h : i < A.length ∨ j < B.length) : mg A B i j = itm A B i j :: mg A B (ni A B i j) (nj A B i j) := by
  have h1 := rem_next h
  obtain ⟨k, hk⟩ : ∃ k, rem A B i j = rem A B (ni A B i j) (nj A B i j) + k + 1 := ⟨rem A B i j - rem A B (ni A B i j) (nj A B i j) - 1, by omega⟩
  unfold mg
  rw [hk, mgF_succ, if_pos h, mgF_enough]
theorem mg_done {A B : List Kid} {i j : Nat} (h : ¬ (i < A.length ∨ j < B.length)) : mg A B i j = [] := by
  unfold mg rem
  rw [show A.length - i + (B.length - j) = 0 by omega]
  rfl
theorem mg_len (A B : List Kid) (i j : Nat) : (mg A B i j).length ≤ rem A B i j := by
  have : ∀ f i j, (mgF A B f i j).length ≤ f := by
    intro f
    induction f with
    | zero => intro i j; simp [mgF]
    | succ f ih =>
      intro i j
      rw [mgF_succ]
      split
      · simp only [List.length_cons]; have := ih (ni A B i j) (nj A B i j); omega
      · simp
  exact this _ _ _
theorem itm_neg {A B : List Kid} {i j : Nat} (h : ordA A B i j < 0) : itm A B i j = (some i, none) ∧ ni A B i j = i + 1 ∧ nj A B i j = j := by
  unfold itm ni nj
  rw [if_pos (by omega), if_neg (by omega), if_pos (by omega), if_neg (by omega)]
  exact ⟨rfl, rfl, rfl⟩
theorem itm_pos {A B : List Kid} {i j : Nat} (h : 0 < ordA A B i j) : itm A B i j = (none, some j) ∧ ni A B i j = i ∧ nj A B i j = j + 1 := by
  unfold itm ni nj
  rw [if_neg (by omega), if_pos (by omega), if_neg (by omega), if_pos (by omega)]
  exact ⟨rfl, rfl, rfl⟩
theorem itm_zero {A B : List Kid} {i j : Nat} (h : ordA A B i j = 0) : itm A B i j = (some i, some j) ∧ ni A B i j = i + 1 ∧ nj A B i j = j + 1 := by
  unfold itm ni nj
  rw [if_pos (by omega), if_pos (by omega), if_pos (by omega), if_pos (by omega)]
  exact ⟨rfl, rfl, rfl⟩
theorem snoc_mg {A B : List Kid} {i j : Nat} {pre : List Pr} (hc : i < A.length ∨ j < B.length) (h : pre ++ mg A B i j = mg A B 0 0) : (pre ++ [itm A B i j]) ++ mg A B (ni A B i j) (nj A B i j) = mg A B 0 0 := by
  rw [List.append_assoc, List.singleton_append, ← mg_step hc]; exact h
theorem compareK_any (g1 o1 g2 o2 : Nat) (c1 c2 : Kid) (w : World) (h1 : Lies w g1 o1 (kA c1)) (h2 : Lies w g2 o2 (kA c2)) :
    Calls Try.prog 40 #[.pointer (some ⟨g1, o1, none⟩), .pointer (some ⟨g2, o2, none⟩)] w fun e w' => e = .returned (.int .i64 (cmpB c1.nm c2.nm)) ∧ Drew w w' :=
  compareKids_any g1 o1 g2 o2 c1.nm c2.nm w (h1 0 _ rfl) (h2 0 _ rfl)
end Go.Proofs.Ytlelgboklkmkdaa.Ch
/-
  diff.sideBySide (52, 77) as an iterator.
-/
namespace Go.Proofs.Ytlelgboklkmkdaa.Ch
open Go.RowKit
attribute [local go_sem] Oper.semAt_some
theorem backQ : backB (opsAt Try.f54 4) = true := by kernel_rfl
theorem dstQ : dstB (opsAt Try.f54 4) 57 = true := by kernel_rfl
theorem sizeQ : (opsAt Try.f54 4).size = 9 := by kernel_rfl
theorem freeQ1 : freeB (opsAt Try.f54 4) 1 = true := by kernel_rfl
theorem freeQ2 : freeB (opsAt Try.f54 4) 2 = true := by kernel_rfl
theorem freeQ3 : freeB (opsAt Try.f54 4) 3 = true := by kernel_rfl
theorem freeQ5 : freeB (opsAt Try.f54 4) 5 = true := by kernel_rfl
theorem freeQ6 : freeB (opsAt Try.f54 4) 6 = true := by kernel_rfl
theorem sQ_0 : say (opsAt Try.f54 4) 0 = some (some 20, .load 99 (.tmp 3), none) := by kernel_rfl
theorem dQ_0 : slotB (opsAt Try.f54 4) 0 = some 20 := by kernel_rfl
theorem sQ_1 : say (opsAt Try.f54 4) 1 = some (some 21, .load 97 (.tmp 1), none) := by kernel_rfl
theorem dQ_1 : slotB (opsAt Try.f54 4) 1 = some 21 := by kernel_rfl
theorem sQ_2 : say (opsAt Try.f54 4) 2 = some (some 22, .move (.tmp 5), none) := by kernel_rfl
theorem dQ_2 : slotB (opsAt Try.f54 4) 2 = some 22 := by kernel_rfl
theorem sQ_3 : say (opsAt Try.f54 4) 3 = some (some 23, .indexAddr 97 (.tmp 21) (.tmp 22), none) := by kernel_rfl
theorem dQ_3 : slotB (opsAt Try.f54 4) 3 = some 23 := by kernel_rfl
theorem sQ_4 : say (opsAt Try.f54 4) 4 = some (some 24, .load 97 (.tmp 2), none) := by kernel_rfl
theorem dQ_4 : slotB (opsAt Try.f54 4) 4 = some 24 := by kernel_rfl
theorem sQ_5 : say (opsAt Try.f54 4) 5 = some (some 25, .move (.tmp 6), none) := by kernel_rfl
theorem dQ_5 : slotB (opsAt Try.f54 4) 5 = some 25 := by kernel_rfl
theorem sQ_6 : say (opsAt Try.f54 4) 6 = some (some 26, .indexAddr 97 (.tmp 24) (.tmp 25), none) := by kernel_rfl
theorem dQ_6 : slotB (opsAt Try.f54 4) 6 = some 26 := by kernel_rfl
theorem sQ_7 : say (opsAt Try.f54 4) 7 = some (some 27, .call { callee := .value (.tmp 20), args := #[.tmp 23, .tmp 26], argTypes := #[100, 100] }, none) := by kernel_rfl
theorem dQ_7 : slotB (opsAt Try.f54 4) 7 = some 27 := by kernel_rfl
theorem sQ_8 : say (opsAt Try.f54 4) 8 = some (some 9, .assign (.tmp 27), none) := by kernel_rfl
theorem dQ_8 : slotB (opsAt Try.f54 4) 8 = some 9 := by kernel_rfl
def VQ (ga oa n cp i gb ob m cq j : Nat) (cm : Int) : Nat → Value
  | 0 => .func (.func 40) #[] #[]
  | 1 => .slice (some ⟨ga, oa, none⟩) n cp
  | 2 => .int .i64 (i : Int)
  | 3 => .pointer (some ⟨ga, oa + i * 2, none⟩)
  | 4 => .slice (some ⟨gb, ob, none⟩) m cq
  | 5 => .int .i64 (j : Int)
  | 6 => .pointer (some ⟨gb, ob + j * 2, none⟩)
  | 7 => .int .i64 cm
  | 8 => .int .i64 cm
  | _ => undef
theorem regQ (ga oa n cp i gb ob m cq j : Nat) (cm : Int) (nn Ba Bb Bf : Nat) (t0 : Array Value) (wr : World) {Q : Exit → Act → World → Prop} (ht : t0.size = 57) (h1 : t0.getD 1 undef = .pointer (some ⟨Ba, 0, none⟩)) (h2 : t0.getD 2 undef = .pointer (some ⟨Bb, 0, none⟩)) (h3 : t0.getD 3 undef = .pointer (some ⟨Bf, 0, none⟩)) (h5 : t0.getD 5 undef = .int .i64 (i : Int)) (h6 : t0.getD 6 undef = .int .i64 (j : Int))
    (x y : Kid) (hi : i < n) (hj : j < m) (ca : wr.cell? ⟨Ba, 0, none⟩ = some (.slice (some ⟨ga, oa, none⟩) n cp)) (cb : wr.cell? ⟨Bb, 0, none⟩ = some (.slice (some ⟨gb, ob, none⟩) m cq)) (cf : wr.cell? ⟨Bf, 0, none⟩ = some (.func (.func 40) #[] #[])) (lx : Lies wr ga (oa + i * 2) (kA x)) (ly : Lies wr gb (ob + j * 2) (kA y)) (hcm : cmpB x.nm y.nm = cm)
    (hQ : ∀ w, Drew wr w → Q .normal ⟨fold (opsAt Try.f54 4) (VQ ga oa n cp i gb ob m cq j cm) t0 9, []⟩ w) : (Code.region 4 (opsAt Try.f54 4) true).wpIn Fence.wide nn Try.prog Q ⟨t0, []⟩ wr := by
  have hB : dstB (opsAt Try.f54 4) t0.size = true := by rw [ht]; exact dstQ
  have iI : (i : Int) < (n : Int) := by omega
  have i0 : (0 : Int) ≤ (i : Int) := by omega
  have jI : (j : Int) < (m : Int) := by omega
  have j0 : (0 : Int) ≤ (j : Int) := by omega
  have h0M : Drew wr wr.drew := ⟨1, rfl⟩
  refine inv_regionIn (by kernel_rfl) (IV (opsAt Try.f54 4) (VQ ga oa n cp i gb ob m cq j cm) t0 (fun _ w => Drew wr w)) backQ ⟨t0, rfl, ⟨rfl, fun _ _ => rfl, fun _ _ _ _ _ h => by cases h⟩, h0M⟩ ?_ ?_
  rotate_left 1
  · rintro done a w ⟨t, rfl, hS, hw⟩ hall
    rw [hS.end hB hall, sizeQ]
    exact hQ w hw
  · rintro jz op done a w ho ⟨t, rfl, hS, hw⟩ hnd hdep hcl
    have e1 : t[1]?.getD undef = .pointer (some ⟨Ba, 0, none⟩) := (hS.old freeQ1).trans h1
    have e2 : t[2]?.getD undef = .pointer (some ⟨Bb, 0, none⟩) := (hS.old freeQ2).trans h2
    have e3 : t[3]?.getD undef = .pointer (some ⟨Bf, 0, none⟩) := (hS.old freeQ3).trans h3
    have e5 : t[5]?.getD undef = .int .i64 (i : Int) := (hS.old freeQ5).trans h5
    have e6 : t[6]?.getD undef = .int .i64 (j : Int) := (hS.old freeQ6).trans h6
    have hlt : jz < 9 := by rw [← sizeQ]; exact (Array.getElem?_eq_some_iff.1 ho).1
    match jz, hlt, ho, hnd, hdep with
    | 0, _, ho, hnd, hdep =>
      obtain ⟨hd, hop, hgd⟩ := say_of sQ_0 ho
      refine iv_valI (fun _ => trivial) hB ho (wanted_none hgd) hd hS (by intro c; rw [hop]; intro h; cases h) hw ?_
      have c := (hw.cell _).trans cf
      unfold execOp
      simp only [hop]
      simp [e3, c, VQ, go_sem]
    | 1, _, ho, hnd, hdep =>
      obtain ⟨hd, hop, hgd⟩ := say_of sQ_1 ho
      refine iv_valI (fun _ => trivial) hB ho (wanted_none hgd) hd hS (by intro c; rw [hop]; intro h; cases h) hw ?_
      have c := (hw.cell _).trans ca
      unfold execOp
      simp only [hop]
      simp [e1, c, VQ, go_sem]
    | 2, _, ho, hnd, hdep =>
      obtain ⟨hd, hop, hgd⟩ := say_of sQ_2 ho
      refine iv_valI (fun _ => trivial) hB ho (wanted_none hgd) hd hS (by intro c; rw [hop]; intro h; cases h) hw ?_
      unfold execOp
      simp only [hop]
      simp [e5, VQ, go_sem]
    | 3, _, ho, hnd, hdep =>
      obtain ⟨hd, hop, hgd⟩ := say_of sQ_3 ho
      have x21 : t[21]?.getD undef = _ := hS.at dQ_1 (waits (j := 1) (by kernel_rfl) ho hdep)
      simp only [VQ] at x21
      have x22 : t[22]?.getD undef = _ := hS.at dQ_2 (waits (j := 2) (by kernel_rfl) ho hdep)
      simp only [VQ] at x22
      refine iv_valI (fun _ => trivial) hB ho (wanted_none hgd) hd hS (by intro c; rw [hop]; intro h; cases h) hw ?_
      unfold execOp
      simp only [hop]
      simp [x21, x22, iI, i0, addr_add, VQ, go_sem]
    | 4, _, ho, hnd, hdep =>
      obtain ⟨hd, hop, hgd⟩ := say_of sQ_4 ho
      refine iv_valI (fun _ => trivial) hB ho (wanted_none hgd) hd hS (by intro c; rw [hop]; intro h; cases h) hw ?_
      have c := (hw.cell _).trans cb
      unfold execOp
      simp only [hop]
      simp [e2, c, VQ, go_sem]
    | 5, _, ho, hnd, hdep =>
      obtain ⟨hd, hop, hgd⟩ := say_of sQ_5 ho
      refine iv_valI (fun _ => trivial) hB ho (wanted_none hgd) hd hS (by intro c; rw [hop]; intro h; cases h) hw ?_
      unfold execOp
      simp only [hop]
      simp [e6, VQ, go_sem]
    | 6, _, ho, hnd, hdep =>
      obtain ⟨hd, hop, hgd⟩ := say_of sQ_6 ho
      have x24 : t[24]?.getD undef = _ := hS.at dQ_4 (waits (j := 4) (by kernel_rfl) ho hdep)
      simp only [VQ] at x24
      have x25 : t[25]?.getD undef = _ := hS.at dQ_5 (waits (j := 5) (by kernel_rfl) ho hdep)
      simp only [VQ] at x25
      refine iv_valI (fun _ => trivial) hB ho (wanted_none hgd) hd hS (by intro c; rw [hop]; intro h; cases h) hw ?_
      unfold execOp
      simp only [hop]
      simp [x24, x25, jI, j0, addr_add, VQ, go_sem]
    | 7, _, ho, hnd, hdep =>
      obtain ⟨hd, hop, hgd⟩ := say_of sQ_7 ho
      have x20 : t[20]?.getD undef = _ := hS.at dQ_0 (waits (j := 0) (by kernel_rfl) ho hdep)
      simp only [VQ] at x20
      have x23 : t[23]?.getD undef = _ := hS.at dQ_3 (waits (j := 3) (by kernel_rfl) ho hdep)
      simp only [VQ] at x23
      have x26 : t[26]?.getD undef = _ := hS.at dQ_6 (waits (j := 6) (by kernel_rfl) ho hdep)
      simp only [VQ] at x26
      refine iv_callI 40 #[.pointer (some ⟨ga, oa + i * 2, none⟩), .pointer (some ⟨gb, ob + j * 2, none⟩)] (fun _ => trivial) (fun h => by cases h) hB ho (wanted_none hgd) hd hS (by intro c; rw [hop]; intro h; cases h) ?_ ?_
      · skip
        unfold execOp
        simp only [hop]
        simp [x20, x23, x26, go_sem]
      · exact callsIn_wide.2 ((compareK_any ga (oa + i * 2) gb (ob + j * 2) x y w (lx.drew hw) (ly.drew hw)).mono fun e w2 h => ⟨by rw [h.1, hcm]; rfl, hw.trans h.2⟩)
    | 8, _, ho, hnd, hdep =>
      obtain ⟨hd, hop, hgd⟩ := say_of sQ_8 ho
      have x27 : t[27]?.getD undef = _ := hS.at dQ_7 (waits (j := 7) (by kernel_rfl) ho hdep)
      simp only [VQ] at x27
      refine iv_valI (fun _ => trivial) hB ho (wanted_none hgd) hd hS (by intro c; rw [hop]; intro h; cases h) hw ?_
      unfold execOp
      simp only [hop]
      simp [x27, VQ, go_sem]
theorem foldQ (ga oa n cp i gb ob m cq j : Nat) (cm : Int) (t0 : Array Value) : fold (opsAt Try.f54 4) (VQ ga oa n cp i gb ob m cq j cm) t0 9 = (((((((((t0.setIfInBounds 20 (.func (.func 40) #[] #[])).setIfInBounds 21 (.slice (some ⟨ga, oa, none⟩) n cp)).setIfInBounds 22 (.int .i64 (i : Int))).setIfInBounds 23 (.pointer (some ⟨ga, oa + i * 2, none⟩))).setIfInBounds 24 (.slice (some ⟨gb, ob, none⟩) m cq)).setIfInBounds 25 (.int .i64 (j : Int))).setIfInBounds 26 (.pointer (some ⟨gb, ob + j * 2, none⟩))).setIfInBounds 27 (.int .i64 cm)).setIfInBounds 9 (.int .i64 cm)) := by kernel_rfl
end Go.Proofs.Ytlelgboklkmkdaa.Ch
