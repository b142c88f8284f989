/-
  Drawn regions within a fence: one word for all orders.
-/
import Derived.Test.YtfigneaaeakbcaaDoorHInvG
import Derived.OrdersIn
import Derived.RegionIn
import Derived.TacticsInMore
import Derived.RangeFuncCalls
import Derived.OwnWalkIn
namespace Go.Proofs.YtfigneaaeakbcaaDoor.Hm
open Go.RowKit
section
variable {F : Fence} {n0 : Nat} {P : Program} {ops : Array Oper} {Q : Exit → Act → World → Prop}
theorem inv_regionIn {id : Nat} {a : Act} {w : World} (hm : P.follows .mixedOrders = true) (I : (Nat → Bool) → Act → World → Prop) (hback : backB ops = true) (h0 : I (fun _ => false) a w.drew)
    (hs : ∀ i o done a w, ops[i]? = some o → I done a w → done i = false → Deps o done → Closed ops done → wpOpIn F n0 P ops Q i (I (upd done i)) a w)
    (hd : ∀ done a w, I done a w → (∀ i, i < ops.size → done i = true) → Q .normal a w) : (Code.region id ops true).wpIn F n0 P Q a w := by
  refine wpIn_region_any hm ?_
  have key : ∀ (n : Nat) (listed : Array Bool) (a : Act) (w : World), listed.size = ops.size → listed.toList.count false ≤ n → I (fun i => listed.getD i false) a w → Closed ops (fun i => listed.getD i false) → wpAnyIn F n0 P .any ops Q n listed a w := by
    have full : ∀ (listed : Array Bool) (a : Act) (w : World), listed.size = ops.size → I (fun i => listed.getD i false) a w → Region.ready .any ops listed = [] → Q .normal a w := by
      intro listed a w hz hI hr
      refine hd _ a w hI ?_
      intro i
      induction i using Nat.strongRecOn with
      | ind i ih =>
        intro hi
        cases hl : listed.getD i false with
        | true => rfl
        | false =>
          have hm : i ∈ Region.ready .any ops listed := by
            refine mem_ready.2 ⟨?_, ops[i], by simp [hi], fun e he hb => ?_⟩
            · have : i < listed.size := by omega
              simp [Array.getD, this] at hl ⊢
              exact hl
            · have hlt := back_spec hback (i := i) (o := ops[i]) (by simp [hi]) e he hb
              exact ih e.on hlt (by omega)
          rw [hr] at hm
          cases hm
    intro n
    induction n with
    | zero =>
      intro listed a w hz hc hI hC
      have hr : Region.ready .any ops listed = [] := by
        rw [List.eq_nil_iff_forall_not_mem]
        intro i hi
        obtain ⟨h1, _⟩ := mem_ready.1 hi
        have hlt : i < listed.size := by
          by_cases h : i < listed.size
          · exact h
          · simp [Array.getD, h] at h1
        have : listed.toList.count false = 0 := by omega
        rw [List.count_eq_zero] at this
        refine this ?_
        simp [Array.getD, hlt] at h1
        rw [← h1]
        exact Array.getElem_mem_toList hlt
      exact ⟨hr, full listed a w hz hI hr⟩
    | succ n ih =>
      intro listed a w hz hc hI hC
      refine ⟨full listed a w hz hI, fun i hi => ?_⟩
      obtain ⟨h1, o, ho, h2⟩ := mem_ready.1 hi
      have hlt : i < listed.size := by
        by_cases h : i < listed.size
        · exact h
        · simp [Array.getD, h] at h1
      have hnd : listed.getD i false = false := by
        simp [Array.getD, hlt] at h1 ⊢; exact h1
      have eu : (fun j => (listed.setIfInBounds i true).getD j false) = upd (fun j => listed.getD j false) i := by
        funext j
        unfold upd
        by_cases hji : j = i
        · subst hji; simp [Array.getD, hlt]
        · rw [if_neg hji]
          by_cases hjl : j < listed.size
          · simp only [Array.getD, hjl, Array.size_setIfInBounds, dif_pos]
            exact Array.getElem_setIfInBounds_ne hjl (Ne.symm hji)
          · simp [Array.getD, hjl]
      refine wpOpIn_mono (fun a' w' hI' => ih _ a' w' (by simp [hz]) ?_ (by rw [eu]; exact hI') ?_) (hs i o _ a w ho hI hnd h2 hC)
      · simp [Array.getD, hlt] at h1
        have e1 : (listed.setIfInBounds i true).toList = listed.toList.set i true := by simp
        rw [e1, List.count_set (by simpa using hlt)]
        have : listed.toList[i]'(by simpa using hlt) = false := by simpa using h1
        rw [this]
        have hpos : 0 < listed.toList.count false := List.count_pos_iff.2 (by rw [← this]; exact List.getElem_mem _)
        simp only [beq_self_eq_true, if_true, Bool.true_eq_false, beq_iff_eq, if_false, Nat.add_zero]
        omega
      · rw [eu]
        intro j oj hoj hj e he hb
        unfold upd at hj ⊢
        by_cases hji : j = i
        · subst hji
          rw [ho] at hoj
          injection hoj with hoj
          subst hoj
          have := h2 e he hb
          split
          · rfl
          · exact this
        · rw [if_neg hji] at hj
          have := hC j oj hoj hj e he hb
          split
          · rfl
          · exact this
  exact key ops.size _ a _ (by simp) (by simp) (by
    have : (fun i => (Array.replicate ops.size false).getD i false) = fun _ => false := by
      funext i
      by_cases h : i < ops.size <;> simp [Array.getD, h]
    rw [this]; exact h0) (by
    intro j oj _ hj
    by_cases h : j < ops.size <;> simp [Array.getD, h] at hj)


variable {V : Nat → Value} {t0 t : Array Value} {done : Nat → Bool} {Mem : (Nat → Bool) → World → Prop}
theorem iv_valI {i d : Nat} {o : Oper} {w w' : World} (hF : ∀ f, F.fn f) (hB : dstB ops t0.size = true) (ho : ops[i]? = some o) (hg : Region.wanted o (yielded ops t) = true) (hd : o.dst = some d) (hs : Slots ops V t0 t done) (hn : ∀ c, o.op ≠ .defer c) (hM : Mem (upd done i) w') (hrun : (execOp (Act.mk t []).eval o).run P w = .ok (.value (V i)) w') : wpOpIn F n0 P ops Q i (IV ops V t0 Mem (upd done i)) ⟨t, []⟩ w := by
  unfold wpOpIn
  rw [ho]
  simp only
  rw [if_pos hg]
  refine ⟨fun f _ => hF f, ?_⟩
  rw [Oper.semAt_plain _ _ _ hn, hrun, Oper.uponIn_value, hd]
  exact ⟨_, rfl, hs.put hB ho hd, hM⟩
theorem iv_storeI {i : Nat} {o : Oper} {w w' : World} (hF : ∀ f, F.fn f) (ho : ops[i]? = some o) (hg : Region.wanted o (yielded ops t) = true) (hd : o.dst = none) (hs : Slots ops V t0 t done) (hn : ∀ c, o.op ≠ .defer c) (hM : Mem (upd done i) w') (hrun : (execOp (Act.mk t []).eval o).run P w = .ok .skip w') : wpOpIn F n0 P ops Q i (IV ops V t0 Mem (upd done i)) ⟨t, []⟩ w := by
  unfold wpOpIn
  rw [ho]
  simp only
  rw [if_pos hg]
  refine ⟨fun f _ => hF f, ?_⟩
  rw [Oper.semAt_plain _ _ _ hn, hrun, Oper.uponIn_skip, hd]
  exact ⟨t, rfl, hs.skip ho hd, hM⟩
theorem iv_skipI {i d : Nat} {o : Oper} {w : World} (hF : ∀ f, F.fn f) (hB : dstB ops t0.size = true) (ho : ops[i]? = some o) (hg : Region.wanted o (yielded ops t) = false) (hd : o.dst = some d) (hs : Slots ops V t0 t done) (hM : Mem (upd done i) w) (hV : V i = undef) : wpOpIn F n0 P ops Q i (IV ops V t0 Mem (upd done i)) ⟨t, []⟩ w := by
  unfold wpOpIn
  rw [ho]
  simp only
  rw [if_neg (by rw [hg]; simp), hd]
  have := hs.put hB ho hd
  rw [hV] at this
  exact ⟨fun f _ => hF f, _, rfl, this, hM⟩
theorem iv_callI {i d : Nat} {o : Oper} {w : World} (f : FuncId) (args : Array Value) (hF : ∀ f, F.fn f) (hD : F.depth.isSome = true → 1 ≤ n0) (hB : dstB ops t0.size = true) (ho : ops[i]? = some o) (hg : Region.wanted o (yielded ops t) = true) (hd : o.dst = some d) (hs : Slots ops V t0 t done) (hn : ∀ c, o.op ≠ .defer c) (hrun : (execOp (Act.mk t []).eval o).run P w = .ok (.enter f args) w) (hC : CallsIn F (n0 - 1) P f args w fun e w' => e = .returned (V i) ∧ Mem (upd done i) w') : wpOpIn F n0 P ops Q i (IV ops V t0 Mem (upd done i)) ⟨t, []⟩ w := by
  unfold wpOpIn
  rw [ho]
  simp only
  rw [if_pos hg]
  refine ⟨fun f _ => hF f, ?_⟩
  rw [Oper.semAt_plain _ _ _ hn, hrun, Oper.uponIn_enter]
  refine ⟨hD, CallsIn.mono hC ?_⟩
  rintro e w' ⟨rfl, hM⟩
  rw [hd]
  exact ⟨_, rfl, hs.put hB ho hd, hM⟩
end
end Go.Proofs.YtfigneaaeakbcaaDoor.Hm
