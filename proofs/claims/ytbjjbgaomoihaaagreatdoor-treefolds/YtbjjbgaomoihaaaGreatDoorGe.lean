import Derived.Test.YtbjjbgaomoihaaaGreatDoorCount
import Derived.TacticsInMore
import Derived.RangeFuncCalls
import Derived.OwnWalkIn
namespace Go.Proofs.YtbjjbgaomoihaaaGreatDoor.Ch
open Go.RowKit
section
variable {P : Program} {ops : Array Oper} {Q : Exit → Act → World → Prop}
def backB (ops : Array Oper) : Bool := (List.range ops.size).all fun i => ((ops[i]?).map fun o => o.after.all fun e => !Region.binds .any e || decide (e.on < i)).getD true
theorem back_spec (h : backB ops = true) {i : Nat} {o : Oper} (hi : ops[i]? = some o) : ∀ e ∈ o.after, Region.binds .any e = true → e.on < i := by
  intro e he hb
  have h1 := List.all_eq_true.1 h i (List.mem_range.2 (Array.getElem?_eq_some_iff.1 hi).1)
  rw [hi] at h1
  simp only [Option.map_some, Option.getD_some, Array.all_eq_true_iff_forall_mem] at h1
  have h2 := h1 e he
  rw [hb] at h2
  simpa using h2
end
section
variable {P : Program} {ops : Array Oper} {Q : Exit → Act → World → Prop}
def upd (done : Nat → Bool) (i : Nat) : Nat → Bool := fun j => if j = i then true else done j
def Closed (ops : Array Oper) (done : Nat → Bool) : Prop := ∀ (j : Nat) (o : Oper), ops[j]? = some o → done j = true → ∀ e ∈ o.after, Region.binds .any e = true → done e.on = true
def Deps (o : Oper) (done : Nat → Bool) : Prop := ∀ e ∈ o.after, Region.binds .any e = true → done e.on = true
theorem inv_region {id : Nat} {a : Act} {w : World} (hm : P.follows .mixedOrders = true) (I : (Nat → Bool) → Act → World → Prop) (hback : backB ops = true) (h0 : I (fun _ => false) a w.drew)
    (hs : ∀ i o done a w, ops[i]? = some o → I done a w → done i = false → Deps o done → Closed ops done → wpOp P ops Q i (I (upd done i)) a w)
    (hd : ∀ done a w, I done a w → (∀ i, i < ops.size → done i = true) → Q .normal a w) : (Code.region id ops true).wp P Q a w := by
  refine wp_region_any hm ?_
  have key : ∀ (n : Nat) (listed : Array Bool) (a : Act) (w : World), listed.size = ops.size → listed.toList.count false ≤ n → I (fun i => listed.getD i false) a w → Closed ops (fun i => listed.getD i false) → wpAny P .any ops Q n listed a w := by
    have full : ∀ (listed : Array Bool) (a : Act) (w : World), listed.size = ops.size → I (fun i => listed.getD i false) a w → Region.ready .any ops listed = [] → Q .normal a w := by
      intro listed a w hz hI hr
      refine hd _ a w hI ?_
      intro i
      induction i using Nat.strongRecOn with
      | ind i ih =>
        intro hi
        cases hl : listed.getD i false with
        | true => rfl
        | false =>
          have hm : i ∈ Region.ready .any ops listed := by
            refine mem_ready.2 ⟨?_, ops[i], by simp [hi], fun e he hb => ?_⟩
            · have : i < listed.size := by omega
              simp [Array.getD, this] at hl ⊢
              exact hl
            · have hlt := back_spec hback (i := i) (o := ops[i]) (by simp [hi]) e he hb
              exact ih e.on hlt (by omega)
          rw [hr] at hm
          cases hm
    intro n
    induction n with
    | zero =>
      intro listed a w hz hc hI hC
      have hr : Region.ready .any ops listed = [] := by
        rw [List.eq_nil_iff_forall_not_mem]
        intro i hi
        obtain ⟨h1, _⟩ := mem_ready.1 hi
        have hlt : i < listed.size := by
          by_cases h : i < listed.size
          · exact h
          · simp [Array.getD, h] at h1
        have : listed.toList.count false = 0 := by omega
        rw [List.count_eq_zero] at this
        refine this ?_
        simp [Array.getD, hlt] at h1
        rw [← h1]
        exact Array.getElem_mem_toList hlt
      exact ⟨hr, full listed a w hz hI hr⟩
    | succ n ih =>
      intro listed a w hz hc hI hC
      refine ⟨full listed a w hz hI, fun i hi => ?_⟩
      obtain ⟨h1, o, ho, h2⟩ := mem_ready.1 hi
      have hlt : i < listed.size := by
        by_cases h : i < listed.size
        · exact h
        · simp [Array.getD, h] at h1
      have hnd : listed.getD i false = false := by
        simp [Array.getD, hlt] at h1 ⊢; exact h1
      have eu : (fun j => (listed.setIfInBounds i true).getD j false) = upd (fun j => listed.getD j false) i := by
        funext j
        unfold upd
        by_cases hji : j = i
        · subst hji; simp [Array.getD, hlt]
        · rw [if_neg hji]
          by_cases hjl : j < listed.size
          · simp only [Array.getD, hjl, Array.size_setIfInBounds, dif_pos]
            exact Array.getElem_setIfInBounds_ne hjl (Ne.symm hji)
          · simp [Array.getD, hjl]
      refine wpOp_mono (fun a' w' hI' => ih _ a' w' (by simp [hz]) ?_ (by rw [eu]; exact hI') ?_) (hs i o _ a w ho hI hnd h2 hC)
      · simp [Array.getD, hlt] at h1
        have e1 : (listed.setIfInBounds i true).toList = listed.toList.set i true := by simp
        rw [e1, List.count_set (by simpa using hlt)]
        have : listed.toList[i]'(by simpa using hlt) = false := by simpa using h1
        rw [this]
        have hpos : 0 < listed.toList.count false := List.count_pos_iff.2 (by rw [← this]; exact List.getElem_mem _)
        simp only [beq_self_eq_true, if_true, Bool.true_eq_false, beq_iff_eq, if_false, Nat.add_zero]
        omega
      · rw [eu]
        intro j oj hoj hj e he hb
        unfold upd at hj ⊢
        by_cases hji : j = i
        · subst hji
          rw [ho] at hoj
          injection hoj with hoj
          subst hoj
          have := h2 e he hb
          split
          · rfl
          · exact this
        · rw [if_neg hji] at hj
          have := hC j oj hoj hj e he hb
          split
          · rfl
          · exact this
  exact key ops.size _ a _ (by simp) (by simp) (by
    have : (fun i => (Array.replicate ops.size false).getD i false) = fun _ => false := by
      funext i
      by_cases h : i < ops.size <;> simp [Array.getD, h]
    rw [this]; exact h0) (by
    intro j oj _ hj
    by_cases h : j < ops.size <;> simp [Array.getD, h] at hj)
def Slots (ops : Array Oper) (V : Nat → Value) (t0 t : Array Value) (done : Nat → Bool) : Prop :=
  t.size = t0.size ∧ (∀ d : Nat, (∀ (k : Nat) (o : Oper), ops[k]? = some o → o.dst = some d → done k = false) → t.getD d undef = t0.getD d undef) ∧ ∀ (k : Nat) (o : Oper) (d : Nat), ops[k]? = some o → o.dst = some d → done k = true → t.getD d undef = V k
def dstB (ops : Array Oper) (n : Nat) : Bool := (List.range ops.size).all fun i => (match (ops[i]?).bind (·.dst) with | some x => decide (x < n) | none => true) && (List.range ops.size).all fun j => decide (i = j) || (match (ops[i]?).bind (·.dst), (ops[j]?).bind (·.dst) with | some x, some y => x != y | _, _ => true)
theorem dst_lt {n i d : Nat} {o : Oper} (h : dstB ops n = true) (ho : ops[i]? = some o) (hd : o.dst = some d) : d < n := by
  have h1 := List.all_eq_true.1 h i (List.mem_range.2 (Array.getElem?_eq_some_iff.1 ho).1)
  rw [Bool.and_eq_true] at h1
  have h2 := h1.1
  rw [ho] at h2
  simp only [Option.bind_some, hd] at h2
  simpa using h2
theorem dst_ne {n i j d : Nat} {o p : Oper} (h : dstB ops n = true) (ho : ops[i]? = some o) (hp : ops[j]? = some p) (hd : o.dst = some d) (he : p.dst = some d) : i = j := by
  have h1 := List.all_eq_true.1 h i (List.mem_range.2 (Array.getElem?_eq_some_iff.1 ho).1)
  rw [Bool.and_eq_true] at h1
  have h2 := List.all_eq_true.1 h1.2 j (List.mem_range.2 (Array.getElem?_eq_some_iff.1 hp).1)
  rw [ho, hp] at h2
  simp only [Option.bind_some, hd, he, bne_self_eq_false, Bool.or_false, decide_eq_true_eq] at h2
  exact h2
theorem getD_set {t : Array Value} {d e : Nat} {v : Value} (hd : d < t.size) : (t.setIfInBounds d v).getD e undef = if e = d then v else t.getD e undef := by
  by_cases h : e = d
  · subst h; simp [Array.getD, hd]
  · rw [if_neg h]
    by_cases he : e < t.size
    · simp only [Array.getD, he, Array.size_setIfInBounds, dif_pos]
      exact Array.getElem_setIfInBounds_ne he (Ne.symm h)
    · simp [Array.getD, he]
variable {V : Nat → Value} {t0 t : Array Value} {done : Nat → Bool}
theorem Slots.put {i d : Nat} {o : Oper} (h : Slots ops V t0 t done) (hB : dstB ops t0.size = true) (ho : ops[i]? = some o) (hd : o.dst = some d) : Slots ops V t0 (t.setIfInBounds d (V i)) (upd done i) := by
  obtain ⟨h1, h2, h3⟩ := h
  have hlt : d < t.size := by rw [h1]; exact dst_lt hB ho hd
  refine ⟨by simp [h1], fun e he => ?_, fun k p e hp hpd hk => ?_⟩
  · rw [getD_set hlt, if_neg (fun q => by have := he i o ho (by rw [hd, q]); simp [upd] at this)]
    refine h2 e fun k p hp hpd => ?_
    have := he k p hp hpd
    unfold upd at this
    split at this
    · cases this
    · exact this
  · rw [getD_set hlt]
    split
    · rename_i q
      subst q
      have := dst_ne hB ho hp hd hpd
      rw [this]
    · rename_i q
      refine h3 k p e hp hpd ?_
      unfold upd at hk
      rw [if_neg] at hk
      · exact hk
      · intro q2
        subst q2
        rw [ho] at hp
        injection hp with hp
        subst hp
        rw [hd] at hpd
        injection hpd with hpd
        exact q hpd.symm
theorem Slots.skip {i : Nat} {o : Oper} (h : Slots ops V t0 t done) (ho : ops[i]? = some o) (hd : o.dst = none) : Slots ops V t0 t (upd done i) := by
  obtain ⟨h1, h2, h3⟩ := h
  refine ⟨h1, fun e he => h2 e fun k p hp hpd => ?_, fun k p e hp hpd hk => h3 k p e hp hpd ?_⟩
  · have := he k p hp hpd
    unfold upd at this
    split at this
    · cases this
    · exact this
  unfold upd at hk
  rw [if_neg] at hk
  · exact hk
  · intro q2
    subst q2
    rw [ho] at hp
    injection hp with hp
    subst hp
    rw [hd] at hpd
    cases hpd
def fold (ops : Array Oper) (V : Nat → Value) (t0 : Array Value) : Nat → Array Value
  | 0 => t0
  | k + 1 => match (ops[k]?).bind (·.dst) with | some d => (fold ops V t0 k).setIfInBounds d (V k) | none => fold ops V t0 k
theorem fold_slots (hB : dstB ops t0.size = true) : ∀ m, m ≤ ops.size → Slots ops V t0 (fold ops V t0 m) (fun k => decide (k < m))
  | 0, _ => ⟨rfl, fun _ _ => rfl, fun k _ _ _ _ h => by simp at h⟩
  | m + 1, hm => by
    have ih := fold_slots hB m (by omega)
    have hlt : m < ops.size := by omega
    have ho : ops[m]? = some ops[m] := by simp [hlt]
    have eu : (fun k => decide (k < m + 1)) = upd (fun k => decide (k < m)) m := by
      funext k
      unfold upd
      by_cases h : k = m
      · subst h; simp
      · rw [if_neg h]; congr 1; simp; omega
    rw [eu, fold, ho]
    simp only [Option.bind_some]
    cases hd : ops[m].dst with
    | none => exact ih.skip ho hd
    | some d => exact ih.put hB ho hd
theorem Slots.full {t' : Array Value} {done' : Nat → Bool} (h : Slots ops V t0 t done) (h' : Slots ops V t0 t' done') (hd : ∀ i, i < ops.size → done i = true) (hd' : ∀ i, i < ops.size → done' i = true) : t = t' := by
  apply Array.ext
  · rw [h.1, h'.1]
  · intro d hd1 hd2
    have e : t.getD d undef = t'.getD d undef := by
      by_cases hq : ∀ (k : Nat) (o : Oper), ops[k]? = some o → o.dst ≠ some d
      · rw [h.2.1 d (fun k o ho hk => absurd hk (hq k o ho)), h'.2.1 d (fun k o ho hk => absurd hk (hq k o ho))]
      · simp only [Classical.not_forall, Classical.not_not, ne_eq] at hq
        obtain ⟨k, o, ho, hk⟩ := hq
        have hkl := (Array.getElem?_eq_some_iff.1 ho).1
        rw [h.2.2 k o d ho hk (hd k hkl), h'.2.2 k o d ho hk (hd' k hkl)]
    simpa [Array.getD, hd1, hd2] using e
theorem Slots.end (h : Slots ops V t0 t done) (hB : dstB ops t0.size = true) (hd : ∀ i, i < ops.size → done i = true) : t = fold ops V t0 ops.size :=
  h.full (fold_slots hB _ (Nat.le_refl _)) hd (fun i hi => by simpa using hi)
def IV (ops : Array Oper) (V : Nat → Value) (t0 : Array Value) (Mem : (Nat → Bool) → World → Prop) (done : Nat → Bool) (a : Act) (w : World) : Prop := ∃ t, a = ⟨t, []⟩ ∧ Slots ops V t0 t done ∧ Mem done w
variable {Mem : (Nat → Bool) → World → Prop}
end
def regOps (n : Nat) : Code → Option (Array Oper)
  | .region id ops _ => if id = n then some ops else none
  | .seq a b => (regOps n a).or (regOps n b)
  | .cond _ a b => (regOps n a).or (regOps n b)
  | .block _ c => regOps n c
  | .loop c => regOps n c
  | .rangeFunc _ _ a b => (regOps n a).or (regOps n b)
  | .scope c => regOps n c
  | _ => none
def opsAt (f : Func) (n : Nat) : Array Oper := ((f.body).bind (regOps n)).getD #[]
def say (ops : Array Oper) (k : Nat) : Option (Option Nat × Op × Option (Nat × Bool)) := (ops[k]?).map fun o => (o.dst, o.op, o.guard)
theorem say_of {ops : Array Oper} {k : Nat} {o : Oper} {x : Option Nat × Op × Option (Nat × Bool)} (h : say ops k = some x) (ho : ops[k]? = some o) : o.dst = x.1 ∧ o.op = x.2.1 ∧ o.guard = x.2.2 := by
  unfold say at h
  rw [ho] at h
  injection h with h
  subst h
  exact ⟨rfl, rfl, rfl⟩
def waitB (ops : Array Oper) (k j : Nat) : Bool := ((ops[k]?).map fun o => o.after.any fun e => Region.binds .any e && e.on == j).getD false
theorem wait_spec {ops : Array Oper} {k j : Nat} {o : Oper} (h : waitB ops k j = true) (ho : ops[k]? = some o) : ∃ e ∈ o.after, Region.binds .any e = true ∧ e.on = j := by
  unfold waitB at h
  rw [ho] at h
  simp only [Option.map_some, Option.getD_some, Array.any_eq_true', Bool.and_eq_true, beq_iff_eq] at h
  exact h
theorem waits {ops : Array Oper} {k j : Nat} {o : Oper} {done : Nat → Bool} (h : waitB ops k j = true) (ho : ops[k]? = some o) (hd : Deps o done) : done j = true := by
  obtain ⟨e, he, hb, rfl⟩ := wait_spec h ho
  exact hd e he hb
theorem not_yet {ops : Array Oper} {k j : Nat} {done : Nat → Bool} (h : waitB ops j k = true) (hc : Closed ops done) (hk : done k = false) : done j = false := by
  cases hj : done j with
  | false => rfl
  | true =>
    cases ho : ops[j]? with
    | none => unfold waitB at h; rw [ho] at h; simp at h
    | some o =>
      obtain ⟨e, he, hb, rfl⟩ := wait_spec h ho
      rw [hc j o ho hj e he hb] at hk
      cases hk
def slotB (ops : Array Oper) (k : Nat) : Option Nat := (ops[k]?).bind (·.dst)
theorem Slots.at {ops : Array Oper} {V : Nat → Value} {t0 t : Array Value} {done : Nat → Bool} (h : Slots ops V t0 t done) {k d : Nat} (hk : slotB ops k = some d) (hd : done k = true) : t[d]?.getD undef = V k := by
  unfold slotB at hk
  cases ho : ops[k]? with
  | none => rw [ho] at hk; cases hk
  | some o =>
    rw [ho] at hk
    have := h.2.2 k o d ho hk hd
    rwa [Array.getD_eq_getD_getElem?] at this
def freeB (ops : Array Oper) (d : Nat) : Bool := (List.range ops.size).all fun k => slotB ops k != some d
theorem Slots.old {ops : Array Oper} {V : Nat → Value} {t0 t : Array Value} {done : Nat → Bool} (h : Slots ops V t0 t done) {d : Nat} (hf : freeB ops d = true) : t[d]?.getD undef = t0.getD d undef := by
  have := h.2.1 d (fun k o ho e => absurd e <| by
    have h1 := List.all_eq_true.1 hf k (List.mem_range.2 (Array.getElem?_eq_some_iff.1 ho).1)
    unfold slotB at h1
    rw [ho] at h1
    intro e
    simp [e] at h1)
  rwa [Array.getD_eq_getD_getElem?] at this
section
variable {P : Program} {ops : Array Oper} {Q : Exit → Act → World → Prop} {V : Nat → Value} {t0 t : Array Value} {done : Nat → Bool} {Mem : (Nat → Bool) → World → Prop}
end
theorem upd_same (done : Nat → Bool) (i : Nat) : upd done i i = true := by simp [upd]
theorem upd_ne (done : Nat → Bool) {i j : Nat} (h : j ≠ i) : upd done i j = done j := by simp [upd, h]
theorem yielded_at {ops : Array Oper} {t : Array Value} {k d : Nat} (hk : slotB ops k = some d) : yielded ops t k = (match t[d]? with | some (.bool b) => some b | _ => none) := by
  unfold slotB at hk
  unfold yielded
  rw [hk]
  rfl
theorem wanted_yes {ops : Array Oper} {t : Array Value} {o : Oper} {k d : Nat} {b : Bool} (hg : o.guard = some (k, b)) (hk : slotB ops k = some d) (hv : t[d]?.getD undef = .bool b) : Region.wanted o (yielded ops t) = true := by
  unfold Region.wanted
  rw [hg]
  simp only
  rw [yielded_at hk]
  cases h : t[d]? with
  | none => rw [h] at hv; simp [undef] at hv
  | some v => rw [h] at hv; simp at hv; subst hv; simp
section
variable {P : Program} {ops : Array Oper} {Q : Exit → Act → World → Prop} {V : Nat → Value} {t0 t : Array Value} {done : Nat → Bool} {Mem : (Nat → Bool) → World → Prop}
theorem wanted_none {o : Oper} {y : Nat → Option Bool} (hg : o.guard = none) : Region.wanted o y = true := by simp [Region.wanted, hg]
end
section
variable {F : Fence} {n0 : Nat} {P : Program} {ops : Array Oper} {Q : Exit → Act → World → Prop}
theorem inv_regionIn {id : Nat} {a : Act} {w : World} (hm : P.follows .mixedOrders = true) (I : (Nat → Bool) → Act → World → Prop) (hback : backB ops = true) (h0 : I (fun _ => false) a w.drew)
    (hs : ∀ i o done a w, ops[i]? = some o → I done a w → done i = false → Deps o done → Closed ops done → wpOpIn F n0 P ops Q i (I (upd done i)) a w)
    (hd : ∀ done a w, I done a w → (∀ i, i < ops.size → done i = true) → Q .normal a w) : (Code.region id ops true).wpIn F n0 P Q a w := by
  refine wpIn_region_any hm ?_
  have key : ∀ (n : Nat) (listed : Array Bool) (a : Act) (w : World), listed.size = ops.size → listed.toList.count false ≤ n → I (fun i => listed.getD i false) a w → Closed ops (fun i => listed.getD i false) → wpAnyIn F n0 P .any ops Q n listed a w := by
    have full : ∀ (listed : Array Bool) (a : Act) (w : World), listed.size = ops.size → I (fun i => listed.getD i false) a w → Region.ready .any ops listed = [] → Q .normal a w := by
      intro listed a w hz hI hr
      refine hd _ a w hI ?_
      intro i
      induction i using Nat.strongRecOn with
      | ind i ih =>
        intro hi
        cases hl : listed.getD i false with
        | true => rfl
        | false =>
          have hm : i ∈ Region.ready .any ops listed := by
            refine mem_ready.2 ⟨?_, ops[i], by simp [hi], fun e he hb => ?_⟩
            · have : i < listed.size := by omega
              simp [Array.getD, this] at hl ⊢
              exact hl
            · have hlt := back_spec hback (i := i) (o := ops[i]) (by simp [hi]) e he hb
              exact ih e.on hlt (by omega)
          rw [hr] at hm
          cases hm
    intro n
    induction n with
    | zero =>
      intro listed a w hz hc hI hC
      have hr : Region.ready .any ops listed = [] := by
        rw [List.eq_nil_iff_forall_not_mem]
        intro i hi
        obtain ⟨h1, _⟩ := mem_ready.1 hi
        have hlt : i < listed.size := by
          by_cases h : i < listed.size
          · exact h
          · simp [Array.getD, h] at h1
        have : listed.toList.count false = 0 := by omega
        rw [List.count_eq_zero] at this
        refine this ?_
        simp [Array.getD, hlt] at h1
        rw [← h1]
        exact Array.getElem_mem_toList hlt
      exact ⟨hr, full listed a w hz hI hr⟩
    | succ n ih =>
      intro listed a w hz hc hI hC
      refine ⟨full listed a w hz hI, fun i hi => ?_⟩
      obtain ⟨h1, o, ho, h2⟩ := mem_ready.1 hi
      have hlt : i < listed.size := by
        by_cases h : i < listed.size
        · exact h
        · simp [Array.getD, h] at h1
      have hnd : listed.getD i false = false := by
        simp [Array.getD, hlt] at h1 ⊢; exact h1
      have eu : (fun j => (listed.setIfInBounds i true).getD j false) = upd (fun j => listed.getD j false) i := by
        funext j
        unfold upd
        by_cases hji : j = i
        · subst hji; simp [Array.getD, hlt]
        · rw [if_neg hji]
          by_cases hjl : j < listed.size
          · simp only [Array.getD, hjl, Array.size_setIfInBounds, dif_pos]
            exact Array.getElem_setIfInBounds_ne hjl (Ne.symm hji)
          · simp [Array.getD, hjl]
      refine wpOpIn_mono (fun a' w' hI' => ih _ a' w' (by simp [hz]) ?_ (by rw [eu]; exact hI') ?_) (hs i o _ a w ho hI hnd h2 hC)
      · simp [Array.getD, hlt] at h1
        have e1 : (listed.setIfInBounds i true).toList = listed.toList.set i true := by simp
        rw [e1, List.count_set (by simpa using hlt)]
        have : listed.toList[i]'(by simpa using hlt) = false := by simpa using h1
        rw [this]
        have hpos : 0 < listed.toList.count false := List.count_pos_iff.2 (by rw [← this]; exact List.getElem_mem _)
        simp only [beq_self_eq_true, if_true, Bool.true_eq_false, beq_iff_eq, if_false, Nat.add_zero]
        omega
      · rw [eu]
        intro j oj hoj hj e he hb
        unfold upd at hj ⊢
        by_cases hji : j = i
        · subst hji
          rw [ho] at hoj
          injection hoj with hoj
          subst hoj
          have := h2 e he hb
          split
          · rfl
          · exact this
        · rw [if_neg hji] at hj
          have := hC j oj hoj hj e he hb
          split
          · rfl
          · exact this
  exact key ops.size _ a _ (by simp) (by simp) (by
    have : (fun i => (Array.replicate ops.size false).getD i false) = fun _ => false := by
      funext i
      by_cases h : i < ops.size <;> simp [Array.getD, h]
    rw [this]; exact h0) (by
    intro j oj _ hj
    by_cases h : j < ops.size <;> simp [Array.getD, h] at hj)
variable {V : Nat → Value} {t0 t : Array Value} {done : Nat → Bool} {Mem : (Nat → Bool) → World → Prop}
end
section
variable {α : Type} {P : Program} {ops : Array Oper} {Q : Exit → Act → World → Prop} {V : α → Nat → Value} {t0 t : Array Value} {done : Nat → Bool} {Mem : α → (Nat → Bool) → World → Prop}
def IE (ops : Array Oper) (V : α → Nat → Value) (t0 : Array Value) (Mem : α → (Nat → Bool) → World → Prop) (done : Nat → Bool) (a : Act) (w : World) : Prop := ∃ r, IV ops (V r) t0 (Mem r) done a w
theorem Slots.re {V V' : Nat → Value} (h : Slots ops V t0 t done) (he : ∀ k, done k = true → V' k = V k) : Slots ops V' t0 t done := by
  obtain ⟨h1, h2, h3⟩ := h
  refine ⟨h1, h2, ?_⟩
  intro i o d ho hd hi
  rw [he i hi]
  exact h3 i o d ho hd hi
theorem ie_val {i d : Nat} {o : Oper} {w w' : World} (r : α) (hB : dstB ops t0.size = true) (ho : ops[i]? = some o) (hg : Region.wanted o (yielded ops t) = true) (hd : o.dst = some d) (hs : Slots ops (V r) t0 t done) (hM : Mem r (upd done i) w') (hrun : (execOp (Act.mk t []).eval o).run P w = .ok (.value (V r i)) w') : wpOp P ops Q i (IE ops V t0 Mem (upd done i)) ⟨t, []⟩ w := by
  unfold wpOp
  rw [ho]
  simp only
  rw [if_pos hg]
  left
  unfold Oper.wp
  rw [hrun, Oper.upon_value, hd]
  exact ⟨r, _, rfl, hs.put hB ho hd, hM⟩
theorem ie_store {i : Nat} {o : Oper} {w w' : World} (r : α) (ho : ops[i]? = some o) (hg : Region.wanted o (yielded ops t) = true) (hd : o.dst = none) (hs : Slots ops (V r) t0 t done) (hM : Mem r (upd done i) w') (hrun : (execOp (Act.mk t []).eval o).run P w = .ok .skip w') : wpOp P ops Q i (IE ops V t0 Mem (upd done i)) ⟨t, []⟩ w := by
  unfold wpOp
  rw [ho]
  simp only
  rw [if_pos hg]
  left
  unfold Oper.wp
  rw [hrun, Oper.upon_skip, hd]
  exact ⟨r, _, rfl, hs.skip ho hd, hM⟩
theorem ie_call {i d : Nat} {o : Oper} {w : World} (r : α) (f : FuncId) (args : Array Value) (hB : dstB ops t0.size = true) (ho : ops[i]? = some o) (hg : Region.wanted o (yielded ops t) = true) (hd : o.dst = some d) (hs : Slots ops (V r) t0 t done) (hrun : (execOp (Act.mk t []).eval o).run P w = .ok (.enter f args) w)
    (hC : Calls P f args w fun e w' => ∃ r', e = .returned (V r' i) ∧ (∀ k, done k = true → V r' k = V r k) ∧ Mem r' (upd done i) w') : wpOp P ops Q i (IE ops V t0 Mem (upd done i)) ⟨t, []⟩ w := by
  unfold wpOp
  rw [ho]
  simp only
  rw [if_pos hg]
  left
  unfold Oper.wp
  rw [hrun]
  refine Calls.mono hC ?_
  rintro e w' ⟨r', rfl, he, hM⟩
  rw [hd]
  exact ⟨r', _, rfl, (hs.re he).put hB ho hd, hM⟩
end
section
variable {α : Type} {F : Fence} {n0 : Nat} {P : Program} {ops : Array Oper} {Q : Exit → Act → World → Prop} {V : α → Nat → Value} {t0 t : Array Value} {done : Nat → Bool} {Mem : α → (Nat → Bool) → World → Prop}
theorem ie_valL {i d : Nat} {o : Oper} {w w' : World} (r r' : α) (hF : ∀ f, F.fn f) (hB : dstB ops t0.size = true) (ho : ops[i]? = some o) (hg : Region.wanted o (yielded ops t) = true) (hd : o.dst = some d) (hs : Slots ops (V r) t0 t done) (hn : ∀ c, o.op ≠ .defer c) (he : ∀ k, done k = true → V r' k = V r k) (hM : Mem r' (upd done i) w') (hrun : (execOp (Act.mk t []).eval o).run P w = .ok (.value (V r' i)) w') : wpOpIn F n0 P ops Q i (IE ops V t0 Mem (upd done i)) ⟨t, []⟩ w := by
  unfold wpOpIn
  rw [ho]
  simp only
  rw [if_pos hg]
  refine ⟨fun f _ => hF f, ?_⟩
  rw [Oper.semAt_plain _ _ _ hn, hrun, Oper.uponIn_value, hd]
  exact ⟨r', _, rfl, (hs.re he).put hB ho hd, hM⟩
theorem ie_valI {i d : Nat} {o : Oper} {w w' : World} (r : α) (hF : ∀ f, F.fn f) (hB : dstB ops t0.size = true) (ho : ops[i]? = some o) (hg : Region.wanted o (yielded ops t) = true) (hd : o.dst = some d) (hs : Slots ops (V r) t0 t done) (hn : ∀ c, o.op ≠ .defer c) (hM : Mem r (upd done i) w') (hrun : (execOp (Act.mk t []).eval o).run P w = .ok (.value (V r i)) w') : wpOpIn F n0 P ops Q i (IE ops V t0 Mem (upd done i)) ⟨t, []⟩ w :=
  ie_valL r r hF hB ho hg hd hs hn (fun _ _ => rfl) hM hrun
theorem ie_storeI {i : Nat} {o : Oper} {w w' : World} (r : α) (hF : ∀ f, F.fn f) (ho : ops[i]? = some o) (hg : Region.wanted o (yielded ops t) = true) (hd : o.dst = none) (hs : Slots ops (V r) t0 t done) (hn : ∀ c, o.op ≠ .defer c) (hM : Mem r (upd done i) w') (hrun : (execOp (Act.mk t []).eval o).run P w = .ok .skip w') : wpOpIn F n0 P ops Q i (IE ops V t0 Mem (upd done i)) ⟨t, []⟩ w := by
  unfold wpOpIn
  rw [ho]
  simp only
  rw [if_pos hg]
  refine ⟨fun f _ => hF f, ?_⟩
  rw [Oper.semAt_plain _ _ _ hn, hrun, Oper.uponIn_skip, hd]
  exact ⟨r, t, rfl, hs.skip ho hd, hM⟩
theorem ie_callI {i d : Nat} {o : Oper} {w : World} (r : α) (f : FuncId) (args : Array Value) (hF : ∀ f, F.fn f) (hD : F.depth.isSome = true → 1 ≤ n0) (hB : dstB ops t0.size = true) (ho : ops[i]? = some o) (hg : Region.wanted o (yielded ops t) = true) (hd : o.dst = some d) (hs : Slots ops (V r) t0 t done) (hn : ∀ c, o.op ≠ .defer c) (hrun : (execOp (Act.mk t []).eval o).run P w = .ok (.enter f args) w)
    (hC : CallsIn F (n0 - 1) P f args w fun e w' => ∃ r', e = .returned (V r' i) ∧ (∀ k, done k = true → V r' k = V r k) ∧ Mem r' (upd done i) w') : wpOpIn F n0 P ops Q i (IE ops V t0 Mem (upd done i)) ⟨t, []⟩ w := by
  unfold wpOpIn
  rw [ho]
  simp only
  rw [if_pos hg]
  refine ⟨fun f _ => hF f, ?_⟩
  rw [Oper.semAt_plain _ _ _ hn, hrun, Oper.uponIn_enter]
  refine ⟨hD, CallsIn.mono hC ?_⟩
  rintro e w' ⟨r', rfl, he, hM⟩
  rw [hd]
  exact ⟨r', _, rfl, (hs.re he).put hB ho hd, hM⟩
end
end Go.Proofs.YtbjjbgaomoihaaaGreatDoor.Ch
