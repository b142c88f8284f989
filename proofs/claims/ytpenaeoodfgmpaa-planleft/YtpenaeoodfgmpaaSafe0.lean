/-
  PlanSafe: plain lemmas, and worst by contract.
-/
import Derived.Test.YtpenaeoodfgmpaaKnownW
namespace Go.Proofs.Ytpenaeoodfgmpaa
open Go.RowKit

/-- the worst by its definition, of the first k cells -/
def wS (L : List Cd) (R : List Int) : Nat → Int
  | 0 => 0
  | k + 1 => match L[k]? with
    | some c => wS L R k + (if R.contains (k : Int) then c.keep else mx c.keep c.take)
    | none => wS L R k
theorem wS_step {L : List Cd} {R : List Int} {k : Nat} {c : Cd} (h : L[k]? = some c) : wS L R (k + 1) = wS L R k + (if R.contains (k : Int) then c.keep else mx c.keep c.take) := by simp only [wS, h]
/-- small numbers, 0 and more -/
def Cd.sm (c : Cd) : Prop := (0 ≤ c.keep ∧ c.keep < 1099511627776) ∧ (0 ≤ c.take ∧ c.take < 1099511627776)
theorem smC_sm (c : Cd) : (smC c).sm := ⟨sml_bd _, sml_bd _⟩
theorem mx_sm {c : Cd} (h : c.sm) : 0 ≤ mx c.keep c.take ∧ mx c.keep c.take < 1099511627776 := by unfold mx; unfold Cd.sm at h; split <;> omega
theorem wS_bd {L : List Cd} {R : List Int} (h : ∀ c ∈ L, c.sm) : ∀ k, 0 ≤ wS L R k ∧ wS L R k ≤ k * 1099511627776
  | 0 => by simp [wS]
  | k + 1 => by
    have ih := wS_bd (R := R) h k
    simp only [wS]
    split
    · rename_i c hc
      have h1 := h c (List.mem_of_getElem? hc)
      have h2 := mx_sm h1
      unfold Cd.sm at h1
      split <;> omega
    · omega
theorem pls_mem (B : List Bool) : ∀ (n i : Nat), (i : Int) ∈ pls B n ↔ i < n ∧ B[i]? = some true
  | 0, i => by simp [pls]
  | n + 1, i => by
    have ih := pls_mem B n i
    simp only [pls]
    split
    · rename_i h
      rw [List.mem_append, ih]
      simp only [List.mem_singleton, Int.natCast_inj]
      constructor
      · rintro (⟨a, b⟩ | rfl)
        · exact ⟨by omega, b⟩
        · exact ⟨by omega, h⟩
      · rintro ⟨a, b⟩
        by_cases e : i = n
        · exact .inr e
        · exact .inl ⟨by omega, b⟩
    · rename_i h
      rw [ih]
      constructor
      · rintro ⟨a, b⟩; exact ⟨by omega, b⟩
      · rintro ⟨a, b⟩
        have : i ≠ n := fun e => h (e ▸ b)
        exact ⟨by omega, b⟩
theorem pls_in {B : List Bool} {i : Nat} {b : Bool} (h : B[i]? = some b) : (pls B B.length).contains (i : Int) = b := by
  have hl := (List.getElem?_eq_some_iff.1 h).1
  cases b with
  | true => simpa using (pls_mem B B.length i).2 ⟨hl, h⟩
  | false =>
    have : ¬ (i : Int) ∈ pls B B.length := fun hm => by
      have := ((pls_mem B B.length i).1 hm).2
      rw [h] at this; cases this
    simpa using this
theorem its_pre (L : List Cd) (B : List Bool) (i : Nat) : ∀ d, ∃ S, its L B (i + d) = its L B i ++ S ∧ ∀ t ∈ S, (i : Int) ≤ t.cell
  | 0 => ⟨[], by simp, by simp⟩
  | d + 1 => by
    obtain ⟨S, h1, h2⟩ := its_pre L B i d
    rw [← Nat.add_assoc]
    simp only [its]
    split
    · rename_i c hc
      split
      · refine ⟨S ++ [mkI (its L B (i + d)).length (i + d) c], by rw [h1]; simp, fun t ht => ?_⟩
        rcases List.mem_append.1 ht with h | h
        · exact h2 t h
        · simp at h; subst h; simp [mkI]; omega
      · exact ⟨S, h1, h2⟩
    · exact ⟨S, h1, h2⟩
/-- where a cell has its item, that comes next -/
theorem its_next {L : List Cd} {B : List Bool} {n i : Nat} {c : Cd} (hi : i < n) (hc : L[i]? = some c) (hb : B[i]? = some false) (hd : don c = true) : (its L B n)[(its L B i).length]? = some (mkI (its L B i).length i c) := by
  obtain ⟨S, h1, _⟩ := its_pre L B (i + 1) (n - (i + 1))
  rw [show i + 1 + (n - (i + 1)) = n by omega] at h1
  rw [h1]
  have : its L B (i + 1) = its L B i ++ [mkI (its L B i).length i c] := by simp [its, hc, hb, hd]
  rw [this, List.append_assoc, List.getElem?_append_right (Nat.le_refl _)]
  simp
/-- where it has none, the next item is another cell's -/
theorem its_other {L : List Cd} {B : List Bool} {n i : Nat} (hi : i < n) (he : its L B (i + 1) = its L B i) {t : It} (ht : (its L B n)[(its L B i).length]? = some t) : t.cell ≠ (i : Int) := by
  obtain ⟨S, h1, h2⟩ := its_pre L B (i + 1) (n - (i + 1))
  rw [show i + 1 + (n - (i + 1)) = n by omega, he] at h1
  rw [h1, List.getElem?_append_right (Nat.le_refl _), Nat.sub_self] at ht
  have := h2 t (List.mem_of_getElem? ht)
  omega
set_option maxHeartbeats 1000000 in
set_option maxRecDepth 100000 in
theorem worst_any (ao bo : Option Addr) (cp cq : Nat) (L : List Cd) (R : List Int) (w : World) (hv : HasC w (.slice ao L.length cp) L) (hu : HasN w (.slice bo R.length cq) R) (hs : ∀ c ∈ L, c.sm) (hn : L.length ≤ 300) (hr : R.length ≤ 400) :
    Calls Try.prog 13 #[.slice ao L.length cp, .slice bo R.length cq] w fun e w' => e = .returned (.int .i64 (wS L R L.length)) ∧ G w w' := by
  obtain ⟨n, hn'⟩ : ∃ n, L.length = n := ⟨_, rfl⟩
  have HV := hid hv
  have HN := hid hn'
  have HS := hid hs
  have K := hid (fun x W (h : ∃ m, W = w.drewN m) => in_any bo cq R x W (by obtain ⟨m, rfl⟩ := h; exact hu.up ((G.refl w).drewN m)) hr)
  rw [hn']
  rw [hn'] at hn
  clear hv hn' hs hu
  go_enter Try.func13, Try.ntmps13
  go_wp2
  go_loopw [5, 6] (fun s i wr => ∃ k : Nat, k ≤ n ∧ i = .int .i64 k ∧ s = .int .i64 (wS L R k) ∧ Hid (∃ m, wr = w.drewN m)) (fun _ i _ => n - (intOf i).toNat)
  case atStart => exact ⟨0, Nat.zero_le _, rfl, rfl, ⟨0, rfl⟩⟩
  case round =>
    obtain ⟨k, hk, rfl, rfl, HR⟩ := hrel
    by_cases hlt : k < n
    · obtain ⟨c, hc⟩ : ∃ c, L[k]? = some c := ⟨L[k]'(by rw [HN.out]; exact hlt), by simp⟩
      obtain ⟨g, o, rfl, hl⟩ := HV.out.at hc
      have hl' : Lies wr g (o + k * 10) (cc c) := by obtain ⟨m, rfl⟩ := HR.out; exact hl.up ((G.refl w).drewN m)
      have q4 : wr.cell? ⟨g, o + k * 10 + 4, none⟩ = some (.int .i64 c.keep) := hl' 4 _ rfl
      have q5 : wr.cell? ⟨g, o + k * 10 + 5, none⟩ = some (.int .i64 c.take) := hl' 5 _ rfl
      have ltI : (k : Int) < (n : Int) := by omega
      have geI : (0 : Int) ≤ (k : Int) := by omega
      have hb := wS_bd (R := R) HS.out k
      have hst := wS_step (R := R) hc
      have hcs := HS.out c (List.mem_of_getElem? hc)
      have hms := mx_sm hcs
      obtain ⟨m, hm⟩ : ∃ m, (if c.keep < c.take then c.take else c.keep) = m := ⟨_, rfl⟩
      have hmm : mx c.keep c.take = m := by rw [← hm]; unfold mx; split <;> split <;> omega
      rw [hmm] at hms hst
      unfold Cd.sm at hcs
      have hB : wS L R k ≤ 300 * 1099511627776 := by omega
      obtain ⟨hb0, _⟩ := hb
      cases hin : R.contains (k : Int) with
      | true =>
        rw [hin] at hst
        simp only [if_true] at hst
        have HST := hid hst
        clear hc hl hl' hst hmm
        generalize wS L R k = S at *
        go_wp2
        go_quiet (fail)
        obtain ⟨wz, hwz⟩ : ∃ wz, wr.drewN nq = wz := ⟨_, rfl⟩
        have HW : Hid (∃ m, wz = w.drewN m) := by obtain ⟨m, rfl⟩ := HR.out; exact ⟨_, by rw [← hwz, World.drewN_drewN]⟩
        have q6 : wz.cell? ⟨g, o + k * 10 + 4, none⟩ = some (.int .i64 c.keep) := by rw [← hwz]; simpa using q4
        have A := hid (K.out (k : Int) wz HW.out)
        rw [hin] at A
        rw [hwz]
        clear hwz q4 q5
        go_wp2_with (go_at_call 12; refine A.out.mono ?_; rintro e w2 ⟨rfl, rfl⟩)
        go_roundw
        case rel => exact ⟨k + 1, by omega, by go_num, by rw [HST.out], HW.out⟩
        case measure => simp [intOf]; omega
      | false =>
        rw [hin] at hst
        simp only [Bool.false_eq_true, if_false] at hst
        have HST := hid hst
        clear hc hl hl' hst hmm
        generalize wS L R k = S at *
        go_wp2
        go_quiet (fail)
        obtain ⟨wz, hwz⟩ : ∃ wz, wr.drewN nq = wz := ⟨_, rfl⟩
        have HW : Hid (∃ m, wz = w.drewN m) := by obtain ⟨m, rfl⟩ := HR.out; exact ⟨_, by rw [← hwz, World.drewN_drewN]⟩
        have A := hid (K.out (k : Int) wz HW.out)
        rw [hin] at A
        rw [hwz]
        clear hwz q4 q5
        go_wp2_with (go_at_call 12; refine A.out.mono ?_; rintro e w2 ⟨rfl, rfl⟩)
        go_roundw
        case rel => exact ⟨k + 1, by omega, by go_num, by rw [HST.out], HW.out⟩
        case measure => simp [intOf]; omega
    · obtain rfl : k = n := by omega
      go_wp2
      go_ret
      obtain ⟨m, rfl⟩ := HR.out
      exact ⟨rfl, (G.refl w).drewN m⟩
end Go.Proofs.Ytpenaeoodfgmpaa
