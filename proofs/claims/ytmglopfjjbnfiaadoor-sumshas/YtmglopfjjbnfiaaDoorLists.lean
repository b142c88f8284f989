/-
  SumSHAs' helpers by contract: few, joined, sameLists.
-/
import Derived.Test.YtmglopfjjbnfiaaDoorCount
namespace Go.Proofs.YtmglopfjjbnfiaaDoor
open Go.RowKit

theorem HasL.form {w : World} {v : Value} {ps : List (List Nat)} (h : HasL w v ps) : ∃ ao cap, v = .slice ao ps.length cap := by
  rcases h with ⟨rfl, rfl⟩ | ⟨a, cap, rfl, _⟩
  · exact ⟨none, 0, rfl⟩
  · exact ⟨_, cap, rfl⟩
theorem HasL.at {w wr : World} {ao : Option Addr} {n cap k : Nat} {ps : List (List Nat)} (h : HasL w (.slice ao n cap) ps) (hb : Below w.heap.size w wr) (hk : k < ps.length) :
    ∃ a uo uc, ao = some a ∧ wr.cell? (a.add k) = some (.slice uo (ps.getD k []).length uc) ∧ Hid (Has wr (.slice uo (ps.getD k []).length uc) (ps.getD k [])) := by
  rcases h with ⟨_, rfl⟩ | ⟨a, c, e, _, h⟩
  · simp at hk
  · simp only [Value.slice.injEq] at e
    obtain ⟨u, h1, h2⟩ := h k hk
    obtain ⟨uo, uc, rfl, _⟩ := h2.form
    exact ⟨a, uo, uc, e.1, by rw [hb.cell (block_lt_of_cell h1)]; exact h1, h2.below hb⟩

set_option maxHeartbeats 2000000 in
set_option maxRecDepth 100000 in
theorem joined_any (v : Value) (ps : List (List Nat)) (w : World) (hv : HasL w v ps) (hn : ps.length ≤ 100000) (hl : ps.flatten.length ≤ 100000) :
    Calls Tryd.prog 12 #[v] w fun e w' => ∃ u, e = .returned u ∧ Owns w' w.heap.size u ps.flatten ∧ Below w.heap.size w w' := by
  obtain ⟨ao, cap, rfl⟩ := hv.form
  have HV : Hid (HasL w (.slice ao ps.length cap) ps) := hv
  have HL : Hid (ps.flatten.length ≤ 100000) := hl
  obtain ⟨n, hnn⟩ : ∃ n, n = ps.length := ⟨_, rfl⟩
  have HN : Hid (n = ps.length) := hnn
  rw [← hnn] at hn ⊢
  clear hv hl hnn
  go_enter Tryd.func12, Tryd.ntmps12
  go_wp2_with fail
  go_loopw [3, 4] (fun ov i wr => ∃ (k : Nat), k ≤ n ∧ i = .int .i64 k ∧ Hid (Owns wr w.heap.size ov (ps.take k).flatten) ∧ Hid (Below w.heap.size w wr)) (fun _ i _ => n - (intOf i).toNat)
  case atStart => exact ⟨0, by omega, rfl, Owns.nil _ _, Below.refl _ _⟩
  case round =>
    obtain ⟨k, hk, rfl, HO, HW⟩ := hrel
    by_cases hlt : k < n
    · have hkI : (k : Int) < (n : Int) := by omega
      obtain ⟨a, uo, uc, rfl, hcu, HU⟩ := HV.out.at HW.out (show k < ps.length by have := HN.out; omega)
      obtain ⟨m, hm⟩ : ∃ m, m = (ps.getD k []).length := ⟨_, rfl⟩
      rw [← hm] at hcu HU
      have HTS : Hid ((ps.take k).flatten ++ ps.getD k [] = (ps.take (k + 1)).flatten ∧ (ps.take k).flatten.length + m ≤ 100000) := by
        have e := flatten_take_succ ps k (by have := HN.out; omega)
        refine ⟨e.symm, ?_⟩
        have hfl : ps.flatten = (ps.take (k + 1)).flatten ++ (ps.drop (k + 1)).flatten := by rw [← List.flatten_append, List.take_append_drop]
        have h2 := HL.out
        rw [hfl, e, List.length_append, List.length_append] at h2
        omega
      have HM : Hid (m = (ps.getD k []).length) := hm
      clear hm
      go_wp2_with (at_builtin; refine wpList_append_has rfl (.tmp 11) (.tmp 15) rfl w.heap.size _ _ _ (ps.getD k []) rfl rfl HO.out HU.out (by rw [← HM.out]; have := HTS.out.2; omega) HW.out.size ?_; intro v2 w2 ho2 hb2; have H2 : Hid (Owns w2 w.heap.size v2 (ps.take (k + 1)).flatten ∧ Below w.heap.size w w2) := ⟨by rw [← HTS.out.1]; exact ho2, HW.out.trans hb2⟩; clear ho2 hb2)
      obtain ⟨xo, xc, e2, _⟩ := H2.out.1.has.form
      subst e2
      go_roundw
      case rel => exact ⟨k + 1, by omega, by go_num, H2.out.1, H2.out.2⟩
      case measure => simp [intOf]; omega
    · have hkI : ¬ (k : Int) < (n : Int) := by omega
      obtain rfl : k = n := by omega
      have ho := HO.out
      rw [HN.out, List.take_length] at ho
      obtain ⟨xo, xc, e2, _⟩ := ho.has.form
      subst e2
      have R : Hid (Owns wr w.heap.size (.slice xo ps.flatten.length xc) ps.flatten ∧ Below w.heap.size w wr) := ⟨ho, HW.out⟩
      clear ho HO HW
      obtain ⟨fl, hfl⟩ : ∃ fl, fl = ps.flatten.length := ⟨_, rfl⟩
      rw [← hfl] at R ⊢
      clear hfl
      go_wp2
      go_ret
      exact ⟨_, rfl, R.out⟩

def wt : List (List Nat) → Nat
  | [] => 0
  | p :: l => 1 + p.length + wt l
theorem wt_snoc : ∀ (l : List (List Nat)) (k : Nat), k < l.length → wt (l.take (k + 1)) = wt (l.take k) + (1 + (l.getD k []).length)
  | [], k, h => by simp at h
  | p :: l, 0, _ => by simp [wt]
  | p :: l, k + 1, h => by
    have := wt_snoc l k (by simpa using h)
    simp only [List.take_succ_cons, wt, List.getD_cons_succ]
    omega
theorem wt_flat : ∀ (l : List (List Nat)), wt l = l.length + l.flatten.length
  | [] => rfl
  | p :: l => by simp only [wt, wt_flat l, List.flatten_cons, List.length_append, List.length_cons]; omega

set_option maxHeartbeats 800000 in
set_option maxRecDepth 100000 in
theorem cadd_neg (C : Nat) (left q : Int) (w : World) (h : CountAt w C left) (h0 : left < 0) : Calls Tryd.prog 25 #[.pointer (some ⟨C, 0, none⟩), .int .i64 q] w fun e w' => (∃ q, e = .returned (.bool q)) ∧ CountAt w' C left ∧ But C w w' := by
  have hc : w.cell? ⟨C, 0, none⟩ = some (.int .i64 left) := cell_of_row _ _ 0 _ _ _ h
  have HN : Hid (CountAt w C left) := h
  have h1 : ¬ (0 ≤ left) := by omega
  clear h
  go_enter Tryd.func25, Tryd.ntmps25
  go_wp2
  go_ret
  exact ⟨.inl rfl, HN.out, But.refl _ _⟩

set_option maxHeartbeats 2000000 in
set_option maxRecDepth 100000 in
theorem chunks_any (C : Nat) (v : Value) (ps : List (List Nat)) (w0 w : World) (hC : CountAt w C 32768) (hv : HasL w0 v ps) (hw : Below w0.heap.size w0 w) (hCg : w0.heap.size ≤ C) (hn : ps.length ≤ 9223372036854775807) (hp : ∀ p ∈ ps, p.length ≤ 9223372036854775807) :
    Calls Tryd.prog 38 #[.pointer (some ⟨C, 0, none⟩), v] w fun e w' => (∃ u, e = .returned u) ∧ ∃ z, CountAt w' C z ∧ (0 ≤ z → wt ps ≤ 32768) ∧ Below w0.heap.size w0 w' := by
  obtain ⟨ao, cap, rfl⟩ := hv.form
  have HV : Hid (HasL w0 (.slice ao ps.length cap) ps ∧ ∀ p ∈ ps, p.length ≤ 9223372036854775807) := ⟨hv, hp⟩
  obtain ⟨n, hnn⟩ : ∃ n, n = ps.length := ⟨_, rfl⟩
  have HN : Hid (n = ps.length) := hnn
  have H0 : Hid (CountAt w C 32768 ∧ Below w0.heap.size w0 w) := ⟨hC, hw⟩
  rw [← hnn] at hn ⊢
  clear hv hnn hC hw hp
  go_enter Tryd.func38, Tryd.ntmps38
  go_wp2_with fail
  go_loopw [4] (fun i wr => ∃ (k : Nat) (z : Int), k ≤ n ∧ i = .int .i64 k ∧ z ≤ 32768 ∧ Hid (0 ≤ z → z = 32768 - (wt (ps.take k) : Int)) ∧ Hid (CountAt wr C z) ∧ Hid (Below w0.heap.size w0 wr)) (fun i _ => n - (intOf i).toNat)
  case atStart => exact ⟨0, 32768, by omega, rfl, by omega, fun _ => rfl, H0.out.1, H0.out.2⟩
  case round =>
    clear H0
    obtain ⟨k, z, hk, rfl, hz, HZ, HCt, HW⟩ := hrel
    have K24 : Hid (Calls Tryd.prog 24 #[.pointer (some ⟨C, 0, none⟩)] wr fun e w' => e = .returned (.bool (decide (0 ≤ z))) ∧ wr = w') := ok_any C z wr HCt.out
    by_cases hgo : k < n ∧ 0 ≤ z
    · obtain ⟨hlt, h0⟩ := hgo
      have hkI : (k : Int) < (n : Int) := by omega
      have hdz : decide (0 ≤ z) = true := by simp [h0]
      rw [hdz] at K24
      have hkp : k < ps.length := by have := HN.out; omega
      obtain ⟨a, uo, uc, rfl, hcu, _⟩ := HV.out.1.at HW.out hkp
      obtain ⟨m, hm⟩ : ∃ m, m = (ps.getD k []).length := ⟨_, rfl⟩
      rw [← hm] at hcu
      have hmb : m ≤ 9223372036854775807 := by rw [hm]; exact HV.out.2 _ (by simp [List.getD, List.getElem?_eq_getElem hkp])
      have hwt := wt_snoc ps k hkp
      rw [← hm] at hwt
      have K1 : Hid (Calls Tryd.prog 25 #[.pointer (some ⟨C, 0, none⟩), .int .i64 1] wr fun e w' => ∃ q, e = .returned (.bool q) ∧ (CountAt w' C (z - 1) ∧ But C wr w')) :=
        (cadd_any C z 1 (z - 1) wr HCt.out h0 (by rw [IntKind.wrap_i64]; omega)).mono fun e w' ⟨⟨q, q1⟩, q2⟩ => ⟨q, q1, q2⟩
      have K2 : Hid (∀ wz, CountAt wz C (z - 1) → Calls Tryd.prog 25 #[.pointer (some ⟨C, 0, none⟩), .int .i64 (m : Int)] wz fun e w' => ∃ q, e = .returned (.bool q) ∧ ∃ y, (CountAt w' C y ∧ y ≤ 32768 ∧ (0 ≤ y → y = 32768 - (wt (ps.take (k + 1)) : Int)) ∧ But C wz w')) := fun wz hzc => by
        by_cases h1 : 0 ≤ z - 1
        · refine (cadd_any C (z - 1) m (z - 1 - m) wz hzc h1 (by rw [IntKind.wrap_i64]; omega)).mono fun e w' ⟨⟨q, q1⟩, q2, q3⟩ => ⟨q, q1, _, q2, by omega, fun _ => ?_, q3⟩
          have := HZ.out h0
          rw [hwt]; omega
        · exact (cadd_neg C (z - 1) m wz hzc (by omega)).mono fun e w' ⟨⟨q, q1⟩, q2, q3⟩ => ⟨q, q1, _, q2, by omega, fun h => absurd h h1, q3⟩
      have HBW : Hid (∀ a b, Below w0.heap.size w0 a → But C a b → Below w0.heap.size w0 b) := fun a b h1 h2 => h1.trans (h2.below hCg h1.size)
      have hcu2 : ∀ w5, But C wr w5 → w5.cell? (a.add k) = some (.slice uo m uc) := fun w5 hb => hb.cell hcu (fun e => by
        obtain ⟨a', uo', uc', e1, h1, _⟩ := HV.out.1.at (Below.refl w0.heap.size w0) hkp
        have := block_lt_of_cell h1
        simp only [Option.some.injEq] at e1
        rw [← e1] at this
        omega)
      have HC2 : Hid (∀ w5, But C wr w5 → w5.cell? (a.add k) = some (.slice uo m uc)) := hcu2
      clear hm hwt hkp hcu hcu2
      go_upto_region 4 with (first
        | (go_at_call 24; refine K24.out.mono ?_; rintro e w' ⟨rfl, rfl⟩)
        | (go_at_call 25; refine K1.out.mono ?_; rintro e w5 ⟨q, rfl, h5⟩; have H5 : Hid (CountAt w5 C (z - 1) ∧ But C wr w5) := h5; clear h5))
      have hcu := HC2.out w5 H5.out.2
      go_wp2_with (go_at_call 25; refine (K2.out _ H5.out.1).mono ?_; rintro e w6 ⟨q, rfl, y, h6⟩; have H6 : Hid (CountAt w6 C y ∧ y ≤ 32768 ∧ (0 ≤ y → y = 32768 - (wt (ps.take (k + 1)) : Int)) ∧ Below w0.heap.size w0 w6) := ⟨h6.1, h6.2.1, h6.2.2.1, HBW.out _ _ (HBW.out _ _ HW.out H5.out.2) h6.2.2.2⟩; clear h6)
      go_roundw
      case rel => exact ⟨k + 1, y, by omega, by go_num, H6.out.2.1, H6.out.2.2.1, H6.out.1, H6.out.2.2.2⟩
      case measure => simp [intOf]; omega
    · have R : Hid (CountAt wr C z ∧ (0 ≤ z → wt ps ≤ 32768) ∧ Below w0.heap.size w0 wr) := ⟨HCt.out, fun h => by
        have h1 := HZ.out h
        have hkn : k = ps.length := by have := HN.out; omega
        rw [hkn, List.take_length] at h1
        omega, HW.out⟩
      by_cases hlt : k < n
      · have hkI : (k : Int) < (n : Int) := by omega
        have hdz : decide (0 ≤ z) = false := by simp; omega
        rw [hdz] at K24
        go_wp2_with (go_at_call 24; refine K24.out.mono ?_; rintro e w' ⟨rfl, rfl⟩)
        go_end0
        exact ⟨⟨_, rfl⟩, z, R.out⟩
      · have hkI : ¬ (k : Int) < (n : Int) := by omega
        go_wp2_with fail
        go_end0
        exact ⟨⟨_, rfl⟩, z, R.out⟩
end Go.Proofs.YtmglopfjjbnfiaaDoor
