/-
  A SETUP'S READER, the program's: numbers.
-/
import Derived.Test.YtfigneaaeakbcaaDoorRd
import Derived.Test.YtfigneaaeakbcaaDoorShelf
import Derived.Lib.AppendIntMem
namespace Go.Proofs.YtfigneaaeakbcaaDoor
open Go.RowKit Hm
attribute [local go_sem] Oper.semAt_some

/-- the library's variables -/
def Vs (w : World) : Prop := Lib.TabIs Tryd.prog w "internal/strconv.uint64pow10" .u64 Lib.pow10Tab ∧ (∃ tp p, w.var? Tryd.prog "strconv.ErrSyntax" = some #[.iface tp p]) ∧ ∃ tp p, w.var? Tryd.prog "strconv.ErrRange" = some #[.iface tp p]
/-- what numberOf answers -/
def NuP (t : ByteArray) (w : World) (E : Ending) (w' : World) : Prop := G w w' ∧ ∃ n b, E = .returned (.tuple #[.int .i64 n, .bool b]) ∧ (match numR (tl t) with | some v => b = true ∧ n = v | none => b = false)
theorem atoi_any (t : ByteArray) (w : World) (hV : Vs w) (ht : t.size ≤ 100000) : Calls Tryd.prog 46 #[.string t] w fun E w' => G w w' ∧ ((∃ v, Lib.atoiAll (tl t) = .ok v ∧ E = .returned (.tuple #[.int .i64 v, .nilIface])) ∨ ((∀ v, Lib.atoiAll (tl t) ≠ .ok v) ∧ ∃ n N, E = .returned (.tuple #[.int .i64 n, .iface 113 (.pointer (some ⟨N, 0, none⟩))]))) := by
  obtain ⟨_, ⟨tp, p, hs⟩, ⟨tq, q, hr⟩⟩ := hV
  have e : tl t = t.data.toList := by rw [tl, ByteArray.toList_eq]
  rw [e]
  cases h : Lib.atoiAll t.data.toList with
  | ok v =>
    refine (Tryd.strconv_Atoi_ok t (by omega) v h w).mono ?_
    rintro E w' ⟨rfl, rfl | ⟨x, rfl⟩⟩
    · exact ⟨Below.refl _ _, .inl ⟨v, rfl, rfl⟩⟩
    · exact ⟨Lib.bytesWorld_below w 5 x, .inl ⟨v, rfl, rfl⟩⟩
  | «syntax» =>
    refine (Tryd.strconv_Atoi_syntax_var t (by omega) h tp p w hs).mono ?_
    rintro E w' ⟨N, rfl, _, _, hb⟩
    exact ⟨hb, .inr ⟨fun v => (by intro h; cases h), _, N, rfl⟩⟩
  | range =>
    refine (Tryd.strconv_Atoi_range_var t (by omega) h tq q w hr).mono ?_
    rintro E w' ⟨N, rfl, _, _, hb⟩
    exact ⟨hb, .inr ⟨fun v => (by intro h; cases h), _, N, rfl⟩⟩
set_option maxRecDepth 100000 in
set_option maxHeartbeats 4000000 in
theorem numOf_any (t : ByteArray) (w : World) (hV : ∀ W, G w W → Vs W) (ht : t.size ≤ 100000) : Calls Tryd.prog 37 #[.string t] w (NuP t w) := by
  have C1 := hid (atoi_any t w (hV w (Below.refl _ _)) ht)
  have hP := numP_numR (tl t)
  unfold numP at hP
  have HP := hid hP
  have HV := hid hV
  clear hP hV
  by_cases hok : ∃ v, Lib.atoiAll (tl t) = .ok v
  · obtain ⟨v, hv⟩ := hok
    have C1 : Hid (Calls Tryd.prog 46 #[.string t] w fun E w' => E = .returned (.tuple #[.int .i64 v, .nilIface]) ∧ G w w') := by
      refine (C1.out).mono ?_
      rintro E w' ⟨h1, ⟨v', h2, rfl⟩ | ⟨h2, _⟩⟩
      · rw [hv] at h2; cases h2; exact ⟨rfl, h1⟩
      · exact absurd hv (h2 v)
    have hbnd := Lib.atoiAll_bounds hv
    have HP : Hid ((if Lib.itoa v = tl t ∧ -1099511627776 ≤ v ∧ v ≤ 1099511627776 then some v else none) = numR (tl t)) := by
      have := HP.out
      rw [hv] at this
      exact this
    have C2 : Hid (∀ W, G w W → Calls Tryd.prog 47 #[.int .i64 v] W fun E w' => E = .returned (.string ⟨(Lib.itoa v).toArray⟩) ∧ G W w') := fun W k => by
      refine (Tryd.strconv_Itoa v (by omega) (by omega) W (HV.out W k).1).mono ?_
      rintro E w' ⟨rfl, k, os, rfl⟩
      exact ⟨rfl, Lib.below_grow _ _ (Nat.le_refl _) _ _⟩
    clear hv
    generalize Lib.itoa v = L at *
    by_cases h1 : L = tl t
    · have b1 : (L == t.toList) = true := by simp [h1]
      by_cases h2 : -1099511627776 ≤ v
      · by_cases h3 : v ≤ 1099511627776
        · go_enter Tryd.func37, Tryd.ntmps37
          go_wp2_with (first
            | (go_at_call 46; refine C1.out.mono ?_; rintro E w1 ⟨rfl, g1⟩; have H1 := hid g1; clear g1)
            | (go_at_call 47; refine (C2.out _ H1.out).mono ?_; rintro E w2 ⟨rfl, g2⟩; have H2 := hid g2; clear g2))
          refine bodyPost_ret (results_tmp2 rfl _ _ _) rfl ?_
          refine ⟨Below.trans (B := w.heap.size) H1.out (Below.mono H2.out H1.out.size), v, true, ?_, ?_⟩
          · simp
          · rw [← HP.out, if_pos ⟨h1, h2, h3⟩]; exact ⟨rfl, rfl⟩
        · go_enter Tryd.func37, Tryd.ntmps37
          go_wp2_with (first
            | (go_at_call 46; refine C1.out.mono ?_; rintro E w1 ⟨rfl, g1⟩; have H1 := hid g1; clear g1)
            | (go_at_call 47; refine (C2.out _ H1.out).mono ?_; rintro E w2 ⟨rfl, g2⟩; have H2 := hid g2; clear g2))
          refine bodyPost_ret (results_tmp2 rfl _ _ _) rfl ?_
          refine ⟨Below.trans (B := w.heap.size) H1.out (Below.mono H2.out H1.out.size), v, false, ?_, ?_⟩
          · simp; omega
          · rw [← HP.out, if_neg (by omega)]
      · go_enter Tryd.func37, Tryd.ntmps37
        go_wp2_with (first
          | (go_at_call 46; refine C1.out.mono ?_; rintro E w1 ⟨rfl, g1⟩; have H1 := hid g1; clear g1)
          | (go_at_call 47; refine (C2.out _ H1.out).mono ?_; rintro E w2 ⟨rfl, g2⟩; have H2 := hid g2; clear g2))
        refine bodyPost_ret (results_tmp2 rfl _ _ _) rfl ?_
        refine ⟨Below.trans (B := w.heap.size) H1.out (Below.mono H2.out H1.out.size), v, false, ?_, ?_⟩
        · simp
        · rw [← HP.out, if_neg (by omega)]
    · have b1 : (L == t.toList) = false := by rw [beq_eq_false_iff_ne]; exact h1
      go_enter Tryd.func37, Tryd.ntmps37
      go_wp2_with (first
        | (go_at_call 46; refine C1.out.mono ?_; rintro E w1 ⟨rfl, g1⟩; have H1 := hid g1; clear g1)
        | (go_at_call 47; refine (C2.out _ H1.out).mono ?_; rintro E w2 ⟨rfl, g2⟩; have H2 := hid g2; clear g2))
      refine bodyPost_ret (results_tmp2 rfl _ _ _) rfl ?_
      refine ⟨Below.trans (B := w.heap.size) H1.out (Below.mono H2.out H1.out.size), v, false, ?_, ?_⟩
      · simp
      · rw [← HP.out, if_neg (fun h => h1 h.1)]
  · have HN : Hid (numR (tl t) = none) := by
      have := HP.out
      split at this
      · rename_i v hv; exact absurd ⟨v, hv⟩ hok
      · exact this.symm
    have C1 : Hid (Calls Tryd.prog 46 #[.string t] w fun E w' => ∃ n N, E = .returned (.tuple #[.int .i64 n, .iface 113 (.pointer (some ⟨N, 0, none⟩))]) ∧ G w w') := by
      refine (C1.out).mono ?_
      rintro E w' ⟨h1, ⟨v', h2, rfl⟩ | ⟨h2, n, N, rfl⟩⟩
      · exact absurd ⟨v', h2⟩ hok
      · exact ⟨n, N, rfl, h1⟩
    clear HP hok
    go_enter Tryd.func37, Tryd.ntmps37
    go_wp2_with (go_at_call 46; refine C1.out.mono ?_; rintro E w1 ⟨n, N, rfl, g1⟩; have H1 := hid g1; clear g1)
    refine bodyPost_ret (results_tmp2 rfl _ _ _) rfl ?_
    refine ⟨H1.out, n, false, ?_, ?_⟩
    · simp
    · rw [HN.out]
end Go.Proofs.YtfigneaaeakbcaaDoor
