/-
  A SETUP'S READER, the program's: several numbers.
-/
import Derived.Test.YtfigneaaeakbcaaDoorRf
namespace Go.Proofs.YtfigneaaeakbcaaDoor
open Go.RowKit Hm
attribute [local go_sem] Oper.semAt_some

def vi (n : Int) : Value := .int .i64 n
/-- what numbers answers: the cells of a setup at S -/
def NsP (c S off : Nat) (lo hi : Int) (ws : List W) (e : Nat) (Y : List Value) (w : World) (E : Ending) (w' : World) : Prop := Kp (fun g => g = c ∨ g = S) w w' ∧ match numsW lo hi 3 ws e with
  | .ok (l, r) => E = .returned .nilIface ∧ Cr c r e w' ∧ w'.heap[S]? = some (.cells (over Y off (l.map vi)).toArray 26 (0, 0)) ∧ l.length = 3 ∧ (∀ x ∈ r, x ∈ ws)
  | .error y => ∃ v, E = .returned v ∧ Flt w' v y ∧ ∃ Y' : List Value, w'.heap[S]? = some (.cells Y'.toArray 26 (0, 0)) ∧ Y'.length = 7 ∧ Y'.toArray.all (·.oneCell') = true
theorem cell_some {w : World} {S : Nat} {L : List Value} {T : TypeId} (h : w.heap[S]? = some (.cells L.toArray T (0, 0))) {j : Nat} (hj : j < L.length) : ∃ o, w.cell? ⟨S, j, none⟩ = some o := ⟨L[j], by rw [cell_heap h]; simp [hj]⟩
theorem takeW_sub {ws : List W} {e : Nat} {x : W} {r : List W} (h : takeW ws e = .ok (x, r)) : ∃ y, ws = y :: r ∧ y = x := by
  cases ws with
  | nil => cases h
  | cons y t =>
    have h : (if y.kind = 2 then Except.error (y.pl, 200) else Except.ok (y, t)) = (Except.ok (x, r) : Except Er (W × List W)) := h
    split at h
    · cases h
    · injection h with h; injection h with h1 h2; subst h1; subst h2; exact ⟨_, rfl, rfl⟩
theorem numW_sub {lo hi : Int} {ws : List W} {e : Nat} {n : Int} {r : List W} (h : numW lo hi ws e = .ok (n, r)) : ∀ x ∈ r, x ∈ ws := by
  unfold numW at h
  split at h
  · cases h
  · rename_i x r' ht
    obtain ⟨y, rfl, rfl⟩ := takeW_sub ht
    split at h
    · injection h with h; injection h with _ h; subst h; exact fun z hz => by simp [hz]
    · cases h
theorem wordW_sub {s : By} {ws : List W} {e : Nat} {r : List W} (h : wordW s ws e = .ok r) : ∀ x ∈ r, x ∈ ws := by
  unfold wordW at h
  split at h
  · cases h
  · rename_i x r' ht
    obtain ⟨y, rfl, rfl⟩ := takeW_sub ht
    split at h
    · injection h with h; subst h; exact fun z hz => by simp [hz]
    · cases h
theorem over_more (Y : List Value) (off : Nat) (l : List Value) (v : Value) (h : off + l.length < Y.length) : (over Y off l).set (off + l.length) v = over Y off (l ++ [v]) := by
  have h2 : off + l.length < (over Y off l).length := by unfold over; simp; omega
  have := over_set (over Y off l) [] (off + l.length) v h2
  have e1 : over ((over Y off l).set (off + l.length) v) (off + l.length + 1) [] = (over Y off l).set (off + l.length) v := by unfold over; simp
  rw [e1] at this
  rw [this]
  unfold over
  have hl : (Y.take off).length = off := by simp; omega
  have a1 : (Y.take off ++ l ++ Y.drop (off + l.length)).take (off + l.length) = Y.take off ++ l := by
    rw [List.take_append_of_le_length (by simp; omega), List.take_of_length_le (by simp; omega)]
  have a2 : (Y.take off ++ l ++ Y.drop (off + l.length)).drop (off + l.length + 1) = Y.drop (off + (l.length + 1)) := by
    rw [List.drop_append, List.drop_of_length_le (by simp; omega)]
    have : off + l.length + 1 - (Y.take off ++ l).length = 1 := by simp; omega
    rw [this, List.drop_drop, List.nil_append]; congr 1
  simp only [List.length_singleton, List.length_append]
  rw [a1, a2]
  simp
theorem over_len (Y : List Value) (off : Nat) (l : List Value) (h : off + l.length ≤ Y.length) : (over Y off l).length = Y.length := by unfold over; simp; omega
theorem over_all (Y : List Value) (off : Nat) (l : List Int) (h : Y.toArray.all (·.oneCell') = true) : (over Y off (l.map vi)).toArray.all (·.oneCell') = true := by
  rw [Array.all_eq_true_iff_forall_mem] at h ⊢
  intro x hx
  have hx : x ∈ over Y off (l.map vi) := by simpa using hx
  unfold over at hx
  simp only [List.mem_append] at hx
  rcases hx with (hx | hx) | hx
  · exact h x (by simpa using List.mem_of_mem_take hx)
  · obtain ⟨n, _, rfl⟩ := List.mem_map.1 hx; rfl
  · exact h x (by simpa using List.mem_of_mem_drop hx)
set_option maxRecDepth 100000 in
set_option maxHeartbeats 8000000 in
theorem numbers_any (c S off : Nat) (lo hi : Int) (ws : List W) (e : Nat) (Y : List Value) (w : World) (h : Cr c ws e w) (hV : ∀ W, Below c w W → Vs W) (hws : ∀ x ∈ ws, x.text.length ≤ 100000) (hcS : c < S) (hS : w.heap[S]? = some (.cells Y.toArray 26 (0, 0))) (hY : Y.length = 7) (hY1 : Y.toArray.all (·.oneCell') = true) (hoff : off + 3 ≤ 7) :
    Calls Tryd.prog 24 #[.pointer (some ⟨c, 0, none⟩), .slice (some ⟨S, off, none⟩) 3 3, .int .i64 lo, .int .i64 hi] w (NsP c S off lo hi ws e Y w) := by
  obtain ⟨R, hR⟩ : ∃ R, numsW lo hi 3 ws e = R := ⟨_, rfl⟩
  have HV := hid hV
  have HR := hid hR
  have H0 := hid (⟨h, hS⟩ : _ ∧ _)
  have HWS := hid hws
  have HY := hid (⟨hY, hY1⟩ : _ ∧ _)
  have hcl := h.lt
  clear h hS hws hV hR hY hY1
  go_enter Tryd.func24, Tryd.ntmps24
  go_upto_region 2 with fail
  go_loopw [8, 12] (fun x8 x12 wr => ∃ (k : Nat), x8 = .nilIface ∧ x12 = .int .i64 (k : Int) ∧ k ≤ 3 ∧ Hid (∃ l r, l.length = k ∧ Cr c r e wr ∧ Kp (fun g => g = c ∨ g = S) w wr ∧ wr.heap[S]? = some (.cells (over Y off (l.map vi)).toArray 26 (0, 0)) ∧ (∀ x ∈ r, x ∈ ws) ∧ R = match numsW lo hi (3 - k) r e with | .ok (l', r') => .ok (l ++ l', r') | .error y => .error y)) (fun _ x12 _ => 3 - iOf x12)
  case atStart =>
    refine ⟨0, rfl, rfl, by omega, [], ws, rfl, H0.out.1, Kp.refl _ _, ?_, fun _ h => h, ?_⟩
    · rw [H0.out.2]; simp [over]
    · rw [← HR.out]; cases numsW lo hi 3 ws e <;> simp
  case round =>
    obtain ⟨k, rfl, rfl, hk, HI⟩ := hrel
    obtain ⟨l, r, hl, hC, hK, hSr, hsub, hRR⟩ : ∃ l r, l.length = k ∧ Cr c r e wr ∧ Kp (fun g => g = c ∨ g = S) w wr ∧ wr.heap[S]? = some (.cells (over Y off (l.map vi)).toArray 26 (0, 0)) ∧ (∀ x ∈ r, x ∈ ws) ∧ R = match numsW lo hi (3 - k) r e with | .ok (l', r') => .ok (l ++ l', r') | .error y => .error y := HI.out
    clear HI
    by_cases hk3 : k < 3
    · have hkI : (k : Int) < 3 := by omega
      have CN := number_any c lo hi r e wr hC (fun W kW => HV.out W ((hK.below (by omega) (fun g q => by omega)).trans kW)) (fun x hx => HWS.out x (hsub x hx))
      have hix : ¬ (3 : Int) ≤ k := by omega
      have hw1 : IntKind.i64.wrap ((k : Int) + 1) = ((k + 1 : Nat) : Int) := by rw [IntKind.wrap_i64]; omega
      have hun : numsW lo hi (3 - k) r e = match numW lo hi r e with | .error x => .error x | .ok (n, r) => match numsW lo hi (2 - k) r e with | .error x => .error x | .ok (l, r) => .ok (n :: l, r) := by
        rw [show 3 - k = (2 - k) + 1 by omega]; rfl
      rw [hun] at hRR
      clear hun
      cases hn : numW lo hi r e with
      | error y =>
        rw [hn] at hRR
        have CN : Hid (Calls Tryd.prog 25 #[.pointer (some ⟨c, 0, none⟩), .int .i64 lo, .int .i64 hi] wr fun E w' => ∃ N, E = .returned (.tuple #[.int .i64 0, .iface 58 (.pointer (some ⟨N, 0, none⟩))]) ∧ Kp (fun g => g = c) wr w' ∧ Flt w' (.iface 58 (.pointer (some ⟨N, 0, none⟩))) y) := CN.mono (by
          rintro E w' ⟨k1, k2⟩
          rw [hn] at k2
          obtain ⟨v, rfl, hf⟩ := k2
          obtain ⟨N, rfl, hN⟩ := hf
          exact ⟨N, rfl, k1, N, rfl, hN⟩)
        have HH := hid (⟨hl, hK, hSr, hRR⟩ : _ ∧ _ ∧ _ ∧ _)
        clear hl hK hSr hRR hC hsub hn
        go_wp2_with (go_at_call 25; refine CN.out.mono ?_; rintro E w1 ⟨N, rfl, k1, f1⟩; have hS1 := (k1.block S (Array.getElem?_eq_some_iff.1 HH.out.2.2.1).1 (by omega)).trans HH.out.2.2.1; have hcc := cell_some hS1 (j := off + k) (by rw [over_len _ _ _ (by have := HH.out.1; have := HY.out.1; simp; omega)]; have := HY.out.1; omega); have hfz : w1.frozen? ⟨S, off + k, none⟩ = false := (by simp [World.frozen?, hS1]); obtain ⟨o9, hcc⟩ := hcc; have H1 := hid (⟨k1, f1, hS1⟩ : _ ∧ _ ∧ _); clear k1 f1 hS1)
        go_ret
        obtain ⟨k1, f1, hS1⟩ := H1.out
        obtain ⟨q1, q2, q3, q4⟩ := HH.out
        have kset := Kp.set w1 S (off + k) (.int .i64 0)
        refine ⟨(q2.snd (k1.mono fun g _ q => Or.inl q)).snd (kset.mono fun g _ q => Or.inr q), ?_⟩
        rw [HR.out, q4]
        refine ⟨_, rfl, f1.kp kset (fun g cs q hc => ?_), (over Y off (l.map vi)).set (off + k) (.int .i64 0), ?_, ?_, ?_⟩
        · have q : g = S := q
          rw [q, hS1] at hc; cases hc
        · rw [heap_setCell_at _ hS1, List.setIfInBounds_toArray]
        · rw [List.length_set, over_len _ _ _ (by have := HY.out.1; simp; omega)]; exact HY.out.1
        · have := over_all Y off (l ++ [0]) HY.out.2
          rw [List.map_append, show ([0] : List Int).map vi = [vi 0] from rfl, ← over_more _ _ _ _ (by have := HY.out.1; simp; omega)] at this
          simpa [q1, vi] using this
      | ok nr =>
        obtain ⟨n, r1⟩ := nr
        rw [hn] at hRR
        have CN : Hid (Calls Tryd.prog 25 #[.pointer (some ⟨c, 0, none⟩), .int .i64 lo, .int .i64 hi] wr fun E w' => E = .returned (.tuple #[.int .i64 n, .nilIface]) ∧ Kp (fun g => g = c) wr w' ∧ Cr c r1 e w') := CN.mono (by
          rintro E w' ⟨k1, k2⟩
          rw [hn] at k2
          exact ⟨k2.1, k1, k2.2⟩)
        have hs1 := numW_sub hn
        have HH := hid (⟨hl, hK, hSr, hRR, fun x hx => hsub x (hs1 x hx)⟩ : _ ∧ _ ∧ _ ∧ _ ∧ _)
        clear hl hK hSr hRR hC hsub hn hs1
        go_wp2_with (go_at_call 25; refine CN.out.mono ?_; rintro E w1 ⟨rfl, k1, f1⟩; have hS1 := (k1.block S (Array.getElem?_eq_some_iff.1 HH.out.2.2.1).1 (by omega)).trans HH.out.2.2.1; have hcc := cell_some hS1 (j := off + k) (by rw [over_len _ _ _ (by have := HH.out.1; have := HY.out.1; simp; omega)]; have := HY.out.1; omega); have hfz : w1.frozen? ⟨S, off + k, none⟩ = false := (by simp [World.frozen?, hS1]); obtain ⟨o9, hcc⟩ := hcc; have H1 := hid (⟨k1, f1, hS1⟩ : _ ∧ _ ∧ _); clear k1 f1 hS1)
        obtain ⟨k1, f1, hS1⟩ := H1.out
        obtain ⟨q1, q2, q3, q4, q5⟩ := HH.out
        have kset := Kp.set w1 S (off + k) (.int .i64 n)
        go_roundw
        case rel =>
          refine ⟨k + 1, rfl, by first | rfl | (congr 1; omega), by omega, l ++ [n], r1, by simp [q1], f1.kp kset (by omega) (fun g cs f q hc => ?_), (q2.snd (k1.mono fun g _ q => Or.inl q)).snd (kset.mono fun g _ q => Or.inr q), ?_, q5, ?_⟩
          · have q : g = S := q
            rw [q, hS1] at hc; cases hc
          · rw [heap_setCell_at _ hS1, List.setIfInBounds_toArray, List.map_append, show ([n] : List Int).map vi = [vi n] from rfl, ← over_more _ _ _ _ (by have := HY.out.1; simp; omega)]
            simp [q1, vi]
          · rw [q4, show 3 - (k + 1) = 2 - k by omega]
            cases numsW lo hi (2 - k) r1 e <;> simp
        case measure => simp; omega
    · have hkI : ¬ (k : Int) < 3 := by omega
      have he : k = 3 := by omega
      subst he
      have HH := hid (⟨hl, hC, hK, hSr, hsub, hRR⟩ : _ ∧ _ ∧ _ ∧ _ ∧ _ ∧ _)
      clear hl hC hK hSr hsub hRR
      go_wp2
      go_ret
      obtain ⟨hl, hC, hK, hSr, hsub, hRR⟩ := HH.out
      refine ⟨hK, ?_⟩
      rw [HR.out, hRR]
      simp only [Nat.sub_self, numsW, List.append_nil]
      exact ⟨rfl, hC, hSr, hl, hsub⟩
end Go.Proofs.YtfigneaaeakbcaaDoor
