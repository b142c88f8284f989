/-
  THE REFERENCE's READER: a number that is wanted, the end.
-/
import Derived.Test.YtfigneaaeakbcaaDoorUc
namespace Go.Proofs.YtfigneaaeakbcaaDoor
open Go.RowKit Hm
attribute [local go_sem] Oper.semAt_some

/-- a number read -/
def numS (lo hi : Int) (st : St) (e : Nat) : Except Er (Int × List W) := match st with
  | .ok ws => numW lo hi ws e
  | .error y => .error y
def NrP (c e : Nat) (lo hi : Int) (st : St) (w : World) (E : Ending) (w' : World) : Prop := Kp (fun g => g = c) w w' ∧ match numS lo hi st e with
  | .ok (n, r) => E = .returned (.int .i64 n) ∧ Rr c e (.ok r) w'
  | .error y => E = .returned (.int .i64 0) ∧ Rr c e (.error y) w'
theorem numS_take {lo hi : Int} {st : St} {e : Nat} {y : Er} (h : takeS st e = .error y) : numS lo hi st e = .error y := by
  cases st with
  | ok ws => show numW lo hi ws e = _; unfold numW; rw [show takeW ws e = .error y from h]
  | error z => injection h with h; rw [h]; rfl
theorem numS_ok {lo hi : Int} {st : St} {e : Nat} {x : W} {r : List W} (h : takeS st e = .ok (x, r)) : numS lo hi st e = (match numK lo hi x with | some n => .ok (n, r) | none => .error (x.pl, 201)) := by
  cases st with
  | ok ws => show numW lo hi ws e = _; unfold numW; rw [show takeW ws e = .ok (x, r) from h]; dsimp only; split <;> simp_all
  | error z => cases h
theorem take_text {st : St} {e : Nat} {x : W} {r : List W} (h : takeS st e = .ok (x, r)) : ∃ ws, st = .ok ws ∧ ws = x :: r := by
  cases st with
  | error z => cases h
  | ok ws =>
    refine ⟨ws, rfl, ?_⟩
    cases ws with
    | nil => cases h
    | cons y t =>
      have h : (if y.kind = 2 then Except.error (y.pl, 200) else Except.ok (y, t)) = (Except.ok (x, r) : Except Er (W × List W)) := h
      split at h
      · cases h
      · injection h with h; injection h with h1 h2; subst h1; subst h2; rfl
set_option maxRecDepth 100000 in
set_option maxHeartbeats 8000000 in
theorem rnumb_any (c e : Nat) (lo hi : Int) (st : St) (w : World) (h : Rr c e st w) (hws : ∀ ws, st = .ok ws → ∀ x ∈ ws, x.text.length ≤ 100000) : Calls Tryd.prog 9 #[.pointer (some ⟨c, 0, none⟩), .int .i64 lo, .int .i64 hi] w (NrP c e lo hi st w) := by
  have CF := hid (fun (st' : St) (a r : Nat) (hr : r ≠ 0) (W : World) (h' : Rr c e st' W) => fail_any c e st' a r hr W h')
  have CT := rtake_any c e st w h
  have hcl := h.lt
  cases ht : takeS st e with
  | error y =>
    have CT : Hid (Calls Tryd.prog 16 #[.pointer (some ⟨c, 0, none⟩)] w fun E w' => E = .returned (.tuple #[.agg #[.int .i64 0, .string ⟨#[]⟩, .int .i64 0], .bool false]) ∧ Kp (fun g => g = c) w w' ∧ Rr c e (.error y) w') := CT.mono (by
      rintro E w' ⟨k, h2⟩
      rw [ht] at h2
      exact ⟨h2.1, k, h2.2⟩)
    have HT := hid ht
    clear ht h
    go_enter Tryd.func9, Tryd.ntmps9
    go_wp2_with (first
      | (go_at_call 16; refine CT.out.mono ?_; rintro E w1 ⟨rfl, k1, f1⟩; have H1 := hid (⟨k1, f1⟩ : _ ∧ _); clear k1 f1)
      | ((with_reducible refine pl_alloc 7 65 #[.int .i64 0, .string ⟨#[]⟩, .int .i64 0] ?_ ?_ ?_ ?_ ?_); rfl; rfl; kernel_rfl; exact zero65; intro w2 b2 hb2 hu2 hv2 hs2; have H2 := hid (⟨hb2, hu2, hv2, hs2⟩ : _ ∧ _ ∧ _ ∧ _); clear hb2 hu2 hv2 hs2)
      | ((with_reducible refine pl_store 65 (.tmp 7) (.tmp 14) b2 #[.int .i64 0, .string ⟨#[]⟩, .int .i64 0] #[.int .i64 0, .string ⟨#[]⟩, .int .i64 0] ?_ ?_ ?_ ?_ ?_ ?_ ?_ ?_ ?_ ?_); rfl; rfl; kernel_rfl; rfl; rfl; exact H2.out.2.2.1; exact siz65; exact rfl; exact (by simp [Value.oneCell']); intro w3 k3 v3 s3; have H3 := hid (⟨k3, v3, s3⟩ : _ ∧ _ ∧ _); clear k3 v3 s3))
    go_ret
    obtain ⟨k, f⟩ := H1.out
    obtain ⟨p1, p2, p3, p4⟩ := H2.out
    obtain ⟨q1, q2, q3⟩ := H3.out
    have g13 : G w1 w3 := g_new p2 q1 (by omega)
    refine ⟨k.snd (Kp.of g13), ?_⟩
    rw [numS_take HT.out]
    exact ⟨rfl, f.up g13⟩
  | ok xr =>
    obtain ⟨x, r⟩ := xr
    have CT : Hid (Calls Tryd.prog 16 #[.pointer (some ⟨c, 0, none⟩)] w fun E w' => E = .returned (.tuple #[.agg (rc x), .bool true]) ∧ Kp (fun g => g = c) w w' ∧ Rr c e (.ok r) w') := CT.mono (by
      rintro E w' ⟨k, h2⟩
      rw [ht] at h2
      exact ⟨h2.1, k, h2.2⟩)
    have hxt : x.text.length ≤ 100000 := by
      obtain ⟨ws, e1, e2⟩ := take_text ht
      exact hws ws e1 x (by rw [e2]; simp)
    have hnE : ∀ (o : Option Int), ∃ n b, nE o = .tuple #[.int .i64 n, .bool b] ∧ (match o with | some v => b = true ∧ n = v | none => b = false) := fun o => by
      cases o with
      | some v => exact ⟨v, true, rfl, rfl, rfl⟩
      | none => exact ⟨0, false, rfl, rfl⟩
    obtain ⟨n, b, hnb, hrel⟩ := hnE (numR x.text)
    have CN : Hid (∀ W, Calls Tryd.prog 18 #[.string ⟨x.text.toArray⟩] W fun E w' => E = .returned (.tuple #[.int .i64 n, .bool b]) ∧ w' = W) := fun W => by
      have := rnum_any ⟨x.text.toArray⟩ W (by rw [← tl_len]; simp [tl, ByteArray.toList_eq]; omega)
      rw [show tl ⟨x.text.toArray⟩ = x.text from by simp [tl, ByteArray.toList_eq], hnb] at this
      exact this
    have HT := hid ht
    have hrel := hid hrel
    clear ht h hws hxt hnE hnb
    go_enter Tryd.func9, Tryd.ntmps9
    go_upto_region 5 with (first
      | (go_at_call 16; refine CT.out.mono ?_; rintro E w1 ⟨rfl, k1, f1⟩; have H1 := hid (⟨k1, f1⟩ : _ ∧ _); clear k1 f1)
      | ((with_reducible refine pl_alloc 7 65 #[.int .i64 0, .string ⟨#[]⟩, .int .i64 0] ?_ ?_ ?_ ?_ ?_); rfl; rfl; kernel_rfl; exact zero65; intro w2 b2 hb2 hu2 hv2 hs2; have H2 := hid (⟨hb2, hu2, hv2, hs2⟩ : _ ∧ _ ∧ _ ∧ _); clear hb2 hu2 hv2 hs2)
      | ((with_reducible refine pl_store 65 (.tmp 7) (.tmp 14) b2 (rc x) #[.int .i64 0, .string ⟨#[]⟩, .int .i64 0] ?_ ?_ ?_ ?_ ?_ ?_ ?_ ?_ ?_ ?_); rfl; rfl; kernel_rfl; rfl; rfl; exact H2.out.2.2.1; exact siz65; exact rfl; exact (rc_one x); intro w3 k3 v3 s3; have H3 := hid (⟨k3, v3, s3⟩ : _ ∧ _ ∧ _); clear k3 v3 s3; have cc1 : w3.cell? ⟨b2, 1, none⟩ = some (.string ⟨x.text.toArray⟩) := (by rw [cell_heap H3.out.2.1]; rfl); have cc0 : w3.cell? ⟨b2, 0, none⟩ = some (.int .i64 ((x.kind + 1 : Nat) : Int)) := (by rw [cell_heap H3.out.2.1]; rfl); have cc2 : w3.cell? ⟨b2, 2, none⟩ = some (.int .i64 (x.pl : Int)) := (by rw [cell_heap H3.out.2.1]; rfl))
      | (go_at_call 18; refine (CN.out w3).mono ?_; rintro E W ⟨rfl, hW⟩; rw [hW]; clear hW W))
    have hres : Hid (Kp (fun g => g = c) w w3 ∧ Rr c e (.ok r) w3) := by
      obtain ⟨k, f⟩ := H1.out
      obtain ⟨p1, p2, p3, p4⟩ := H2.out
      obtain ⟨q1, q2, q3⟩ := H3.out
      have g13 : G w1 w3 := g_new p2 q1 (by omega)
      exact ⟨k.snd (Kp.of g13), f.up g13⟩
    clear H2 H3
    have BAD : Hid (∀ (w5 : World), numK lo hi x = none → Kp (fun g => g = c) w3 w5 → Rr c e (failS (.ok r) (x.pl, 201)) w5 → NrP c e lo hi st w (.returned (.int .i64 0)) w5) := fun w5 hn hk hf => by
      refine ⟨hres.out.1.snd hk, ?_⟩
      rw [numS_ok HT.out, hn]
      exact ⟨rfl, hf⟩
    by_cases h1 : x.kind = 0
    · have b1 : (((x.kind + 1 : Nat) : Int) != 1) = false := by simp [h1]
      have b1' : (((x.kind : Int) + 1) != 1) = false := by simp [h1]
      cases b with
      | false =>
        go_wp2_with (first
          | (go_at_call 17; refine (CF.out (.ok r) x.pl 201 (by decide) w3 hres.out.2).mono ?_; rintro E w5 ⟨rfl, f1, f2⟩; have H5 := hid (⟨f1, f2⟩ : _ ∧ _); clear f1 f2))
        go_ret
        exact BAD.out w5 (numK_no (n := n) hrel.out) H5.out.1 H5.out.2
      | true =>
        have hn : Hid (numR x.text = some n) := by
          have := hrel.out
          split at this
          · rename_i v hv; show _ = _; rw [hv, this.2]
          · cases this
        clear hrel
        by_cases h2 : n < lo
        · skip
          go_wp2_with (first
            | (go_at_call 17; refine (CF.out (.ok r) x.pl 201 (by decide) w3 hres.out.2).mono ?_; rintro E w5 ⟨rfl, f1, f2⟩; have H5 := hid (⟨f1, f2⟩ : _ ∧ _); clear f1 f2))
          go_ret
          exact BAD.out w5 (by unfold numK; rw [hn.out]; exact if_neg (by omega)) H5.out.1 H5.out.2
        · by_cases h3 : hi < n
          · skip
            go_wp2_with (first
              | (go_at_call 17; refine (CF.out (.ok r) x.pl 201 (by decide) w3 hres.out.2).mono ?_; rintro E w5 ⟨rfl, f1, f2⟩; have H5 := hid (⟨f1, f2⟩ : _ ∧ _); clear f1 f2))
            go_ret
            exact BAD.out w5 (by unfold numK; rw [hn.out]; exact if_neg (by omega)) H5.out.1 H5.out.2
          · go_wp2
            go_ret
            refine ⟨hres.out.1, ?_⟩
            have hk : numK lo hi x = some n := by unfold numK; rw [hn.out]; exact if_pos ⟨h1, by omega, by omega⟩
            rw [numS_ok HT.out, hk]
            exact ⟨rfl, hres.out.2⟩
    · have b1 : (((x.kind + 1 : Nat) : Int) != 1) = true := by simp; omega
      have b1' : (((x.kind : Int) + 1) != 1) = true := by simp; omega
      go_wp2_with (first
        | (go_at_call 17; refine (CF.out (.ok r) x.pl 201 (by decide) w3 hres.out.2).mono ?_; rintro E w5 ⟨rfl, f1, f2⟩; have H5 := hid (⟨f1, f2⟩ : _ ∧ _); clear f1 f2))
      go_ret
      exact BAD.out w5 (numK_kd h1) H5.out.1 H5.out.2
/-- the end -/
def restS (st : St) : St := match st with
  | .ok [] => .ok []
  | .ok (x :: _) => .error (x.pl, 200)
  | .error y => .error y
set_option maxRecDepth 100000 in
set_option maxHeartbeats 4000000 in
theorem rrest_any (c e : Nat) (st : St) (w : World) (h : Rr c e st w) : Calls Tryd.prog 10 #[.pointer (some ⟨c, 0, none⟩)] w fun E w' => E = .returned (.tuple #[]) ∧ Kp (fun g => g = c) w w' ∧ Rr c e (restS st) w' := by
  have CF := hid (fun (st' : St) (a r : Nat) (hr : r ≠ 0) (W : World) (h' : Rr c e st' W) => fail_any c e st' a r hr W h')
  have HH := hid h
  cases st with
  | error y =>
    obtain ⟨h0, p, n, cap, hb⟩ := h
    have c3 : w.cell? ⟨c, 3, none⟩ = some (.int .i64 (y.2 : Int)) := by rw [cell_heap hb]; rfl
    have b1 : ((y.2 : Int) == 0) = false := by simp; omega
    clear hb h0
    go_enter Tryd.func10, Tryd.ntmps10
    go_wp2
    go_end0
    exact ⟨rfl, Kp.refl _ _, HH.out⟩
  | ok ws =>
    obtain ⟨p, cap, hb, hl⟩ := h
    have c3 : w.cell? ⟨c, 3, none⟩ = some (.int .i64 0) := by rw [cell_heap hb]; rfl
    cases ws with
    | nil =>
      have c0 : w.cell? ⟨c, 0, none⟩ = some (.slice p 0 cap) := by rw [cell_heap hb]; rfl
      clear hb hl
      go_enter Tryd.func10, Tryd.ntmps10
      go_wp2
      go_end0
      exact ⟨rfl, Kp.refl _ _, HH.out⟩
    | cons x r =>
      obtain ⟨g, o, rfl, hgc, _, hcap, hat⟩ := hl (by simp)
      have hL0 := hat 0 (rc x) rfl
      rw [Nat.zero_mul, Nat.add_zero] at hL0
      have cg : w.cell? ⟨g, o + 2, none⟩ = some (.int .i64 (x.pl : Int)) := hL0 2 _ rfl
      have c0 : w.cell? ⟨c, 0, none⟩ = some (.slice (some ⟨g, o, none⟩) (r.length + 1) cap) := by rw [cell_heap hb]; rfl
      have hi1 : (0 : Int) < (r.length : Int) + 1 := by omega
      have hi2 : (0 : Int) < ((r.length + 1 : Nat) : Int) := by omega
      have hi3 : ¬ (r.length : Int) + 1 ≤ 0 := by omega
      have hi4 : ¬ ((r.length + 1 : Nat) : Int) ≤ 0 := by omega
      clear hb hl hat hL0
      go_enter Tryd.func10, Tryd.ntmps10
      go_wp2_with (first
        | (go_at_call 17; refine (CF.out (.ok (x :: r)) x.pl 200 (by decide) w HH.out).mono ?_; rintro E w5 ⟨rfl, f1, f2⟩; have H5 := hid (⟨f1, f2⟩ : _ ∧ _); clear f1 f2))
      go_end0
      exact ⟨rfl, H5.out.1, H5.out.2⟩
end Go.Proofs.YtfigneaaeakbcaaDoor
