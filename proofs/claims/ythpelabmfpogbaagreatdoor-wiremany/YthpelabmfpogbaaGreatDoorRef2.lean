/-
  The reference's reader: Raw, Byte.
-/
import Derived.Test.YthpelabmfpogbaaGreatDoorRef
import Derived.Test.YthpelabmfpogbaaGreatDoorRaw2
import Derived.Test.YthpelabmfpogbaaGreatDoorBkLaws
namespace Go.Proofs.YthpelabmfpogbaaGreatDoor
open Go.RowKit Wire Bk

theorem RfS.at {w wa : World} {lo M : Nat} {l : List Int} {p : Nat} {fa fe : Int} {v : Value} (hh : w.heap[M]? = some (.cells #[v, .int .i64 p, .int .i64 fe, .int .i64 fa] 79 (0, 0))) (ho : Owns w lo v l) (hk : ∀ k, v.ownBlock = some k → k < M) (hl : lo ≤ M) (hn : l.length ≤ 1048576)
    (hb : Below w.heap.size w wa) (x : Int) (p' : Nat) (hx : x = p') (hp : p' ≤ l.length) :
    RfS (wa.setCell ⟨M, 1, none⟩ (.int .i64 x)) lo M l ⟨p', fa, fe⟩ ∧ w.grownBy (wa.setCell ⟨M, 1, none⟩ (.int .i64 x)) (some M) := by
  have hlt : M < w.heap.size := (Array.getElem?_eq_some_iff.1 hh).1
  have hg : w.grownBy (wa.setCell ⟨M, 1, none⟩ (.int .i64 x)) (some M) := grown_trans (grown_below _ hb) (grown_setCell _ _ _ _)
  refine ⟨⟨v, ?_, ho.block fun k e => hg.block k (ho.lt k e).2 (fun e' => by have := hk k e; simp at e'; omega), hk, hl, hp, hn⟩, hg⟩
  have h2 := heap_setCell_at (o := 1) (.int .i64 x) ((hb.block M hlt).trans hh)
  rw [h2, hx]
  rfl

set_option maxHeartbeats 1600000 in
set_option maxRecDepth 100000 in
theorem refRaw_go (lo M : Nat) (n : Int) (l : List Int) (p : Nat) (fa : Int) (w : World) (hr : RfS w lo M l ⟨p, fa, 0⟩) (hn : -9223372036854775808 ≤ n ∧ n ≤ 9223372036854775807) :
    Calls Tryz.prog 66 #[.pointer (some ⟨M, 0, none⟩), .int .i64 n] w fun e w' => ∃ v, e = .returned v ∧ RfS w' lo M l (rawS l ⟨p, fa, 0⟩ n) ∧ w.grownBy w' (some M) ∧ Owns w' w.heap.size v (rawB l ⟨p, fa, 0⟩ n) := by
  have HR : Hid (RfS w lo M l ⟨p, fa, 0⟩) := hr
  obtain ⟨v, hh, ho, hk, hl, hp, hn'⟩ := hr
  obtain ⟨ao, cap, hv, hcap⟩ := ho.has.form
  subst hv
  simp only at hh hp
  obtain ⟨h0, h1, h2, h3, hfz⟩ := rcells_of hh
  have hlt : M < w.heap.size := (Array.getElem?_eq_some_iff.1 hh).1
  have HO : Hid (Owns w lo (.slice ao l.length cap) l) := ho
  have HK : Hid (∀ k, (Value.slice ao l.length cap).ownBlock = some k → k < M) := hk
  have HH : Hid (w.heap[M]? = some (.cells #[.slice ao l.length cap, .int .i64 p, .int .i64 0, .int .i64 fa] 79 (0, 0))) := hh
  clear hh ho hk h3
  by_cases hneg : n < 0
  · have hmn : n.toNat = 0 := by omega
    by_cases hlen : l.length < p + 0
    · omega
    · have e1 : rawS l ⟨p, fa, 0⟩ n = ⟨p + 0, fa, 0⟩ := by simp [rawS, hmn] <;> omega
      have e2 : rawB l ⟨p, fa, 0⟩ n = (l.drop p).take (0) := by simp [rawB, hmn] <;> omega
      rw [e1, e2]
      obtain ⟨cc, ecc⟩ : ∃ cc, (l.drop p).take (0) = cc := ⟨_, rfl⟩
      rw [ecc]
      have HEC : Hid ((l.drop p).take (0) = cc) := ecc
      have hcc : cc.length ≤ 1048576 := by rw [← ecc, List.length_take, List.length_drop]; omega
      clear e1 e2 hmn ecc
      go_enter Tryz.func66, Tryz.ntmps66
      go_wp2_with fail
      go_quiet (fail)
      go_wp2_with fail
      obtain ⟨w1, ew⟩ : ∃ w1, w.drewN nq = w1 := ⟨_, rfl⟩
      rw [ew]
      have b1 : Below w.heap.size w w1 := by rw [← ew]; exact ⟨rfl, rfl, rfl, Nat.le_refl _, fun _ _ => rfl⟩
      have s1 : w1.heap.size = w.heap.size := by rw [← ew]; rfl
      have d0 : w1.cell? ⟨M, 0, none⟩ = some (.slice ao l.length cap) := (b1.cell hlt).trans h0
      have d1 : w1.cell? ⟨M, 1, none⟩ = some (.int .i64 p) := (b1.cell hlt).trans h1
      have HX : Hid (Has w1 (.slice ao l.length cap) l) := HO.out.has.below b1
      have HB1 : Hid (Below w.heap.size w w1) := b1
      have HS1 : Hid (w1.heap.size = w.heap.size) := s1
      clear ew b1 s1 h0 h1 h2
      by_cases hcp : cap = p
      · subst hcp
        have q0 : (0 : Int) ≤ (cap : Int) := by omega
        have q1 : (cap : Int) ≤ (cap : Int) := by omega
        have q2 : (cap : Int) ≤ (cap : Int) := by omega
        have q3 : IntKind.i64.wrap (cap : Int) = (cap : Int) := by rw [IntKind.wrap_i64]; omega
        have q4 : ((cap : Int)).toNat - cap = 0 := by omega
        have HC : Hid (Has w1.drew (.slice ao (0) 0) cc) := by
          rw [← HEC.out]
          exact Has.block ((HX.out.cut cap (0) (by omega) hcap).1 rfl) fun _ _ => rfl
        go_region_held3 (fun w' => w'.cell? ⟨M, 0, none⟩ = some (.slice ao l.length cap) ∧ w'.cell? ⟨M, 1, none⟩ = some (.int .i64 cap)) (first | go_keep | (exact ⟨by assumption, by assumption⟩))
          (first
          | (refine step_copyB rfl _ _ rfl w1.heap.size _ _ cc rfl rfl (Owns.nil _ _) HC.out hcc (Nat.le_refl _) ?_
             intro pa ka wa hoa hba
             have ba : Below w.heap.size w wa := Below.up HB1.out (((Below.refl _ w1).drew).trans hba)
             have e0 : wa.cell? ⟨M, 0, none⟩ = some (.slice ao l.length cap) := ((((Below.refl _ w1).drew).trans hba).cell (by rw [HS1.out]; exact hlt)).trans d0
             have e1 : wa.cell? ⟨M, 1, none⟩ = some (.int .i64 cap) := ((((Below.refl _ w1).drew).trans hba).cell (by rw [HS1.out]; exact hlt)).trans d1
             have HBA : Hid (Below w.heap.size w wa) := ba
             have HOA : Hid (Owns wa w.heap.size (.slice pa cc.length ka) cc) := by rw [HS1.out] at hoa; exact hoa
             clear ba hba hoa))
        have ff : ∀ o, wa.frozen? ⟨M, o, none⟩ = false := frozenB (HBA.out.block M hlt) hfz
        have FN := RfS.at HH.out HO.out HK.out hl hn' HBA.out (cap : Int) (cap + 0) (by simp) (by omega)
        have HF1 : Hid _ := FN.1
        have HF2 : Hid _ := FN.2
        have HF3 : Hid (Owns (wa.setCell ⟨M, 1, none⟩ (.int .i64 (cap : Int))) w.heap.size (.slice pa cc.length ka) cc) := HOA.out.block fun b hb => setB (by have := (HOA.out.lt b hb).1; omega)
        clear FN
        go_wp2
        go_ret
        exact ⟨_, rfl, HF1.out, HF2.out, HF3.out⟩
      · have hcp2 : (cap = p) = False := by simpa using hcp
        have q0 : (0 : Int) ≤ (p : Int) := by omega
        have q1 : (p : Int) ≤ (p : Int) := by omega
        have q2 : (p : Int) ≤ (cap : Int) := by omega
        have q3 : IntKind.i64.wrap (p : Int) = (p : Int) := by rw [IntKind.wrap_i64]; omega
        have q4 : ((p : Int)).toNat - p = 0 := by omega
        have HC : Hid (Has w1.drew (.slice (Option.map (fun x => x.add p) ao) (0) (cap - p)) cc) := by
          rw [← HEC.out]
          exact Has.block ((HX.out.cut p (0) (by omega) hcap).2 hcp) fun _ _ => rfl
        go_region_held3 (fun w' => w'.cell? ⟨M, 0, none⟩ = some (.slice ao l.length cap) ∧ w'.cell? ⟨M, 1, none⟩ = some (.int .i64 p)) (first | go_keep | (exact ⟨by assumption, by assumption⟩))
          (first
          | (refine step_copyB rfl _ _ rfl w1.heap.size _ _ cc rfl rfl (Owns.nil _ _) HC.out hcc (Nat.le_refl _) ?_
             intro pa ka wa hoa hba
             have ba : Below w.heap.size w wa := Below.up HB1.out (((Below.refl _ w1).drew).trans hba)
             have e0 : wa.cell? ⟨M, 0, none⟩ = some (.slice ao l.length cap) := ((((Below.refl _ w1).drew).trans hba).cell (by rw [HS1.out]; exact hlt)).trans d0
             have e1 : wa.cell? ⟨M, 1, none⟩ = some (.int .i64 p) := ((((Below.refl _ w1).drew).trans hba).cell (by rw [HS1.out]; exact hlt)).trans d1
             have HBA : Hid (Below w.heap.size w wa) := ba
             have HOA : Hid (Owns wa w.heap.size (.slice pa cc.length ka) cc) := by rw [HS1.out] at hoa; exact hoa
             clear ba hba hoa))
        have ff : ∀ o, wa.frozen? ⟨M, o, none⟩ = false := frozenB (HBA.out.block M hlt) hfz
        have FN := RfS.at HH.out HO.out HK.out hl hn' HBA.out (p : Int) (p + 0) (by simp) (by omega)
        have HF1 : Hid _ := FN.1
        have HF2 : Hid _ := FN.2
        have HF3 : Hid (Owns (wa.setCell ⟨M, 1, none⟩ (.int .i64 (p : Int))) w.heap.size (.slice pa cc.length ka) cc) := HOA.out.block fun b hb => setB (by have := (HOA.out.lt b hb).1; omega)
        clear FN
        go_wp2
        go_ret
        exact ⟨_, rfl, HF1.out, HF2.out, HF3.out⟩

  · obtain ⟨m, rfl⟩ : ∃ m : Nat, n = (m : Int) := ⟨n.toNat, by omega⟩
    have hmn : ((m : Int)).toNat = m := by simp
    by_cases hlen : l.length < p + m
    · have e1 : rawS l ⟨p, fa, 0⟩ (m : Int) = ⟨p, l.length, 10⟩ := by simp [rawS, hmn] <;> omega
      have e2 : rawB l ⟨p, fa, 0⟩ (m : Int) = [] := by simp [rawB, hmn] <;> omega
      rw [e1, e2]
      clear e1 e2 hmn
      go_enter Tryz.func66, Tryz.ntmps66
      go_wp2_with fail
      go_quiet (fail)
      go_wp2_with (go_at_call 98; refine (refFail_any lo M l _ _ _ _ (RfS.drewN HR.out _)).mono ?_; rintro e w1 ⟨rfl, hr1, hg1⟩)
      go_ret
      exact ⟨_, rfl, hr1, ⟨hg1.os, hg1.tape, hg1.output, hg1.size, hg1.block⟩, Owns.nil _ _⟩
    · have e1 : rawS l ⟨p, fa, 0⟩ (m : Int) = ⟨p + m, fa, 0⟩ := by simp [rawS, hmn] <;> omega
      have e2 : rawB l ⟨p, fa, 0⟩ (m : Int) = (l.drop p).take (m) := by simp [rawB, hmn] <;> omega
      rw [e1, e2]
      obtain ⟨cc, ecc⟩ : ∃ cc, (l.drop p).take (m) = cc := ⟨_, rfl⟩
      rw [ecc]
      have HEC : Hid ((l.drop p).take (m) = cc) := ecc
      have hcc : cc.length ≤ 1048576 := by rw [← ecc, List.length_take, List.length_drop]; omega
      clear e1 e2 hmn ecc
      go_enter Tryz.func66, Tryz.ntmps66
      go_wp2_with fail
      go_quiet (fail)
      go_wp2_with fail
      obtain ⟨w1, ew⟩ : ∃ w1, w.drewN nq = w1 := ⟨_, rfl⟩
      rw [ew]
      have b1 : Below w.heap.size w w1 := by rw [← ew]; exact ⟨rfl, rfl, rfl, Nat.le_refl _, fun _ _ => rfl⟩
      have s1 : w1.heap.size = w.heap.size := by rw [← ew]; rfl
      have d0 : w1.cell? ⟨M, 0, none⟩ = some (.slice ao l.length cap) := (b1.cell hlt).trans h0
      have d1 : w1.cell? ⟨M, 1, none⟩ = some (.int .i64 p) := (b1.cell hlt).trans h1
      have HX : Hid (Has w1 (.slice ao l.length cap) l) := HO.out.has.below b1
      have HB1 : Hid (Below w.heap.size w w1) := b1
      have HS1 : Hid (w1.heap.size = w.heap.size) := s1
      clear ew b1 s1 h0 h1 h2
      by_cases hcp : cap = p
      · subst hcp
        have q0 : (0 : Int) ≤ (cap : Int) := by omega
        have q1 : (cap : Int) ≤ (cap : Int) + (m : Nat) := by omega
        have q2 : (cap : Int) + (m : Nat) ≤ (cap : Int) := by omega
        have q3 : IntKind.i64.wrap ((cap : Int) + (m : Nat)) = (cap : Int) + (m : Nat) := by rw [IntKind.wrap_i64]; omega
        have q4 : ((cap : Int) + (m : Nat)).toNat - cap = m := by omega
        have HC : Hid (Has w1.drew (.slice ao (m) 0) cc) := by
          rw [← HEC.out]
          exact Has.block ((HX.out.cut cap (m) (by omega) hcap).1 rfl) fun _ _ => rfl
        go_region_held3 (fun w' => w'.cell? ⟨M, 0, none⟩ = some (.slice ao l.length cap) ∧ w'.cell? ⟨M, 1, none⟩ = some (.int .i64 cap)) (first | go_keep | (exact ⟨by assumption, by assumption⟩))
          (first
          | (refine step_copyB rfl _ _ rfl w1.heap.size _ _ cc rfl rfl (Owns.nil _ _) HC.out hcc (Nat.le_refl _) ?_
             intro pa ka wa hoa hba
             have ba : Below w.heap.size w wa := Below.up HB1.out (((Below.refl _ w1).drew).trans hba)
             have e0 : wa.cell? ⟨M, 0, none⟩ = some (.slice ao l.length cap) := ((((Below.refl _ w1).drew).trans hba).cell (by rw [HS1.out]; exact hlt)).trans d0
             have e1 : wa.cell? ⟨M, 1, none⟩ = some (.int .i64 cap) := ((((Below.refl _ w1).drew).trans hba).cell (by rw [HS1.out]; exact hlt)).trans d1
             have HBA : Hid (Below w.heap.size w wa) := ba
             have HOA : Hid (Owns wa w.heap.size (.slice pa cc.length ka) cc) := by rw [HS1.out] at hoa; exact hoa
             clear ba hba hoa))
        have ff : ∀ o, wa.frozen? ⟨M, o, none⟩ = false := frozenB (HBA.out.block M hlt) hfz
        have FN := RfS.at HH.out HO.out HK.out hl hn' HBA.out ((cap : Int) + (m : Int)) (cap + m) (by simp) (by omega)
        have HF1 : Hid _ := FN.1
        have HF2 : Hid _ := FN.2
        have HF3 : Hid (Owns (wa.setCell ⟨M, 1, none⟩ (.int .i64 ((cap : Int) + (m : Int)))) w.heap.size (.slice pa cc.length ka) cc) := HOA.out.block fun b hb => setB (by have := (HOA.out.lt b hb).1; omega)
        clear FN
        go_wp2
        go_ret
        exact ⟨_, rfl, HF1.out, HF2.out, HF3.out⟩
      · have hcp2 : (cap = p) = False := by simpa using hcp
        have q0 : (0 : Int) ≤ (p : Int) := by omega
        have q1 : (p : Int) ≤ (p : Int) + (m : Nat) := by omega
        have q2 : (p : Int) + (m : Nat) ≤ (cap : Int) := by omega
        have q3 : IntKind.i64.wrap ((p : Int) + (m : Nat)) = (p : Int) + (m : Nat) := by rw [IntKind.wrap_i64]; omega
        have q4 : ((p : Int) + (m : Nat)).toNat - p = m := by omega
        have HC : Hid (Has w1.drew (.slice (Option.map (fun x => x.add p) ao) (m) (cap - p)) cc) := by
          rw [← HEC.out]
          exact Has.block ((HX.out.cut p (m) (by omega) hcap).2 hcp) fun _ _ => rfl
        go_region_held3 (fun w' => w'.cell? ⟨M, 0, none⟩ = some (.slice ao l.length cap) ∧ w'.cell? ⟨M, 1, none⟩ = some (.int .i64 p)) (first | go_keep | (exact ⟨by assumption, by assumption⟩))
          (first
          | (refine step_copyB rfl _ _ rfl w1.heap.size _ _ cc rfl rfl (Owns.nil _ _) HC.out hcc (Nat.le_refl _) ?_
             intro pa ka wa hoa hba
             have ba : Below w.heap.size w wa := Below.up HB1.out (((Below.refl _ w1).drew).trans hba)
             have e0 : wa.cell? ⟨M, 0, none⟩ = some (.slice ao l.length cap) := ((((Below.refl _ w1).drew).trans hba).cell (by rw [HS1.out]; exact hlt)).trans d0
             have e1 : wa.cell? ⟨M, 1, none⟩ = some (.int .i64 p) := ((((Below.refl _ w1).drew).trans hba).cell (by rw [HS1.out]; exact hlt)).trans d1
             have HBA : Hid (Below w.heap.size w wa) := ba
             have HOA : Hid (Owns wa w.heap.size (.slice pa cc.length ka) cc) := by rw [HS1.out] at hoa; exact hoa
             clear ba hba hoa))
        have ff : ∀ o, wa.frozen? ⟨M, o, none⟩ = false := frozenB (HBA.out.block M hlt) hfz
        have FN := RfS.at HH.out HO.out HK.out hl hn' HBA.out ((p : Int) + (m : Int)) (p + m) (by simp) (by omega)
        have HF1 : Hid _ := FN.1
        have HF2 : Hid _ := FN.2
        have HF3 : Hid (Owns (wa.setCell ⟨M, 1, none⟩ (.int .i64 ((p : Int) + (m : Int)))) w.heap.size (.slice pa cc.length ka) cc) := HOA.out.block fun b hb => setB (by have := (HOA.out.lt b hb).1; omega)
        clear FN
        go_wp2
        go_ret
        exact ⟨_, rfl, HF1.out, HF2.out, HF3.out⟩

set_option maxHeartbeats 400000 in
set_option maxRecDepth 100000 in
theorem refRaw_any (lo M : Nat) (n : Int) (l : List Int) (s : St) (w : World) (hr : RfS w lo M l s) (hn : -9223372036854775808 ≤ n ∧ n ≤ 9223372036854775807) :
    Calls Tryz.prog 66 #[.pointer (some ⟨M, 0, none⟩), .int .i64 n] w fun e w' => ∃ v, e = .returned v ∧ RfS w' lo M l (rawS l s n) ∧ w.grownBy w' (some M) ∧ Owns w' w.heap.size v (rawB l s n) := by
  by_cases hf : s.fe = 0
  · obtain ⟨p, fa, fe⟩ := s
    simp only at hf
    subst hf
    exact refRaw_go lo M n l p fa w hr hn
  · have e1 : rawS l s n = s := by simp [rawS, hf]
    have e2 : rawB l s n = [] := by simp [rawB, hf]
    rw [e1, e2]
    have HR : Hid (RfS w lo M l s) := hr
    obtain ⟨v, hh, ho, hk, hl, hp, hn'⟩ := hr
    obtain ⟨h0, h1, h2, h3, hfz⟩ := rcells_of hh
    have hfb : (s.fe != 0) = true := by simpa using hf
    clear hh ho hk h0 h1 h3 e1 e2
    go_enter Tryz.func66, Tryz.ntmps66
    go_wp2
    go_ret
    exact ⟨_, rfl, HR.out, ⟨rfl, rfl, rfl, Nat.le_refl _, fun _ _ _ => rfl⟩, Owns.nil _ _⟩

set_option maxHeartbeats 400000 in
set_option maxRecDepth 100000 in
theorem refByte_any (lo M : Nat) (l : List Int) (s : St) (w : World) (hr : RfS w lo M l s) :
    Calls Tryz.prog 60 #[.pointer (some ⟨M, 0, none⟩)] w fun e w' => e = .returned (.int .u8 (byteS l s).1) ∧ RfS w' lo M l (byteS l s).2 ∧ w.grownBy w' (some M) := by
  have HC := refRaw_any lo M 1 l s w hr (by omega)
  have hs : rawS l s 1 = (byteS l s).2 := by
    unfold rawS byteS
    split
    · rfl
    · simp only [Int.toNat_one]
      by_cases h : s.p < l.length
      · rw [if_neg (by omega), if_pos h]
      · rw [if_pos (by omega), if_neg h]
  rw [hs] at HC
  have hb : (rawB l s 1 = [] ∧ (byteS l s).1 = 0) ∨ (∃ c, rawB l s 1 = [c] ∧ (byteS l s).1 = c) := by
    unfold rawB byteS
    by_cases hf : s.fe ≠ 0
    · exact .inl ⟨by rw [if_pos hf], by rw [if_pos hf]⟩
    · by_cases h : s.p < l.length
      · refine .inr ⟨l[s.p], ?_, ?_⟩
        · rw [if_neg hf, if_neg (by simp; omega), List.drop_eq_getElem_cons h]
          rfl
        · rw [if_neg hf, if_pos h, List.getElem?_eq_getElem h]; rfl
      · exact .inl ⟨by rw [if_neg hf, if_pos (by simp; omega)], by rw [if_neg hf, if_neg h]⟩
  obtain ⟨b, eb⟩ : ∃ b, (byteS l s).1 = b := ⟨_, rfl⟩
  obtain ⟨s', es⟩ : ∃ s', (byteS l s).2 = s' := ⟨_, rfl⟩
  rw [eb] at hb ⊢
  rw [es] at HC ⊢
  clear hs eb es
  rcases hb with ⟨h1, rfl⟩ | ⟨c, h1, hbc⟩
  · rw [h1] at HC
    go_enter Tryz.func60, Tryz.ntmps60
    go_wp2_with (go_at_call 66; refine HC.mono ?_; rintro e w1 ⟨v, rfl, hr1, hg1, ho1⟩; obtain ⟨pv, kv, ev⟩ := row_form ho1; subst ev)
    go_ret
    exact ⟨rfl, hr1, hg1⟩
  · rw [h1] at HC
    rw [hbc]
    clear hbc h1
    go_enter Tryz.func60, Tryz.ntmps60
    go_wp2_with (go_at_call 66; refine HC.mono ?_; rintro e w1 ⟨v, rfl, hr1, hg1, ho1⟩; have h0 : w1.ownsRow w.heap.size 5 1 v [Value.int .u8 c].length [Value.int .u8 c] := ho1; obtain ⟨gv, kv, ev, hc⟩ := row_at h0 (j := 0) (by simp); simp at ev hc; subst ev; clear h0 ho1)
    go_ret
    exact ⟨rfl, hr1, hg1⟩
end Go.Proofs.YthpelabmfpogbaaGreatDoor
