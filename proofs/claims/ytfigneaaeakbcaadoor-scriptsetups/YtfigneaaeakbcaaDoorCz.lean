/-
  A CUTTER'S STEPS: a sign outside of quoted texts, any sign, a line's end; cut.
-/
import Derived.Test.YtfigneaaeakbcaaDoorCy
import Derived.Lib.OthersKept
namespace Go.Proofs.YtfigneaaeakbcaaDoor
open Go.RowKit Hm
attribute [local go_sem] Oper.semAt_some

structure CsOk (x : Cs) (i : Nat) : Prop where
  e45 : x.k = 4 ∨ x.k = 5 → x.s ≠ []
  nw : x.ws.length ≤ i
  ns : x.s.length ≤ i
  fi : x.f ≤ i
theorem next_ok {line : By} {a i c : Nat} {x : Cs} (h : CsOk x i) : CsOk (nextC line a i c x) (i + 1) := by
  obtain ⟨h1, h2, h3, h4⟩ := h
  have hl : CsOk (spoilC a x) (i + 1) := ⟨by simp [spoilC, layC], by simp [spoilC, layC]; omega, by simp [spoilC, layC]; omega, by simp [spoilC, layC]; omega⟩
  have hv : ∀ k, k ≠ 4 → k ≠ 5 → CsOk (leaveC line a i k x) (i + 1) := fun k e4 e5 => by
    unfold leaveC
    split
    · exact ⟨by simp [layC]; omega, by simp [layC]; omega, by simp [layC]; omega, by simp [layC]; omega⟩
    · exact ⟨by simp; omega, by simp; omega, by simp; omega, by simp; omega⟩
  unfold nextC
  split
  · unfold quoC
    split
    · exact ⟨by simp [layC], by simp [layC]; omega, by simp [layC]; omega, by simp [layC]; omega⟩
    · split
      · exact ⟨by simp, by simp; omega, by simp; omega, by simp; omega⟩
      · split
        · exact hl
        · exact ⟨by simp [sayC], by simp [sayC]; omega, by simp [sayC]; omega, by simp [sayC]; omega⟩
  · split
    · unfold escC
      split
      · exact ⟨by simp [sayC], by simp [sayC]; omega, by simp [sayC]; omega, by simp [sayC]; omega⟩
      · split
        · exact ⟨by simp [sayC], by simp [sayC]; omega, by simp [sayC]; omega, by simp [sayC]; omega⟩
        · exact hl
    · split
      · unfold digC
        split
        · exact hl
        · rename_i h5 _ d _
          have hne := h1 h5
          have hp := List.length_pos_iff.2 hne
          refine ⟨by simp [lastU], by simp; omega, ?_, by simp; omega⟩
          simp [lastU]; omega
      · unfold bareC
        split
        · exact hv 0 (by decide) (by decide)
        · split
          · exact hv 6 (by decide) (by decide)
          · split
            · have := hv 2 (by decide) (by decide)
              refine ⟨?_, this.nw, by simp [quoS], by simp [quoS]⟩
              unfold quoS leaveC
              split <;> simp [layC]
            · split
              · exact ⟨by simp, by simp; omega, by simp; omega, by simp⟩
              · exact ⟨h1, by omega, by omega, by omega⟩
theorem CsOk.mono {x : Cs} {i j : Nat} (h : CsOk x i) (hij : i ≤ j) : CsOk x j := ⟨h.e45, by have := h.nw; omega, by have := h.ns; omega, by have := h.fi; omega⟩

set_option maxRecDepth 100000 in
set_option maxHeartbeats 4000000 in
theorem bare_any {b : Nat} {line : ByteArray} {a : Nat} {x : Cs} {w : World} (h : Ct b line a x w) (i c : Nat) (hf : x.f ≤ i) (hi : i ≤ line.size) (ha : a + x.f < 1000000000) (hn : x.ws.length < 1000000) :
    Calls Tryd.prog 32 #[.pointer (some ⟨b, 0, none⟩), .int .i64 (i : Int), .int .i32 (c : Int)] w fun e w' => e = .returned (.tuple #[]) ∧ Ct b line a (bareC (tl line) a i c x) w' ∧ Fr b w w' := by
  have CL := fun st => hid (leave_any h i st hf hi ha hn)
  obtain ⟨hz3, hf3⟩ := h.c3
  obtain ⟨hz4, hf4⟩ := h.c4
  have H := hid h
  clear h
  unfold bareC
  by_cases h1 : c = 32 ∨ c = 9
  · rw [if_pos h1]
    have C := CL 0
    by_cases h2 : c = 32
    · subst h2
      go_enter Tryd.func32, Tryd.ntmps32
      go_wp2_with (go_at_call 33; refine C.out.mono ?_; rintro e w1 ⟨rfl, h1, h2⟩; have H1 := hid (⟨h1, h2⟩ : _ ∧ _); clear h1 h2)
      go_end0
      exact ⟨rfl, H1.out⟩
    · have h3 : c = 9 := by omega
      subst h3
      go_enter Tryd.func32, Tryd.ntmps32
      go_wp2_with (go_at_call 33; refine C.out.mono ?_; rintro e w1 ⟨rfl, h1, h2⟩; have H1 := hid (⟨h1, h2⟩ : _ ∧ _); clear h1 h2)
      go_end0
      exact ⟨rfl, H1.out⟩
  · rw [if_neg h1]
    have b1 : ((c : Int) == 32) = false := by simp; omega
    have b2 : ((c : Int) == 9) = false := by simp; omega
    by_cases h2 : c = 35
    · rw [if_pos h2]
      subst h2
      have C := CL 6
      clear b1 b2
      go_enter Tryd.func32, Tryd.ntmps32
      go_wp2_with (go_at_call 33; refine C.out.mono ?_; rintro e w1 ⟨rfl, h1, h2⟩; have H1 := hid (⟨h1, h2⟩ : _ ∧ _); clear h1 h2)
      go_end0
      exact ⟨rfl, H1.out⟩
    · rw [if_neg h2]
      have b3 : ((c : Int) == 35) = false := by simp; omega
      by_cases h4 : c = 34
      · rw [if_pos h4]
        subst h4
        have C := CL 2
        clear b1 b2 b3
        go_enter Tryd.func32, Tryd.ntmps32
        go_upto_region 6 with (go_at_call 33; refine C.out.mono ?_; rintro e w1 ⟨rfl, h1, h2⟩; have H1 := hid (⟨h1, h2⟩ : _ ∧ _); clear h1 h2)
        obtain ⟨p1, p2⟩ := H1.out.1.set4 i
        obtain ⟨q1, q2⟩ := p1.set5
        obtain ⟨c4, f4⟩ := H1.out.1.c4
        obtain ⟨v5, c5, f5, _⟩ := p1.c5
        obtain ⟨w2, hw2⟩ : ∃ w2, w2 = w1.setCell ⟨b, 4, none⟩ (.int .i64 (i : Int)) := ⟨_, rfl⟩
        rw [← hw2] at p1 p2 q1 q2 c5 f5
        obtain ⟨w3, hw3⟩ : ∃ w3, w3 = w2.setCell ⟨b, 5, none⟩ (.slice none 0 0) := ⟨_, rfl⟩
        rw [← hw3] at q1 q2
        have HF := hid (⟨q1, H1.out.2.trans (p2.trans q2)⟩ : _ ∧ _)
        have HW2 := hid hw2
        have HW3 := hid hw3
        clear p1 p2 q1 q2 hw2 hw3
        go_wp2_with (first
          | ((with_reducible refine st_at 3 (.tmp 32) (.tmp 30) w2 ?_ ?_ ?_ ?_ ?_); rfl; rfl; kernel_rfl; (rw [HW2.out]; unfold execOp; simp [c4, f4, go_sem]))
          | ((with_reducible refine st_at 73 (.tmp 34) (.const (.slice none 0 0)) w3 ?_ ?_ ?_ ?_ ?_); rfl; rfl; kernel_rfl; (rw [HW3.out]; unfold execOp; simp [c5, f5, go_sem])))
        go_end0
        exact ⟨rfl, HF.out⟩
      · rw [if_neg h4]
        have b4 : ((c : Int) == 34) = false := by simp; omega
        by_cases h5 : x.k = 0
        · rw [if_pos h5]
          have b5 : ((x.k : Int) == 0) = true := by simp [h5]
          obtain ⟨p1, p2⟩ := H.out.set4 i
          obtain ⟨q1, q2⟩ := p1.set3 1
          obtain ⟨c3, f3⟩ := p1.c3
          obtain ⟨w2, hw2⟩ : ∃ w2, w2 = w.setCell ⟨b, 4, none⟩ (.int .i64 (i : Int)) := ⟨_, rfl⟩
          rw [← hw2] at p1 p2 q1 q2 c3 f3
          have HF := hid (⟨q1, p2.trans q2⟩ : _ ∧ _)
          have HW2 := hid hw2
          clear p1 p2 q1 q2 hw2
          simp only at c3
          go_enter Tryd.func32, Tryd.ntmps32
          go_wp2_with ((with_reducible refine st_at 3 (.tmp 45) (.tmp 43) w2 ?_ ?_ ?_ ?_ ?_); rfl; rfl; kernel_rfl; (rw [HW2.out]; unfold execOp; simp [hz4, hf4, go_sem]))
          go_end0
          exact ⟨rfl, HF.out⟩
        · rw [if_neg h5]
          have b5 : ((x.k : Int) == 0) = false := by simp; omega
          go_enter Tryd.func32, Tryd.ntmps32
          go_wp2
          go_end0
          exact ⟨rfl, H.out, Fr.refl _ _⟩
set_option maxRecDepth 100000 in
set_option maxHeartbeats 4000000 in
theorem next_any {b : Nat} {line : ByteArray} {a : Nat} {x : Cs} {w : World} (h : Ct b line a x w) (i c : Nat) (hok : CsOk x i) (hc : c < 2147483648) (hi : i ≤ line.size) (hl : line.size ≤ 100000) (ha : a ≤ 100000) :
    Calls Tryd.prog 21 #[.pointer (some ⟨b, 0, none⟩), .int .i64 (i : Int), .int .i32 (c : Int)] w fun e w' => e = .returned (.tuple #[]) ∧ Ct b line a (nextC (tl line) a i c x) w' ∧ Fr b w w' := by
  have o1 := hok.nw
  have o2 := hok.ns
  have o3 := hok.fi
  have ha' : a + x.f < 1000000000 := by omega
  have hn' : x.ws.length < 1000000 := by omega
  have hs' : x.s.length < 1000000 := by omega
  obtain ⟨hz3, _⟩ := h.c3
  have H := hid h
  unfold nextC
  by_cases h1 : x.k = 2
  · rw [if_pos h1]
    have b1 : ((x.k : Int) == 2) = true := by simp [h1]
    have C := hid (quo_any h c ha' hn' hs')
    clear h
    go_enter Tryd.func21, Tryd.ntmps21
    go_wp2_with (go_at_call 29; refine C.out.mono ?_; rintro e w1 ⟨rfl, h1, h2⟩; have H1 := hid (⟨h1, h2⟩ : _ ∧ _); clear h1 h2)
    go_end0
    exact ⟨rfl, H1.out⟩
  · rw [if_neg h1]
    have b1 : ((x.k : Int) == 2) = false := by simp; omega
    by_cases h2 : x.k = 3
    · rw [if_pos h2]
      have b2 : ((x.k : Int) == 3) = true := by simp [h2]
      have C := hid (esc_any h c ha' hn' hs')
      clear h b1
      go_enter Tryd.func21, Tryd.ntmps21
      go_wp2_with (go_at_call 30; refine C.out.mono ?_; rintro e w1 ⟨rfl, h1, h2⟩; have H1 := hid (⟨h1, h2⟩ : _ ∧ _); clear h1 h2)
      go_end0
      exact ⟨rfl, H1.out⟩
    · rw [if_neg h2]
      have b2 : ((x.k : Int) == 3) = false := by simp; omega
      by_cases h3 : x.k = 4 ∨ x.k = 5
      · rw [if_pos h3]
        have C := hid (dig_any h c hc (hok.e45 h3) ha' hn' hs')
        clear h
        by_cases h4 : x.k = 4
        · have b3 : ((x.k : Int) == 4) = true := by simp [h4]
          clear b1 b2
          go_enter Tryd.func21, Tryd.ntmps21
          go_wp2_with (go_at_call 31; refine C.out.mono ?_; rintro e w1 ⟨rfl, h1, h2⟩; have H1 := hid (⟨h1, h2⟩ : _ ∧ _); clear h1 h2)
          go_end0
          exact ⟨rfl, H1.out⟩
        · have b4 : ((x.k : Int) == 5) = true := by simp; omega
          clear b1 b2
          go_enter Tryd.func21, Tryd.ntmps21
          go_wp2_with (go_at_call 31; refine C.out.mono ?_; rintro e w1 ⟨rfl, h1, h2⟩; have H1 := hid (⟨h1, h2⟩ : _ ∧ _); clear h1 h2)
          go_end0
          exact ⟨rfl, H1.out⟩
      · rw [if_neg h3]
        have b3 : ((x.k : Int) == 4) = false := by simp; omega
        have b4 : ((x.k : Int) == 5) = false := by simp; omega
        have C := hid (bare_any h i c o3 hi ha' hn')
        clear h
        go_enter Tryd.func21, Tryd.ntmps21
        go_wp2_with (go_at_call 32; refine C.out.mono ?_; rintro e w1 ⟨rfl, h1, h2⟩; have H1 := hid (⟨h1, h2⟩ : _ ∧ _); clear h1 h2)
        go_end0
        exact ⟨rfl, H1.out⟩
end Go.Proofs.YtfigneaaeakbcaaDoor
