/-
  The reference's rule by contract.
-/
import Derived.Test.YtpngnhpnjkepjaaGreatDoorRParse
import Derived.Deep.Cut
namespace Go.Proofs.YtpngnhpnjkepjaaGreatDoor
open Go.RowKit

theorem linesR_drop : ∀ {l : By} {f i : Nat}, f ≤ i → l[i]? = some 10 → (∀ j, f ≤ j → j < i → l[j]? ≠ some 10) → linesR (l.drop f) = (l.drop f).take (i - f) :: linesR (l.drop (i + 1)) := by
  intro l f i hfi hi hno
  have hl := (List.getElem?_eq_some_iff.1 hi).1
  have e : l.drop f = (l.drop f).take (i - f) ++ 10 :: l.drop (i + 1) := by
    have h1 : (l.drop f).drop (i - f) = 10 :: l.drop (i + 1) := by
      rw [List.drop_drop, show f + (i - f) = i from by omega, List.drop_eq_getElem_cons hl]
      congr 1
      exact (List.getElem?_eq_some_iff.1 hi).2
    conv => lhs; rw [← List.take_append_drop (i - f) (l.drop f), h1]
  conv => lhs; rw [e]
  refine linesR_mid _ fun hm => ?_
  obtain ⟨j, hj⟩ := List.getElem?_of_mem hm
  have hjl := (List.getElem?_eq_some_iff.1 hj).1
  rw [List.length_take, List.length_drop] at hjl
  rw [List.getElem?_take, if_pos (by omega), List.getElem?_drop] at hj
  exact hno (f + j) (by omega) (by omega) hj
theorem linesR_last {l : By} {f : Nat} (hno : ∀ j, f ≤ j → j < l.length → l[j]? ≠ some 10) : linesR (l.drop f) = [l.drop f] := by
  refine linesR_one fun hm => ?_
  obtain ⟨j, hj⟩ := List.getElem?_of_mem hm
  have hjl := (List.getElem?_eq_some_iff.1 hj).1
  rw [List.length_drop] at hjl
  rw [List.getElem?_drop] at hj
  exact hno (f + j) (by omega) (by omega) hj
set_option maxHeartbeats 2000000 in
set_option maxRecDepth 100000 in
theorem tlines_any (s : ByteArray) (w : World) (hs : s.size ≤ 4000) :
    Calls Tryz.prog 11 #[.string s] w fun e w' => ∃ v X, e = .returned v ∧ HasT w' v X ∧ X.map tl = linesR (tl s) ∧ Below w.heap.size w w' := by
  obtain ⟨i0, hi, hz0, hz1, hz2⟩ := info_parts Tryz.info9
  have hlen := tl_len s
  go_enter Tryz.func11, Tryz.ntmps11
  go_wp2
  go_loopw [3, 4, 5] (fun t3 t4 t5 wr => ∃ (f n : Nat) (X : List ByteArray) (so : Option Addr) (sc : Nat), t3 = .slice so X.length sc ∧ t4 = .int .i64 (f : Int) ∧ t5 = .int .i64 (n : Int) ∧ f ≤ n ∧ n ≤ s.size ∧ X.length ≤ f ∧ OwnsT wr w.heap.size (.slice so X.length sc) X ∧ Below w.heap.size w wr ∧ Hid (X.map tl ++ linesR ((tl s).drop f) = linesR (tl s) ∧ ∀ j, f ≤ j → j < n → (tl s)[j]? ≠ some 10)) (fun _ _ t5 wr => s.size - iOf t5)
  case atStart => exact ⟨0, 0, [], none, 0, rfl, rfl, rfl, Nat.le_refl _, Nat.zero_le _, Nat.le_refl _, OwnsT.nil _ _, Below.refl _ _, by simp, fun j h1 h2 => by omega⟩
  case round =>
    obtain ⟨f, n, X, so, sc, rfl, rfl, rfl, hfn, hns, hXf, hown, hbe, HI⟩ := hrel
    by_cases hlt : n < s.size
    · have i1 : (n : Int) < (s.size : Int) := by omega
      have hat := tl_at s n hlt
      by_cases h10 : s[n]'hlt = 10
      · have c1 : (((s[n]'hlt).toNat : Int) == 10) = true := by rw [h10]; rfl
        have hdr := linesR_drop (l := tl s) (f := f) (i := n) hfn (by rw [hat, h10]) HI.out.2
        have HI2 : Hid ((X ++ [s.extract f n]).map tl ++ linesR ((tl s).drop (n + 1)) = linesR (tl s) ∧ ∀ j, n + 1 ≤ j → j < n + 1 → (tl s)[j]? ≠ some 10) := by
          refine ⟨?_, fun j h1 h2 => by omega⟩
          rw [← HI.out.1, hdr]
          simp [tl_extract]
        have j1 : (f : Int) ≤ (n : Int) := by omega
        clear h10 hat hdr HI
        go_wp2_with (at_builtin; refine wpList_append_own _ rfl _ _ 54 rfl w.heap.size 9 i0 (.string ⟨#[]⟩) 1 16 Tryz.underlying54 hi hz0 hz1 hz2 rfl (by decide) _ _ _ rfl (World.ownsRow.alloc hown _) ⟨wr.heap.size, 0, none⟩ 1 1 [.string (s.extract f n)] rfl rfl ?c1 ?c2 ?c3 ?c4 ?c5 ?_)
        case c1 => exact one_new
        case c2 => simp [Value.oneCell']
        case c3 => unfold maxLen; omega
        case c4 => omega
        case c5 => have := hbe.size; simp; omega
        intro v' w1 hown' hgrow _
        have R1 : OwnsT w1 w.heap.size v' (X ++ [s.extract f n]) := by unfold OwnsT; rw [List.map_append, List.length_append]; exact hown'
        have R2 := rel_own hbe (fun k hk => (World.ownsRow.lt hown k hk).1) hgrow
        obtain ⟨vo, vc, rfl⟩ := owns_form hown'
        clear hown' hgrow hown
        go_wp2
        go_roundw
        case rel => exact ⟨n + 1, n + 1, X ++ [s.extract f n], vo, vc, by simp, by go_num, by go_num, Nat.le_refl _, hlt, by simp; omega, by simpa using R1, R2, HI2⟩
        case measure => simp; omega
      · have c1 : (((s[n]'hlt).toNat : Int) == 10) = false := by
          simp
          intro q; exact h10 (UInt8.toNat_inj.1 (by show (s[n]'hlt).toNat = 10; omega))
        have HI2 : Hid (X.map tl ++ linesR ((tl s).drop f) = linesR (tl s) ∧ ∀ j, f ≤ j → j < n + 1 → (tl s)[j]? ≠ some 10) := by
          refine ⟨HI.out.1, fun j h1 h2 => ?_⟩
          by_cases e : j = n
          · subst e; rw [hat]; simpa using h10
          · exact HI.out.2 j h1 (by omega)
        clear h10 hat HI
        go_wp2
        go_roundw
        case rel => exact ⟨f, n + 1, X, so, sc, rfl, rfl, by go_num, by omega, hlt, hXf, hown, hbe, HI2⟩
        case measure => simp; omega
    · have hn2 : n = s.size := by omega
      subst hn2
      have hdr := linesR_last (l := tl s) (f := f) (fun j h1 h2 => HI.out.2 j h1 (by rw [hlen] at h2; exact h2))
      have HI2 : Hid ((X ++ [s.extract f s.size]).map tl = linesR (tl s)) := by
        show _ = _
        rw [← HI.out.1, hdr, List.map_append, List.map_cons, List.map_nil, tl_extract, List.take_of_length_le (by rw [List.length_drop, hlen]; exact Nat.le_refl _)]
      have j1 : (f : Int) ≤ (s.size : Int) := by omega
      clear hdr HI
      go_wp2_with (at_builtin; refine wpList_append_own _ rfl _ _ 54 rfl w.heap.size 9 i0 (.string ⟨#[]⟩) 1 16 Tryz.underlying54 hi hz0 hz1 hz2 rfl (by decide) _ _ _ rfl (World.ownsRow.alloc hown _) ⟨wr.heap.size, 0, none⟩ 1 1 [.string (s.extract f s.size)] rfl rfl ?c1 ?c2 ?c3 ?c4 ?c5 ?_)
      case c1 => exact one_new
      case c2 => simp [Value.oneCell']
      case c3 => unfold maxLen; omega
      case c4 => omega
      case c5 => have := hbe.size; simp; omega
      intro v' w1 hown' hgrow _
      have R1 : OwnsT w1 w.heap.size v' (X ++ [s.extract f s.size]) := by unfold OwnsT; rw [List.map_append, List.length_append]; exact hown'
      have R2 := rel_own hbe (fun k hk => (World.ownsRow.lt hown k hk).1) hgrow
      clear hown' hgrow hown
      go_wp2
      go_ret
      exact ⟨_, _, rfl, R1.has, HI2.out, R2⟩
end Go.Proofs.YtpngnhpnjkepjaaGreatDoor
namespace Go.Proofs.YtpngnhpnjkepjaaGreatDoor
open Go.RowKit

theorem after_yes (a p : ByteArray) (r : By) (w : World) (_ : a.size ≤ 1048576) (h : tl a = tl p ++ r) :
    Calls Tryz.prog 40 #[.string a, .string p] w fun e w' => e = .returned (.tuple #[.string (ofB r), .bool true]) ∧ w' = w := by
  have h1 := congrArg List.length h
  rw [List.length_append, tl_len, tl_len] at h1
  have i1 : (p.size : Int) ≤ (a.size : Int) := by omega
  have e1 : (a.extract 0 p.size).toList = p.toList := by
    have := tl_extract a 0 p.size
    rw [h] at this
    simp only [tl] at this
    rw [this]
    have hl := tl_len p
    simp only [tl] at hl
    simp [List.drop_zero, ← hl]
  have e2 : ((a.extract 0 p.size).toList == p.toList) = true := by simpa using e1
  have hx : a.extract p.size a.size = ofB r := by
    refine ext_of _ _ ?_
    have hl := tl_len p
    rw [tl_ofB, tl_extract, h, ← hl, List.drop_left, List.take_of_length_le (by rw [hl]; omega)]
  clear h h1 e1
  go_enter Tryz.func40, Tryz.ntmps40
  go_wp2
  go_ret2
  exact ⟨by rw [← hx]; rfl, rfl⟩
theorem after_no (a p : ByteArray) (w : World) (_ : a.size ≤ 1048576) (_ : p.size ≤ 1048576) (h : ∀ r, tl a ≠ tl p ++ r) :
    Calls Tryz.prog 40 #[.string a, .string p] w fun e w' => e = .returned (.tuple #[.string ⟨#[]⟩, .bool false]) ∧ w' = w := by
  by_cases hl : p.size ≤ a.size
  · have i1 : (p.size : Int) ≤ (a.size : Int) := by omega
    have e1 : (a.extract 0 p.size).toList ≠ p.toList := by
      intro e
      have h2 := tl_extract a 0 p.size
      simp only [tl] at h2
      rw [e] at h2
      refine h ((tl a).drop p.size) ?_
      have : tl p = (tl a).take p.size := by simp only [tl]; rw [h2]; simp
      rw [this, List.take_append_drop]
    have e2 : ((a.extract 0 p.size).toList == p.toList) = false := by simpa using e1
    go_enter Tryz.func40, Tryz.ntmps40
    go_wp2
    go_ret2
    exact ⟨rfl, rfl⟩
  · have i1 : (a.size : Int) < (p.size : Int) := by omega
    go_enter Tryz.func40, Tryz.ntmps40
    go_wp2
    go_ret2
    exact ⟨rfl, rfl⟩
theorem cutR_before {l : By} {k : Nat} (hk : k = 1 ∨ k = 2 ∨ k = 3) (hn : ∀ j, 1 ≤ j → j < k → ¬ headB j <+: l) (r : By) (h : l = headB k ++ r) : cutR l = some (k, r) := by
  rw [cutR_at hk hn ⟨r, h.symm⟩, h, List.drop_left]
end Go.Proofs.YtpngnhpnjkepjaaGreatDoor
namespace Go.Proofs.YtpngnhpnjkepjaaGreatDoor
open Go.RowKit

set_option maxHeartbeats 2000000 in
set_option maxRecDepth 100000 in
theorem trule_any (s : ByteArray) (w : World) (hs : s.size ≤ 4000) :
    Calls Tryz.prog 12 #[.string s] w fun e w' => e = .returned (cutV (cutR (tl s))) ∧ Below w.heap.size w w' := by
  obtain ⟨i0, hi, hz0, hz1, hz2⟩ := info_parts Tryz.info57
  obtain ⟨C, hC⟩ : ∃ C, cutR (tl s) = C := ⟨_, rfl⟩
  have HC : Hid (cutR (tl s) = C) := hC
  rw [hC]
  clear hC
  obtain ⟨wB, hwB⟩ : ∃ wB, (w.alloc (.cells #[.int .i64 0, .string ⟨#[]⟩] 57)).alloc (.cells #[.string ⟨#[115, 107, 105, 112, 32]⟩, .string ⟨#[112, 114, 101, 102, 101, 114, 32, 97, 32]⟩, .string ⟨#[112, 114, 101, 102, 101, 114, 32, 98, 32]⟩] 9) = wB := ⟨_, rfl⟩
  have hb0 : Below w.heap.size w wB := by rw [← hwB]; exact ((Below.refl _ w).alloc (Nat.le_refl _) _).alloc (by simp) _
  have h0 : wB.heap[w.heap.size]? = some (.cells #[.int .i64 0, .string ⟨#[]⟩] 57) := by rw [← hwB]; exact heap_old _ (World.alloc_heap_new _ _)
  have h1 : wB.heap[w.heap.size + 1]? = some (.cells #[.string ⟨#[115, 107, 105, 112, 32]⟩, .string ⟨#[112, 114, 101, 102, 101, 114, 32, 97, 32]⟩, .string ⟨#[112, 114, 101, 102, 101, 114, 32, 98, 32]⟩] 9) := by
    rw [← hwB]
    have := World.alloc_heap_new (w.alloc (.cells #[.int .i64 0, .string ⟨#[]⟩] 57)) (.cells #[.string ⟨#[115, 107, 105, 112, 32]⟩, .string ⟨#[112, 114, 101, 102, 101, 114, 32, 97, 32]⟩, .string ⟨#[112, 114, 101, 102, 101, 114, 32, 98, 32]⟩] 9)
    rwa [World.size_alloc] at this
  have hcl : ∀ k : Nat, k < 3 → wB.cell? ⟨w.heap.size + 1, k, none⟩ = some (.string (ofB (headB (k + 1)))) := fun k hk => by
    have : k = 0 ∨ k = 1 ∨ k = 2 := by omega
    rcases this with rfl | rfl | rfl <;> (unfold World.cell?; rw [h1]; rfl)
  obtain ⟨c0, c1, f0, f1⟩ := two_heap h0
  have HW : Hid ((w.alloc (.cells #[.int .i64 0, .string ⟨#[]⟩] 57)).alloc (.cells #[.string ⟨#[115, 107, 105, 112, 32]⟩, .string ⟨#[112, 114, 101, 102, 101, 114, 32, 97, 32]⟩, .string ⟨#[112, 114, 101, 102, 101, 114, 32, 98, 32]⟩] 9) = wB) := hwB
  clear hwB h0 h1
  go_enter Tryz.func12, Tryz.ntmps12
  go_wp2
  rw [HW.out]
  clear HW
  go_loopw [5] (fun k wr => ∃ n : Nat, k = .int .i64 (n : Int) ∧ n ≤ 3 ∧ Hid (∀ j, 1 ≤ j → j < n + 1 → ¬ headB j <+: tl s) ∧ wr = wB) (fun k wr => 3 - iOf k)
  case atStart => exact ⟨0, rfl, Nat.zero_le _, fun j h1 h2 => by omega, rfl⟩
  case round =>
    obtain ⟨n, rfl, h2, HN, rfl⟩ := hrel
    by_cases hlt : n < 3
    · have i1 : (n : Int) < 3 := by omega
      have hk : n + 1 = 1 ∨ n + 1 = 2 ∨ n + 1 = 3 := by omega
      have hh : (headB (n + 1)).length ≤ 9 := by rcases hk with e | e | e <;> rw [e] <;> decide
      have hcn := hcl n hlt
      by_cases hp : headB (n + 1) <+: tl s
      · obtain ⟨r, hr⟩ := hp
        have hv := cutR_before hk (fun j h1 h2 => HN.out j h1 h2) r hr.symm
        have hC : C = some (n + 1, r) := by rw [← HC.out]; exact hv
        subst hC
        have CA := fun W => after_yes s (ofB (headB (n + 1))) r W (by omega) (by rw [tl_ofB]; exact hr.symm)
        clear HN hr hv HC hcl hk hh
        generalize ofB (headB (n + 1)) = H at *
        go_wp2_with (go_at_call 40; refine (CA _).mono ?_; rintro e w1 ⟨rfl, rfl⟩)
        refine ⟨rfl, _, ?_, rfl, (hb0.setCell (p := ⟨w.heap.size, 0, none⟩) (Nat.le_refl _) _).setCell (p := ⟨w.heap.size, 1, none⟩) (Nat.le_refl _) _⟩
        simp [results, Tryz.f12, go_sem, c0, c1, cutV, rv]
      · have CA := fun W => after_no s (ofB (headB (n + 1))) W (by omega) (by rw [ofB_size]; omega) (fun r q => hp ⟨r, by rw [tl_ofB] at q; exact q.symm⟩)
        have HN2 : Hid (∀ j, 1 ≤ j → j < n + 1 + 1 → ¬ headB j <+: tl s) := fun j h1 h2 => by
          by_cases e : j = n + 1
          · subst e; exact hp
          · exact HN.out j h1 (by omega)
        have HCL : Hid (∀ k : Nat, k < 3 → wr.cell? ⟨w.heap.size + 1, k, none⟩ = some (.string (ofB (headB (k + 1))))) := hcl
        clear hp hcl hk hh
        generalize ofB (headB (n + 1)) = H at *
        go_wp2_with (go_at_call 40; refine (CA _).mono ?_; rintro e w1 ⟨rfl, rfl⟩)
        go_roundw
        case rel => exact ⟨n + 1, by go_num, by omega, HN2, trivial⟩
        case measure => simp; omega
    · have hn : n = 3 := by omega
      subst hn
      have hC : C = none := by rw [← HC.out]; exact cutR_none HN.out
      subst hC
      clear HN HC
      go_wp2
      refine ⟨rfl, _, ?_, rfl, (hb0.setCell (p := ⟨w.heap.size, 0, none⟩) (Nat.le_refl _) _).setCell (p := ⟨w.heap.size, 1, none⟩) (Nat.le_refl _) _⟩
      simp [results, Tryz.f12, go_sem, c0, c1, cutV, rv]
      rfl
end Go.Proofs.YtpngnhpnjkepjaaGreatDoor
