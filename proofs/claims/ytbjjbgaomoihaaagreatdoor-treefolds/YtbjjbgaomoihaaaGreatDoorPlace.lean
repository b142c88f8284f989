import Derived.Test.YtbjjbgaomoihaaaGreatDoorOwnF
import Derived.Test.YtbjjbgaomoihaaaGreatDoorBDue
set_option maxRecDepth 100000
set_option maxHeartbeats 1000000
namespace Go.Proofs.YtbjjbgaomoihaaaGreatDoor
open Go.RowKit
theorem u8_eq {x : UInt8} {c : Nat} (hc : c < 256) (h : (x.toNat : Int) = (c : Int)) : x = UInt8.ofNat c := by
  apply UInt8.toNat_inj.1
  simp; omega
def eno (b : Bool) : Int := if b then 0 else 30
theorem name_no {l : By} {x : UInt8} (hx : x ∈ l) (h : x = 47 ∨ x = 0) : nameB l = false :=
  decide_eq_false (fun q => by have := q.2.2.2.2 x hx; rcases h with h | h <;> simp [h] at this)
theorem name_yes {s : ByteArray} (h1 : 1 ≤ s.size) (h2 : s.size ≤ 255) (h3 : s.toList ≠ [46]) (h4 : s.toList ≠ [46, 46]) (h5 : ∀ j (h : j < s.size), s[j]'h ≠ 47 ∧ s[j]'h ≠ 0) : nameB (tl s) = true := by
  have hlen := tl_len s
  refine decide_eq_true ⟨by omega, by omega, h3, h4, fun x hx => ?_⟩
  obtain ⟨k, hk, rfl⟩ := tl_mem hx
  exact h5 k hk
theorem check_any (s : ByteArray) (w : World) (hs : s.size ≤ 9223372036854775807) : Calls Tryz.prog 90 #[.string s] w fun e w' => e = .returned (.int .i64 (eno (nameB (tl s)))) ∧ Below w.heap.size w w' := by
  have hlen := tl_len s
  by_cases hA : s.toList ≠ [] ∧ s.toList ≠ [46] ∧ s.toList ≠ [46, 46] ∧ s.size ≤ 255
  · obtain ⟨h1, h3, h4, h2⟩ := hA
    have i2 : ¬ ((255 : Int) < (s.size : Int)) := by omega
    have b1 : (s.toList.isEmpty) = false := by simpa using h1
    have b3 : (s.toList == [46]) = false := by simpa using h3
    have b4 : (s.toList == [46, 46]) = false := by simpa using h4
    have h0 : 1 ≤ s.size := by
      cases e : s.toList with
      | nil => exact absurd e h1
      | cons a b => rw [tl, e] at hlen; simp at hlen; omega
    go_enter Tryz.func90, Tryz.ntmps90
    go_wp2
    go_loopw [] (fun wr => ∃ pos, wr = w.iter s pos ∧ pos ≤ s.size ∧ ∀ j (h : j < s.size), j < pos → s[j]'h ≠ 47 ∧ s[j]'h ≠ 0) (fun wr => s.size - wr.iterPos w.heap.size)
    case atStart => exact ⟨0, rfl, Nat.zero_le _, fun j _ h => absurd h (Nat.not_lt_zero _)⟩
    case round =>
      obtain ⟨pos, rfl, hk, hj⟩ := hrel
      by_cases hp : pos < s.size
      · have hnx : ∀ ty, (Instr.next (.pointer (some ⟨w.heap.size, 0, none⟩)) true ty).run Tryz.prog (w.iter s pos) = _ := fun ty => run_next_any w s pos ty hp
        have hwd := decode_wide s pos hp
        have hin := decode_in s pos hp
        by_cases hbad : (Utf8.decode s pos).1 = 47 ∨ (Utf8.decode s pos).1 = 0
        · have hf : nameB (tl s) = false := by
            refine name_no (x := s.get! pos) (List.mem_of_getElem? (tl_get s pos hp)) ?_
            rcases hbad with q | q
            · exact .inl (u8_eq (c := 47) (by decide) (by exact_mod_cast (decode_small s pos hp 47 (by decide)).1 q))
            · exact .inr (u8_eq (c := 0) (by decide) (by exact_mod_cast (decode_small s pos hp 0 (by decide)).1 q))
          rcases hbad with hb | hb
          all_goals
            go_wp2
            go_ret
            exact ⟨by rw [hf]; rfl, (Below.refl _ w).alloc (Nat.le_refl _) _⟩
        · have q1 : (((Utf8.decode s pos).1 : Int) == 47) = false := by simp; omega
          have q2 : (((Utf8.decode s pos).1 : Int) == 0) = false := by simp; omega
          go_wp2
          refine ⟨⟨_, rfl, hin, fun j h hjk => ?_⟩, by rw [World.iterPos_iter, World.iterPos_iter]; omega⟩
          by_cases e : j < pos
          · exact hj j h e
          · have n1 := decode_none s pos 47 hp (by decide) (fun q => hbad (.inl q)) j (by omega) hjk
            have n2 := decode_none s pos 0 hp (by decide) (fun q => hbad (.inr q)) j (by omega) hjk
            rw [show s.get! j = s[j]'h from get_at s j h] at n1 n2
            exact ⟨fun q => n1 (by rw [q]; rfl), fun q => n2 (by rw [q]; rfl)⟩
      · have hnx : ∀ ty, (Instr.next (.pointer (some ⟨w.heap.size, 0, none⟩)) true ty).run Tryz.prog (w.iter s pos) = _ := fun ty => run_next_end w s pos ty hp
        have ht := name_yes h0 h2 h3 h4 (fun j h => hj j h (by omega))
        go_wp2
        go_ret
        exact ⟨by rw [ht]; rfl, (Below.refl _ w).alloc (Nat.le_refl _) _⟩
  · have hf : nameB (tl s) = false := decide_eq_false (fun q => hA ⟨fun e => by have := q.1; rw [tl, e] at this; simp at this, q.2.2.1, q.2.2.2.1, by omega⟩)
    rw [hf]
    go_enter Tryz.func90, Tryz.ntmps90
    go_wp2
    all_goals first
      | (go_ret; exact ⟨rfl, Below.refl _ _⟩)
      | (exfalso; simp_all; omega)
def leB (nm : ByteArray) (p : ByteArray) : Bool := Op.bytesLess nm.toList p.toList || nm.toList == p.toList
def leP (nm : ByteArray) : Option ByteArray → Bool
  | none => false
  | some p => leB nm p
def placeE (prev : Option ByteArray) (nm : ByteArray) (lev : Nat) : Int := if 64 < lev then 43 else if nameB (tl nm) = false then 30 else if leP nm prev = true then 42 else 0
theorem placeFault_any (a : Option Addr) (N cap k lev : Nat) (g o : Nat) (nm : ByteArray) (prev : Option ByteArray) (w : World) (ha : a = some ⟨g, o, none⟩) (hk : k < N) (hN : N ≤ 9223372036854775807) (hlev : lev ≤ 1000)
    (hs : nm.size ≤ 9223372036854775807) (hn : w.cell? ⟨g, o + k * 41, none⟩ = some (.string nm)) (hp : (k = 0 ∧ prev = none) ∨ ∃ j p, k = j + 1 ∧ prev = some p ∧ w.cell? ⟨g, o + j * 41, none⟩ = some (.string p)) :
    Calls Tryz.prog 60 #[.slice a N cap, .int .i64 k, .int .i64 lev] w fun e w' => e = .returned (.int .i64 (placeE prev nm lev)) ∧ G w w' := by
  subst ha
  have C := check_any nm w hs
  have hkI : (k : Int) < (N : Int) := by omega
  obtain ⟨R, hR⟩ : ∃ R, placeE prev nm lev = R := ⟨_, rfl⟩
  rw [hR]
  have HR := hid hR
  clear hR
  by_cases h1 : 64 < lev
  · have h1I : (64 : Int) < (lev : Int) := by omega
    have HF : Hid (R = 43) := by show _ = _; rw [← HR.out, placeE, if_pos h1]
    clear h1
    go_enter Tryz.func60, Tryz.ntmps60
    go_wp2_with fail
    go_ret
    exact ⟨by rw [HF.out]; rfl, G.refl w⟩
  · have h1I : ¬ (64 : Int) < (lev : Int) := by omega
    obtain ⟨b, hb⟩ : ∃ b, nameB (tl nm) = b := ⟨_, rfl⟩
    rw [hb] at C
    have HB := hid hb
    clear hb
    cases b with
    | false =>
      have HF : Hid (R = 30) := by show _ = _; rw [← HR.out, placeE, if_neg h1, if_pos HB.out]
      rw [show eno false = 30 from rfl] at C
      clear h1
      go_enter Tryz.func60, Tryz.ntmps60
      go_wp2_with (go_at_call 90; refine C.mono ?_; rintro e w1 ⟨rfl, b1⟩)
      go_ret
      exact ⟨by rw [HF.out]; rfl, b1⟩
    | true =>
      rw [show eno true = 0 from rfl] at C
      have HE : Hid (R = if leP nm prev = true then 42 else 0) := by show _ = _; rw [← HR.out, placeE, if_neg h1, if_neg (by rw [HB.out]; simp)]
      clear h1
      rcases hp with ⟨hk0, rfl⟩ | ⟨j, p, rfl, rfl, hp⟩
      · have hk0' : ¬ 0 < k := by omega
        clear hk0
        have HF : Hid (R = 0) := by show _ = _; rw [HE.out]; rfl
        go_enter Tryz.func60, Tryz.ntmps60
        go_upto_region 6 with (go_at_call 90; refine C.mono ?_; rintro e w1 ⟨rfl, b1⟩)
        have B1 : Hid (G w w1) := b1
        refine wp_region_G ?_
        have HD : Hid (G w w1.drew) := B1.out.trans (G.drew _)
        generalize w1.drew = w2 at *
        refine takeG 0 19 (.int .i64 k) rfl rfl (by kernel_rfl) (by kernel_rfl) (by kernel_rfl) (fun _ _ _ h => h) (by kernel_rfl) (fun wz hz => ?_) ?_
        · rfl
        try simp only [Act.put, List.setIfInBounds_toArray, List.set_cons_zero, List.set_cons_succ]
        refine takeG 1 20 (.bool false) rfl rfl (by kernel_rfl) (by kernel_rfl) (by kernel_rfl) (fun _ _ _ h => h) (by kernel_rfl) (fun wz hz => ?_) ?_
        · go_simp
        try simp only [Act.put, List.setIfInBounds_toArray, List.set_cons_zero, List.set_cons_succ]
        refine takeG 2 21 (.bool false) rfl rfl (by kernel_rfl) (by kernel_rfl) (by kernel_rfl) (fun _ _ _ h => h) (by kernel_rfl) (fun wz hz => ?_) ?_
        · rfl
        try simp only [Act.put, List.setIfInBounds_toArray, List.set_cons_zero, List.set_cons_succ]
        refine skipG 3 22 rfl rfl (by kernel_rfl) (by kernel_rfl) (by kernel_rfl) (fun _ _ _ h => h) (by kernel_rfl) ?_
        try simp only [Act.put, List.setIfInBounds_toArray, List.set_cons_zero, List.set_cons_succ]
        refine skipG 4 23 rfl rfl (by kernel_rfl) (by kernel_rfl) (by kernel_rfl) (fun _ _ _ h => h) (by kernel_rfl) ?_
        try simp only [Act.put, List.setIfInBounds_toArray, List.set_cons_zero, List.set_cons_succ]
        refine skipG 5 24 rfl rfl (by kernel_rfl) (by kernel_rfl) (by kernel_rfl) (fun _ _ _ h => h) (by kernel_rfl) ?_
        try simp only [Act.put, List.setIfInBounds_toArray, List.set_cons_zero, List.set_cons_succ]
        refine skipG 6 25 rfl rfl (by kernel_rfl) (by kernel_rfl) (by kernel_rfl) (fun _ _ _ h => h) (by kernel_rfl) ?_
        try simp only [Act.put, List.setIfInBounds_toArray, List.set_cons_zero, List.set_cons_succ]
        refine skipG 7 26 rfl rfl (by kernel_rfl) (by kernel_rfl) (by kernel_rfl) (fun _ _ _ h => h) (by kernel_rfl) ?_
        try simp only [Act.put, List.setIfInBounds_toArray, List.set_cons_zero, List.set_cons_succ]
        refine skipG 8 27 rfl rfl (by kernel_rfl) (by kernel_rfl) (by kernel_rfl) (fun _ _ _ h => h) (by kernel_rfl) ?_
        try simp only [Act.put, List.setIfInBounds_toArray, List.set_cons_zero, List.set_cons_succ]
        refine skipG 9 28 rfl rfl (by kernel_rfl) (by kernel_rfl) (by kernel_rfl) (fun _ _ _ h => h) (by kernel_rfl) ?_
        try simp only [Act.put, List.setIfInBounds_toArray, List.set_cons_zero, List.set_cons_succ]
        refine skipG 10 29 rfl rfl (by kernel_rfl) (by kernel_rfl) (by kernel_rfl) (fun _ _ _ h => h) (by kernel_rfl) ?_
        try simp only [Act.put, List.setIfInBounds_toArray, List.set_cons_zero, List.set_cons_succ]
        refine skipG 11 30 rfl rfl (by kernel_rfl) (by kernel_rfl) (by kernel_rfl) (fun _ _ _ h => h) (by kernel_rfl) ?_
        try simp only [Act.put, List.setIfInBounds_toArray, List.set_cons_zero, List.set_cons_succ]
        refine skipG 12 31 rfl rfl (by kernel_rfl) (by kernel_rfl) (by kernel_rfl) (fun _ _ _ h => h) (by kernel_rfl) ?_
        try simp only [Act.put, List.setIfInBounds_toArray, List.set_cons_zero, List.set_cons_succ]
        refine skipG 13 32 rfl rfl (by kernel_rfl) (by kernel_rfl) (by kernel_rfl) (fun _ _ _ h => h) (by kernel_rfl) ?_
        try simp only [Act.put, List.setIfInBounds_toArray, List.set_cons_zero, List.set_cons_succ]
        refine skipG 14 33 rfl rfl (by kernel_rfl) (by kernel_rfl) (by kernel_rfl) (fun _ _ _ h => h) (by kernel_rfl) ?_
        try simp only [Act.put, List.setIfInBounds_toArray, List.set_cons_zero, List.set_cons_succ]
        refine takeG 15 34 (.bool false) rfl rfl (by kernel_rfl) (by kernel_rfl) (by kernel_rfl) (fun _ _ _ h => h) (by kernel_rfl) (fun wz hz => ?_) ?_
        · go_simp
        try simp only [Act.put, List.setIfInBounds_toArray, List.set_cons_zero, List.set_cons_succ]
        refine doneG (by kernel_rfl) (fun w3 hg3 => ?_)
        go_wp2_with fail
        go_ret
        exact ⟨by rw [HF.out]; rfl, HD.out.trans hg3⟩
      · have j1 : (0 : Int) < ((j + 1 : Nat) : Int) := by omega
        have j2 : IntKind.i64.wrap (((j + 1 : Nat) : Int) - 1) = (j : Int) := by rw [IntKind.wrap_i64]; omega
        have j3 : (j : Int) < (N : Int) := by omega
        obtain ⟨bl, hbl⟩ : ∃ b, leB nm p = b := ⟨_, rfl⟩
        have HBL : Hid (leB nm p = bl) := hbl
        unfold leB at hbl
        have jp : 0 < j + 1 := by omega
        generalize hj : j + 1 = jj at *
        clear hj
        go_enter Tryz.func60, Tryz.ntmps60
        go_upto_region 6 with (go_at_call 90; refine C.mono ?_; rintro e w1 ⟨rfl, b1⟩)
        have B1 : Hid (G w w1) := b1
        refine wp_region_G ?_
        have HD : Hid (G w w1.drew) := B1.out.trans (G.drew _)
        have n1 := HD.out.cell hn
        have n2 := HD.out.cell hp
        generalize w1.drew = w2 at *
        refine takeG 0 19 (.int .i64 jj) rfl rfl (by kernel_rfl) (by kernel_rfl) (by kernel_rfl) (fun _ _ _ h => h) (by kernel_rfl) (fun wz hz => ?_) ?_
        · rfl
        try simp only [Act.put, List.setIfInBounds_toArray, List.set_cons_zero, List.set_cons_succ]
        refine takeG 1 20 (.bool true) rfl rfl (by kernel_rfl) (by kernel_rfl) (by kernel_rfl) (fun _ _ _ h => h) (by kernel_rfl) (fun wz hz => ?_) ?_
        · go_simp
        try simp only [Act.put, List.setIfInBounds_toArray, List.set_cons_zero, List.set_cons_succ]
        refine takeG 2 21 (.bool true) rfl rfl (by kernel_rfl) (by kernel_rfl) (by kernel_rfl) (fun _ _ _ h => h) (by kernel_rfl) (fun wz hz => ?_) ?_
        · rfl
        try simp only [Act.put, List.setIfInBounds_toArray, List.set_cons_zero, List.set_cons_succ]
        refine takeG 3 22 (.slice (some ⟨g, o, none⟩) N cap) rfl rfl (by kernel_rfl) (by kernel_rfl) (by kernel_rfl) (fun _ _ _ h => h) (by kernel_rfl) (fun wz hz => ?_) ?_
        · rfl
        try simp only [Act.put, List.setIfInBounds_toArray, List.set_cons_zero, List.set_cons_succ]
        refine takeG 4 23 (.int .i64 jj) rfl rfl (by kernel_rfl) (by kernel_rfl) (by kernel_rfl) (fun _ _ _ h => h) (by kernel_rfl) (fun wz hz => ?_) ?_
        · rfl
        try simp only [Act.put, List.setIfInBounds_toArray, List.set_cons_zero, List.set_cons_succ]
        refine takeG 5 24 (.pointer (some ⟨g, o + jj * 41, none⟩)) rfl rfl (by kernel_rfl) (by kernel_rfl) (by kernel_rfl) (fun _ _ _ h => h) (by kernel_rfl) (fun wz hz => ?_) ?_
        · go_simp
        try simp only [Act.put, List.setIfInBounds_toArray, List.set_cons_zero, List.set_cons_succ]
        refine takeG 6 25 (.pointer (some ⟨g, o + jj * 41, none⟩)) rfl rfl (by kernel_rfl) (by kernel_rfl) (by kernel_rfl) (fun _ _ _ h => h) (by kernel_rfl) (fun wz hz => ?_) ?_
        · go_simp
        try simp only [Act.put, List.setIfInBounds_toArray, List.set_cons_zero, List.set_cons_succ]
        refine takeG 7 26 (.string nm) rfl rfl (by kernel_rfl) (by kernel_rfl) (by kernel_rfl) (fun _ _ _ h => h) (by kernel_rfl) (fun wz hz => ?_) ?_
        · have y0 := hz.cell n1; go_simp
        try simp only [Act.put, List.setIfInBounds_toArray, List.set_cons_zero, List.set_cons_succ]
        refine takeG 8 27 (.slice (some ⟨g, o, none⟩) N cap) rfl rfl (by kernel_rfl) (by kernel_rfl) (by kernel_rfl) (fun _ _ _ h => h) (by kernel_rfl) (fun wz hz => ?_) ?_
        · rfl
        try simp only [Act.put, List.setIfInBounds_toArray, List.set_cons_zero, List.set_cons_succ]
        refine takeG 9 28 (.int .i64 jj) rfl rfl (by kernel_rfl) (by kernel_rfl) (by kernel_rfl) (fun _ _ _ h => h) (by kernel_rfl) (fun wz hz => ?_) ?_
        · rfl
        try simp only [Act.put, List.setIfInBounds_toArray, List.set_cons_zero, List.set_cons_succ]
        refine takeG 10 29 (.int .i64 j) rfl rfl (by kernel_rfl) (by kernel_rfl) (by kernel_rfl) (fun _ _ _ h => h) (by kernel_rfl) (fun wz hz => ?_) ?_
        · go_simp
        try simp only [Act.put, List.setIfInBounds_toArray, List.set_cons_zero, List.set_cons_succ]
        refine takeG 11 30 (.pointer (some ⟨g, o + j * 41, none⟩)) rfl rfl (by kernel_rfl) (by kernel_rfl) (by kernel_rfl) (fun _ _ _ h => h) (by kernel_rfl) (fun wz hz => ?_) ?_
        · go_simp
        try simp only [Act.put, List.setIfInBounds_toArray, List.set_cons_zero, List.set_cons_succ]
        refine takeG 12 31 (.pointer (some ⟨g, o + j * 41, none⟩)) rfl rfl (by kernel_rfl) (by kernel_rfl) (by kernel_rfl) (fun _ _ _ h => h) (by kernel_rfl) (fun wz hz => ?_) ?_
        · go_simp
        try simp only [Act.put, List.setIfInBounds_toArray, List.set_cons_zero, List.set_cons_succ]
        refine takeG 13 32 (.string p) rfl rfl (by kernel_rfl) (by kernel_rfl) (by kernel_rfl) (fun _ _ _ h => h) (by kernel_rfl) (fun wz hz => ?_) ?_
        · have y0 := hz.cell n2; go_simp
        try simp only [Act.put, List.setIfInBounds_toArray, List.set_cons_zero, List.set_cons_succ]
        refine takeG 14 33 (.bool bl) rfl rfl (by kernel_rfl) (by kernel_rfl) (by kernel_rfl) (fun _ _ _ h => h) (by kernel_rfl) (fun wz hz => ?_) ?_
        · go_simp
        try simp only [Act.put, List.setIfInBounds_toArray, List.set_cons_zero, List.set_cons_succ]
        refine takeG 15 34 (.bool bl) rfl rfl (by kernel_rfl) (by kernel_rfl) (by kernel_rfl) (fun _ _ _ h => h) (by kernel_rfl) (fun wz hz => ?_) ?_
        · go_simp
        try simp only [Act.put, List.setIfInBounds_toArray, List.set_cons_zero, List.set_cons_succ]
        refine doneG (by kernel_rfl) (fun w3 hg3 => ?_)
        cases bl with
        | false =>
          have HF : Hid (R = 0) := by show _ = _; rw [HE.out, leP, HBL.out]; rfl
          go_wp2_with fail
          go_ret
          exact ⟨by rw [HF.out]; rfl, HD.out.trans hg3⟩
        | true =>
          have HF : Hid (R = 42) := by show _ = _; rw [HE.out, leP, HBL.out]; rfl
          go_wp2_with fail
          go_ret
          exact ⟨by rw [HF.out]; rfl, HD.out.trans hg3⟩
end Go.Proofs.YtbjjbgaomoihaaaGreatDoor
