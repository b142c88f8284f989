/-
  path.matchName by contract.
-/
import Derived.Test.YtpngnhpnjkepjaaDoorSign
import Derived.Test.YtpngnhpnjkepjaaDoorMade
import Derived.RangeFuncBox
namespace Go.Proofs.YtpngnhpnjkepjaaDoor
open Go.RowKit

theorem u8_eqI {x y : UInt8} (h : x = y) : ((x.toNat : Int) == (y.toNat : Int)) = true := by subst h; simp
theorem u8_neB {x y : UInt8} (h : x ≠ y) : ((x.toNat : Int) == (y.toNat : Int)) = false := by
  simp only [beq_eq_false_iff_ne, ne_eq]; intro q; exact h (UInt8.toNat_inj.1 (by omega))
theorem u8_lit {x : UInt8} {c : Nat} (hc : c < 256) : ((x.toNat : Int) == (c : Int)) = decide (x = UInt8.ofNat c) := by
  by_cases h : x = UInt8.ofNat c
  · subst h; simp; omega
  · rw [decide_eq_false h]
    simp only [beq_eq_false_iff_ne, ne_eq]
    intro q; exact h (UInt8.toNat_inj.1 (by simp; omega))

set_option maxHeartbeats 1000000 in
set_option maxRecDepth 100000 in
theorem signWidth_any (p : ByteArray) (b : UInt8) (w : World) (hp : 0 < p.size) (h92 : p[0]'hp = 92 → 1 < p.size) :
    Calls Tryd.prog 103 #[.string p, .int .u8 (b.toNat : Int)] w fun e w' => e = .returned (.int .i64 (sw (tl p) b : Nat)) ∧ w' = w := by
  have e0 := tl_at p 0 hp
  have hlen := tl_len p
  have iP : (0 : Int) < (p.size : Int) := by omega
  by_cases h1 : p[0]'hp = 92
  · have hp1 := h92 h1
    have iP1 : (1 : Int) < (p.size : Int) := by omega
    have e1 := tl_at p 1 hp1
    have hsw : sw (tl p) b = if p[1]'hp1 = b then 2 else 0 := by
      cases hq : tl p with
      | nil => rw [hq] at e0; simp at e0
      | cons x q =>
        cases q with
        | nil => rw [hq] at e1; simp at e1
        | cons c q =>
          rw [hq] at e0 e1
          simp at e0 e1
          rw [sw, e0, h1, e1]
          simp
    by_cases h2 : p[1]'hp1 = b
    · rw [hsw, if_pos h2]
      have c1 : (((p[0]'hp).toNat : Int) == 92) = true := by rw [h1]; rfl
      have c2 := u8_eqI h2
      clear h1 h2 h92 hsw e0 e1
      go_enter Tryd.func103, Tryd.ntmps103
      go_wp2
      go_ret
      exact ⟨rfl, rfl⟩
    · rw [hsw, if_neg h2]
      have c1 : (((p[0]'hp).toNat : Int) == 92) = true := by rw [h1]; rfl
      have c2 := u8_neB h2
      clear h1 h2 h92 hsw e0 e1
      go_enter Tryd.func103, Tryd.ntmps103
      go_wp2
      go_ret
      exact ⟨rfl, rfl⟩
  · have c1 : (((p[0]'hp).toNat : Int) == 92) = false := by rw [show (92 : Int) = ((92 : Nat) : Int) from rfl, u8_lit (by decide)]; exact decide_eq_false h1
    have hsw : sw (tl p) b = if p[0]'hp = 63 ∨ p[0]'hp = b then 1 else 0 := by
      cases hq : tl p with
      | nil => rw [hq] at e0; simp at e0
      | cons x q =>
        rw [hq] at e0
        simp at e0
        rw [sw.eq_def, e0]
        simp [h1]
    by_cases h2 : p[0]'hp = 63
    · rw [hsw, if_pos (.inl h2)]
      have c2 : (((p[0]'hp).toNat : Int) == 63) = true := by rw [h2]; rfl
      clear h1 h2 h92 hsw e0
      go_enter Tryd.func103, Tryd.ntmps103
      go_wp2
      go_ret
      exact ⟨rfl, rfl⟩
    · have c2 : (((p[0]'hp).toNat : Int) == 63) = false := by rw [show (63 : Int) = ((63 : Nat) : Int) from rfl, u8_lit (by decide)]; exact decide_eq_false h2
      by_cases h3 : p[0]'hp = b
      · rw [hsw, if_pos (.inr h3)]
        have c3 := u8_eqI h3
        clear h1 h2 h92 hsw e0 h3
        go_enter Tryd.func103, Tryd.ntmps103
        go_wp2
        go_ret
        exact ⟨rfl, rfl⟩
      · rw [hsw, if_neg (by rintro (q | q); exact h2 q; exact h3 q)]
        have c3 := u8_neB h3
        clear h1 h2 h92 hsw e0 h3
        go_enter Tryd.func103, Tryd.ntmps103
        go_wp2
        go_ret
        exact ⟨rfl, rfl⟩

set_option maxHeartbeats 1000000 in
set_option maxRecDepth 100000 in
theorem manyF_any (p : ByteArray) (a : Addr) (s : Nat) (w : World) (hc : w.cell? a = some (.string p)) (hs : s < p.size) :
    Calls Tryd.prog 101 #[.int .i64 s, .pointer (some a)] w fun e w' => e = .returned (.bool (manyB (tl p) s)) ∧ w' = w := by
  have hB : manyB (tl p) s = (((p[s]'hs).toNat : Int) == 42) := by
    rw [manyB, tl_at p s hs, show (42 : Int) = ((42 : Nat) : Int) from rfl, u8_lit (by decide)]
    by_cases h : p[s]'hs = 42
    · simp [h]
    · simp [h]
  rw [hB]
  have iS : (s : Int) < (p.size : Int) := by omega
  clear hB
  go_enter Tryd.func101, Tryd.ntmps101
  go_wp2
  go_ret
  exact ⟨rfl, rfl⟩
set_option maxHeartbeats 1000000 in
set_option maxRecDepth 100000 in
theorem oneF_any (p nm : ByteArray) (a b : Addr) (s t : Nat) (w : World) (hc : w.cell? a = some (.string p)) (hd : w.cell? b = some (.string nm)) (hs : s < p.size) (ht : t < nm.size) (_hps : p.size ≤ 1152921504606846976)
    (hV : ∃ M, signsOf ((tl p).drop s) = some M) :
    Calls Tryd.prog 102 #[.int .i64 s, .int .i64 t, .pointer (some a), .pointer (some b)] w fun e w' => e = .returned (.int .i64 (sw ((tl p).drop s) ((tl nm)[t]?.getD 0) : Nat)) ∧ Drew w w' := by
  have hlen := tl_len p
  have hx : tl (p.extract s p.size) = (tl p).drop s := by
    rw [tl_extract, List.take_of_length_le (by rw [List.length_drop]; omega)]
  have hsz : (p.extract s p.size).size = p.size - s := by rw [← tl_len, hx, List.length_drop, hlen]
  have h0 : 0 < (p.extract s p.size).size := by omega
  have C := fun W => signWidth_any (p.extract s p.size) (nm[t]'ht) W h0 (by
    intro h92
    have e0 := tl_at _ 0 h0
    rw [h92, hx] at e0
    obtain ⟨M, hM⟩ := hV
    rw [hsz]
    cases hq : (tl p).drop s with
    | nil => rw [hq] at e0; simp at e0
    | cons y q =>
      rw [hq] at e0 hM
      simp at e0
      subst e0
      cases q with
      | nil => rw [signsOf_end] at hM; cases hM
      | cons c q =>
        have := congrArg List.length hq
        rw [List.length_drop, hlen] at this
        simp at this; omega)
  rw [hx] at C
  rw [tl_at nm t ht]
  simp only [Option.getD_some]
  generalize sw ((tl p).drop s) (nm[t]'ht) = z at *
  have iS : (s : Int) ≤ (p.size : Int) := by omega
  have iT : (t : Int) < (nm.size : Int) := by omega
  clear hV hx hsz h0
  go_enter Tryd.func102, Tryd.ntmps102
  go_wp2_with fail
  go_quiet ((go_at_call 103; exact Calls.quiet_of_same (C _)))
  go_wp2
  go_ret
  exact ⟨rfl, _, rfl⟩

theorem box2 (w : World) (v1 v2 : Value) (t1 t2 : TypeId) : ((w.alloc (.cells #[v1] t1)).alloc (.cells #[v2] t2)).cell? ⟨w.heap.size, 0, none⟩ = some v1 ∧ ((w.alloc (.cells #[v1] t1)).alloc (.cells #[v2] t2)).cell? ⟨w.heap.size + 1, 0, none⟩ = some v2 := by
  have h1 := World.alloc_heap_new w (.cells #[v1] t1)
  have h2 := World.alloc_heap_new (w.alloc (.cells #[v1] t1)) (.cells #[v2] t2)
  rw [World.size_alloc] at h2
  have h3 := (Below.heap_alloc (w.alloc (.cells #[v1] t1)) (.cells #[v2] t2) w.heap.size (by simp)).trans h1
  constructor
  · simp only [World.cell?, h3]; rfl
  · simp only [World.cell?, h2]; rfl

set_option maxHeartbeats 1000000 in
set_option maxRecDepth 100000 in
theorem matchName_any (p nm : ByteArray) (w : World) (hp : p.size ≤ 1048576) (hn : nm.size ≤ 1048576) (L : List (Option (Option UInt8))) (hL : signsOf (tl p) = some L) :
    Calls Tryd.prog 89 #[.string p, .string nm] w fun e w' => e = .returned (.bool (matchB (tl p) (tl nm))) ∧ Below w.heap.size w w' := by
  have hmf : ∀ (fn : Fn) (first cap : Array Value) (w : World), (Instr.makeFunc fn first cap).run Tryd.prog w = .ok (.func fn first cap) w := fun _ _ _ _ => rfl
  obtain ⟨c1, c2⟩ := box2 w (.string p) (.string nm) 9 9
  have hlp := tl_len p
  have hln := tl_len nm
  have hB0 : Below w.heap.size w ((w.alloc (.cells #[.string p] 9)).alloc (.cells #[.string nm] 9)) := ((Below.refl _ w).alloc (Nat.le_refl _) _).alloc (by simp) _
  have hsz : ((w.alloc (.cells #[.string p] 9)).alloc (.cells #[.string nm] 9)).heap.size = w.heap.size + 2 := by simp
  have C : Calls Tryd.prog 90 #[.int .i64 (p.size : Nat), .int .i64 (nm.size : Nat), .func (.func 101) #[] #[.pointer (some ⟨w.heap.size, 0, none⟩)], .func (.func 102) #[] #[.pointer (some ⟨w.heap.size, 0, none⟩), .pointer (some ⟨w.heap.size + 1, 0, none⟩)]] ((w.alloc (.cells #[.string p] 9)).alloc (.cells #[.string nm] 9))
      fun e w' => e = .returned (.bool (matchB (tl p) (tl nm))) ∧ Below w.heap.size w w' := by
    have h := made71_any (pieceSigns (tl p) (tl nm) L hL) ⟨w.heap.size, 0, none⟩ ⟨w.heap.size + 1, 0, none⟩ ((w.alloc (.cells #[.string p] 9)).alloc (.cells #[.string nm] 9)) (by omega) (by omega) (fun s t => sw_le _ _)
      (fun W s hW hs => manyF_any p _ s W ((hW.cell (p := ⟨w.heap.size, 0, none⟩) (by show w.heap.size < _; omega)).trans c1) (by omega))
      (fun W s t hW hV hs _ ht => (oneF_any p nm _ _ s t W ((hW.cell (p := ⟨w.heap.size, 0, none⟩) (by show w.heap.size < _; omega)).trans c1) ((hW.cell (p := ⟨w.heap.size + 1, 0, none⟩) (by show w.heap.size + 1 < _; omega)).trans c2) (by omega) (by omega) (by omega) hV.2).mono fun e w' h => ⟨h.1, h.2.below⟩)
    rw [matchB_eq hL, hlp, hln] at h
    exact h.mono fun e w' h => ⟨h.1, hB0.trans (h.2.mono (by omega))⟩
  clear hB0 hsz hL
  go_enter Tryd.func89, Tryd.ntmps89
  go_wp2_with (go_at_call 90; refine C.mono ?_; rintro e w' ⟨rfl, hb⟩)
  go_ret
  exact ⟨rfl, hb⟩
end Go.Proofs.YtpngnhpnjkepjaaDoor
