/-
  path.matchNames by contract.
-/
import Derived.Test.YtpngnhpnjkepjaaGreatDoorSign
import Derived.Test.YtpngnhpnjkepjaaGreatDoorMade
import Derived.RangeFuncBox
import Derived.Test.YtpngnhpnjkepjaaGreatDoorMade2
import Derived.Deep.RegionWith
namespace Go.Proofs.YtpngnhpnjkepjaaGreatDoor
open Go.RowKit

theorem u8_eqI {x y : UInt8} (h : x = y) : ((x.toNat : Int) == (y.toNat : Int)) = true := by subst h; simp
theorem u8_neB {x y : UInt8} (h : x ≠ y) : ((x.toNat : Int) == (y.toNat : Int)) = false := by
  simp only [beq_eq_false_iff_ne, ne_eq]; intro q; exact h (UInt8.toNat_inj.1 (by omega))
theorem u8_lit {x : UInt8} {c : Nat} (hc : c < 256) : ((x.toNat : Int) == (c : Int)) = decide (x = UInt8.ofNat c) := by
  by_cases h : x = UInt8.ofNat c
  · subst h; simp; omega
  · rw [decide_eq_false h]
    simp only [beq_eq_false_iff_ne, ne_eq]
    intro q; exact h (UInt8.toNat_inj.1 (by simp; omega))

set_option maxHeartbeats 1000000 in
set_option maxRecDepth 100000 in
theorem signWidth_any (p : ByteArray) (b : UInt8) (w : World) (hp : 0 < p.size) (h92 : p[0]'hp = 92 → 1 < p.size) :
    Calls Tryz.prog 157 #[.string p, .int .u8 (b.toNat : Int)] w fun e w' => e = .returned (.int .i64 (sw (tl p) b : Nat)) ∧ w' = w := by
  have e0 := tl_at p 0 hp
  have hlen := tl_len p
  have iP : (0 : Int) < (p.size : Int) := by omega
  by_cases h1 : p[0]'hp = 92
  · have hp1 := h92 h1
    have iP1 : (1 : Int) < (p.size : Int) := by omega
    have e1 := tl_at p 1 hp1
    have hsw : sw (tl p) b = if p[1]'hp1 = b then 2 else 0 := by
      cases hq : tl p with
      | nil => rw [hq] at e0; simp at e0
      | cons x q =>
        cases q with
        | nil => rw [hq] at e1; simp at e1
        | cons c q =>
          rw [hq] at e0 e1
          simp at e0 e1
          rw [sw, e0, h1, e1]
          simp
    by_cases h2 : p[1]'hp1 = b
    · rw [hsw, if_pos h2]
      have c1 : (((p[0]'hp).toNat : Int) == 92) = true := by rw [h1]; rfl
      have c2 := u8_eqI h2
      clear h1 h2 h92 hsw e0 e1
      go_enter Tryz.func157, Tryz.ntmps157
      go_wp2
      go_ret
      exact ⟨rfl, rfl⟩
    · rw [hsw, if_neg h2]
      have c1 : (((p[0]'hp).toNat : Int) == 92) = true := by rw [h1]; rfl
      have c2 := u8_neB h2
      clear h1 h2 h92 hsw e0 e1
      go_enter Tryz.func157, Tryz.ntmps157
      go_wp2
      go_ret
      exact ⟨rfl, rfl⟩
  · have c1 : (((p[0]'hp).toNat : Int) == 92) = false := by rw [show (92 : Int) = ((92 : Nat) : Int) from rfl, u8_lit (by decide)]; exact decide_eq_false h1
    have hsw : sw (tl p) b = if p[0]'hp = 63 ∨ p[0]'hp = b then 1 else 0 := by
      cases hq : tl p with
      | nil => rw [hq] at e0; simp at e0
      | cons x q =>
        rw [hq] at e0
        simp at e0
        rw [sw.eq_def, e0]
        simp [h1]
    by_cases h2 : p[0]'hp = 63
    · rw [hsw, if_pos (.inl h2)]
      have c2 : (((p[0]'hp).toNat : Int) == 63) = true := by rw [h2]; rfl
      clear h1 h2 h92 hsw e0
      go_enter Tryz.func157, Tryz.ntmps157
      go_wp2
      go_ret
      exact ⟨rfl, rfl⟩
    · have c2 : (((p[0]'hp).toNat : Int) == 63) = false := by rw [show (63 : Int) = ((63 : Nat) : Int) from rfl, u8_lit (by decide)]; exact decide_eq_false h2
      by_cases h3 : p[0]'hp = b
      · rw [hsw, if_pos (.inr h3)]
        have c3 := u8_eqI h3
        clear h1 h2 h92 hsw e0 h3
        go_enter Tryz.func157, Tryz.ntmps157
        go_wp2
        go_ret
        exact ⟨rfl, rfl⟩
      · rw [hsw, if_neg (by rintro (q | q); exact h2 q; exact h3 q)]
        have c3 := u8_neB h3
        clear h1 h2 h92 hsw e0 h3
        go_enter Tryz.func157, Tryz.ntmps157
        go_wp2
        go_ret
        exact ⟨rfl, rfl⟩

set_option maxHeartbeats 1000000 in
set_option maxRecDepth 100000 in
theorem manyF_any (p : ByteArray) (a : Addr) (s : Nat) (w : World) (hc : w.cell? a = some (.string p)) (hs : s < p.size) :
    Calls Tryz.prog 155 #[.int .i64 s, .pointer (some a)] w fun e w' => e = .returned (.bool (manyB (tl p) s)) ∧ w' = w := by
  have hB : manyB (tl p) s = (((p[s]'hs).toNat : Int) == 42) := by
    rw [manyB, tl_at p s hs, show (42 : Int) = ((42 : Nat) : Int) from rfl, u8_lit (by decide)]
    by_cases h : p[s]'hs = 42
    · simp [h]
    · simp [h]
  rw [hB]
  have iS : (s : Int) < (p.size : Int) := by omega
  clear hB
  go_enter Tryz.func155, Tryz.ntmps155
  go_wp2
  go_ret
  exact ⟨rfl, rfl⟩
set_option maxHeartbeats 1000000 in
set_option maxRecDepth 100000 in
theorem oneF_any (p nm : ByteArray) (a b : Addr) (s t : Nat) (w : World) (hc : w.cell? a = some (.string p)) (hd : w.cell? b = some (.string nm)) (hs : s < p.size) (ht : t < nm.size) (_hps : p.size ≤ 1152921504606846976)
    (hV : ∃ M, signsOf ((tl p).drop s) = some M) :
    Calls Tryz.prog 156 #[.int .i64 s, .int .i64 t, .pointer (some a), .pointer (some b)] w fun e w' => e = .returned (.int .i64 (sw ((tl p).drop s) ((tl nm)[t]?.getD 0) : Nat)) ∧ Drew w w' := by
  have hlen := tl_len p
  have hx : tl (p.extract s p.size) = (tl p).drop s := by
    rw [tl_extract, List.take_of_length_le (by rw [List.length_drop]; omega)]
  have hsz : (p.extract s p.size).size = p.size - s := by rw [← tl_len, hx, List.length_drop, hlen]
  have h0 : 0 < (p.extract s p.size).size := by omega
  have C := fun W => signWidth_any (p.extract s p.size) (nm[t]'ht) W h0 (by
    intro h92
    have e0 := tl_at _ 0 h0
    rw [h92, hx] at e0
    obtain ⟨M, hM⟩ := hV
    rw [hsz]
    cases hq : (tl p).drop s with
    | nil => rw [hq] at e0; simp at e0
    | cons y q =>
      rw [hq] at e0 hM
      simp at e0
      subst e0
      cases q with
      | nil => rw [signsOf_end] at hM; cases hM
      | cons c q =>
        have := congrArg List.length hq
        rw [List.length_drop, hlen] at this
        simp at this; omega)
  rw [hx] at C
  rw [tl_at nm t ht]
  simp only [Option.getD_some]
  generalize sw ((tl p).drop s) (nm[t]'ht) = z at *
  have iS : (s : Int) ≤ (p.size : Int) := by omega
  have iT : (t : Int) < (nm.size : Int) := by omega
  clear hV hx hsz h0
  go_enter Tryz.func156, Tryz.ntmps156
  go_wp2_with fail
  go_quiet ((go_at_call 157; exact Calls.quiet_of_same (C _)))
  go_wp2
  go_ret
  exact ⟨rfl, _, rfl⟩

theorem box2 (w : World) (v1 v2 : Value) (t1 t2 : TypeId) : ((w.alloc (.cells #[v1] t1)).alloc (.cells #[v2] t2)).cell? ⟨w.heap.size, 0, none⟩ = some v1 ∧ ((w.alloc (.cells #[v1] t1)).alloc (.cells #[v2] t2)).cell? ⟨w.heap.size + 1, 0, none⟩ = some v2 := by
  have h1 := World.alloc_heap_new w (.cells #[v1] t1)
  have h2 := World.alloc_heap_new (w.alloc (.cells #[v1] t1)) (.cells #[v2] t2)
  rw [World.size_alloc] at h2
  have h3 := (Below.heap_alloc (w.alloc (.cells #[v1] t1)) (.cells #[v2] t2) w.heap.size (by simp)).trans h1
  constructor
  · simp only [World.cell?, h3]; rfl
  · simp only [World.cell?, h2]; rfl

set_option maxHeartbeats 1000000 in
set_option maxRecDepth 100000 in
theorem matchName_any (p nm : ByteArray) (w : World) (hp : p.size ≤ 1048576) (hn : nm.size ≤ 1048576) (L : List (Option (Option UInt8))) (hL : signsOf (tl p) = some L) :
    Calls Tryz.prog 140 #[.string p, .string nm] w fun e w' => e = .returned (.bool (matchB (tl p) (tl nm))) ∧ Below w.heap.size w w' := by
  have hmf : ∀ (fn : Fn) (first cap : Array Value) (w : World), (Instr.makeFunc fn first cap).run Tryz.prog w = .ok (.func fn first cap) w := fun _ _ _ _ => rfl
  obtain ⟨c1, c2⟩ := box2 w (.string p) (.string nm) 9 9
  have hlp := tl_len p
  have hln := tl_len nm
  have hB0 : Below w.heap.size w ((w.alloc (.cells #[.string p] 9)).alloc (.cells #[.string nm] 9)) := ((Below.refl _ w).alloc (Nat.le_refl _) _).alloc (by simp) _
  have hsz : ((w.alloc (.cells #[.string p] 9)).alloc (.cells #[.string nm] 9)).heap.size = w.heap.size + 2 := by simp
  have C : Calls Tryz.prog 141 #[.int .i64 (p.size : Nat), .int .i64 (nm.size : Nat), .func (.func 155) #[] #[.pointer (some ⟨w.heap.size, 0, none⟩)], .func (.func 156) #[] #[.pointer (some ⟨w.heap.size, 0, none⟩), .pointer (some ⟨w.heap.size + 1, 0, none⟩)]] ((w.alloc (.cells #[.string p] 9)).alloc (.cells #[.string nm] 9))
      fun e w' => e = .returned (.bool (matchB (tl p) (tl nm))) ∧ Below w.heap.size w w' := by
    have h := made71_any (pieceSigns (tl p) (tl nm) L hL) ⟨w.heap.size, 0, none⟩ ⟨w.heap.size + 1, 0, none⟩ ((w.alloc (.cells #[.string p] 9)).alloc (.cells #[.string nm] 9)) (by omega) (by omega) (fun s t => sw_le _ _)
      (fun W s hW hs => manyF_any p _ s W ((hW.cell (p := ⟨w.heap.size, 0, none⟩) (by show w.heap.size < _; omega)).trans c1) (by omega))
      (fun W s t hW hV hs _ ht => (oneF_any p nm _ _ s t W ((hW.cell (p := ⟨w.heap.size, 0, none⟩) (by show w.heap.size < _; omega)).trans c1) ((hW.cell (p := ⟨w.heap.size + 1, 0, none⟩) (by show w.heap.size + 1 < _; omega)).trans c2) (by omega) (by omega) (by omega) hV.2).mono fun e w' h => ⟨h.1, h.2.below⟩)
    rw [matchB_eq hL, hlp, hln] at h
    exact h.mono fun e w' h => ⟨h.1, hB0.trans (h.2.mono (by omega))⟩
  clear hB0 hsz hL
  go_enter Tryz.func140, Tryz.ntmps140
  go_wp2_with (go_at_call 141; refine C.mono ?_; rintro e w' ⟨rfl, hb⟩)
  go_ret
  exact ⟨rfl, hb⟩
end Go.Proofs.YtpngnhpnjkepjaaGreatDoor
namespace Go.Proofs.YtpngnhpnjkepjaaGreatDoor
open Go.RowKit

set_option maxHeartbeats 1000000 in
set_option maxRecDepth 100000 in
theorem manyN_any (v : Value) (L : List ByteArray) (a : Addr) (s : Nat) (w : World) (hv : HasT w v L) (hc : w.cell? a = some v) (hs : s < L.length) :
    Calls Tryz.prog 138 #[.int .i64 s, .pointer (some a)] w fun e w' => e = .returned (.bool ((L.map tl)[s]? == some [42, 42])) ∧ w' = w := by
  obtain ⟨x, hx⟩ : ∃ x, L[s]? = some x := ⟨_, List.getElem?_eq_getElem hs⟩
  have hB : ((L.map tl)[s]? == some [42, 42]) = (x.toList == [42, 42]) := by simp [hx]
  rw [hB]
  obtain ⟨a0, cap, hv, hca⟩ := hv.at hx
  subst hv
  have iS : (s : Int) < (L.length : Int) := by omega
  clear hB
  go_enter Tryz.func138, Tryz.ntmps138
  go_wp2
  go_ret
  exact ⟨rfl, rfl⟩
set_option maxHeartbeats 1000000 in
set_option maxRecDepth 100000 in
theorem oneN_any (v u : Value) (L M : List ByteArray) (a b : Addr) (s t : Nat) (w : World) (hv : HasT w v L) (hu : HasT w u M) (hc : w.cell? a = some v) (hd : w.cell? b = some u) (hs : s < L.length) (ht : t < M.length)
    (hL : ∀ x ∈ L, x.size ≤ 1048576 ∧ ∃ K, signsOf (tl x) = some K) (hM : ∀ x ∈ M, x.size ≤ 1048576) :
    Calls Tryz.prog 139 #[.int .i64 s, .int .i64 t, .pointer (some a), .pointer (some b)] w fun e w' => e = .returned (.int .i64 ((if matchB ((L.map tl)[s]?.getD []) ((M.map tl)[t]?.getD []) then 1 else 0 : Nat))) ∧ Below w.heap.size w w' := by
  obtain ⟨x, hx⟩ : ∃ x, L[s]? = some x := ⟨_, List.getElem?_eq_getElem hs⟩
  obtain ⟨y, hy⟩ : ∃ y, M[t]? = some y := ⟨_, List.getElem?_eq_getElem ht⟩
  have ex : (L.map tl)[s]?.getD [] = tl x := by simp [hx]
  have ey : (M.map tl)[t]?.getD [] = tl y := by simp [hy]
  rw [ex, ey]
  obtain ⟨hxs, K, hK⟩ := hL x (List.mem_of_getElem? hx)
  have hys := hM y (List.mem_of_getElem? hy)
  have C := fun W => matchName_any x y W hxs hys K hK
  obtain ⟨a0, cap, hv, hca⟩ := hv.at hx
  obtain ⟨b0, cap2, hu, hcb⟩ := hu.at hy
  subst hv hu
  have iS : (s : Int) < (L.length : Int) := by omega
  have iT : (t : Int) < (M.length : Int) := by omega
  clear hL hM hK ex ey hx hy
  generalize matchB (tl x) (tl y) = q at *
  go_enter Tryz.func139, Tryz.ntmps139
  go_wp2_with fail
  go_region_with (go_at_call 140; refine (C _).mono ?_; rintro e w1 ⟨rfl, b1⟩)
  all_goals
    have B1 : Hid (Below w.heap.size w w1) := Below.trans (⟨rfl, rfl, rfl, Nat.le_refl _, fun _ _ => rfl⟩ : Below w.heap.size w w.drew) b1
    clear b1 C hca hcb hc hd hv hu
    cases q with
    | true =>
      go_wp2
      go_ret
      exact ⟨rfl, B1.out⟩
    | false =>
      go_wp2
      go_ret
      exact ⟨rfl, B1.out⟩

set_option maxHeartbeats 1000000 in
set_option maxRecDepth 100000 in
theorem matchNames_any (v u : Value) (L M : List ByteArray) (w : World) (hv : HasT w v L) (hu : HasT w u M) (hLn : L.length ≤ 1048577) (hMn : M.length ≤ 1048577)
    (hL : ∀ x ∈ L, x.size ≤ 1048576 ∧ ∃ K, signsOf (tl x) = some K) (hM : ∀ x ∈ M, x.size ≤ 1048576) :
    Calls Tryz.prog 88 #[v, u] w fun e w' => e = .returned (.bool (matchN (L.map tl) (M.map tl))) ∧ Below w.heap.size w w' := by
  have hmf : ∀ (fn : Fn) (first cap : Array Value) (w : World), (Instr.makeFunc fn first cap).run Tryz.prog w = .ok (.func fn first cap) w := fun _ _ _ _ => rfl
  obtain ⟨ao, cap, rfl, _⟩ := hv.form
  obtain ⟨bo, cap2, rfl, _⟩ := hu.form
  obtain ⟨c1, c2⟩ := box2 w (.slice ao L.length cap) (.slice bo M.length cap2) 54 54
  have hB0 : Below w.heap.size w ((w.alloc (.cells #[.slice ao L.length cap] 54)).alloc (.cells #[.slice bo M.length cap2] 54)) := ((Below.refl _ w).alloc (Nat.le_refl _) _).alloc (by simp) _
  have hsz : ((w.alloc (.cells #[.slice ao L.length cap] 54)).alloc (.cells #[.slice bo M.length cap2] 54)).heap.size = w.heap.size + 2 := by simp
  have C : Calls Tryz.prog 141 #[.int .i64 (L.length : Nat), .int .i64 (M.length : Nat), .func (.func 138) #[] #[.pointer (some ⟨w.heap.size, 0, none⟩)], .func (.func 139) #[] #[.pointer (some ⟨w.heap.size, 0, none⟩), .pointer (some ⟨w.heap.size + 1, 0, none⟩)]] ((w.alloc (.cells #[.slice ao L.length cap] 54)).alloc (.cells #[.slice bo M.length cap2] 54))
      fun e w' => e = .returned (.bool (matchN (L.map tl) (M.map tl))) ∧ Below w.heap.size w w' := by
    have h : Calls Tryz.prog 141 #[.int .i64 ((L.map tl).length : Nat), .int .i64 ((M.map tl).length : Nat), .func (.func 138) #[] #[.pointer (some ⟨w.heap.size, 0, none⟩)], .func (.func 139) #[] #[.pointer (some ⟨w.heap.size, 0, none⟩), .pointer (some ⟨w.heap.size + 1, 0, none⟩)]] ((w.alloc (.cells #[.slice ao L.length cap] 54)).alloc (.cells #[.slice bo M.length cap2] 54))
      fun e w' => e = .returned (.bool (matchN (L.map tl) (M.map tl))) ∧ Below ((w.alloc (.cells #[.slice ao L.length cap] 54)).alloc (.cells #[.slice bo M.length cap2] 54)).heap.size ((w.alloc (.cells #[.slice ao L.length cap] 54)).alloc (.cells #[.slice bo M.length cap2] 54)) w' := made54_any (nameSigns (L.map tl) (M.map tl)) ⟨w.heap.size, 0, none⟩ ⟨w.heap.size + 1, 0, none⟩ ((w.alloc (.cells #[.slice ao L.length cap] 54)).alloc (.cells #[.slice bo M.length cap2] 54)) (by rw [List.length_map]; omega) (by rw [List.length_map]; omega) (fun s t => by show (if _ then 1 else 0) ≤ 2; split <;> omega)
      (fun W s hW hs => manyN_any _ L _ s W (hv.below (hB0.trans (hW.mono (by omega)))) ((hW.cell (p := ⟨w.heap.size, 0, none⟩) (by show w.heap.size < _; omega)).trans c1) (by rw [List.length_map] at hs; exact hs))
      (fun W s t hW hV hs _ ht => oneN_any _ _ L M _ _ s t W (hv.below (hB0.trans (hW.mono (by omega)))) (hu.below (hB0.trans (hW.mono (by omega)))) ((hW.cell (p := ⟨w.heap.size, 0, none⟩) (by show w.heap.size < _; omega)).trans c1) ((hW.cell (p := ⟨w.heap.size + 1, 0, none⟩) (by show w.heap.size + 1 < _; omega)).trans c2) (by rw [List.length_map] at hs; exact hs) (by rw [List.length_map] at ht; exact ht) hL hM)
    rw [List.length_map, List.length_map] at h
    exact h.mono fun e w' h => ⟨h.1, hB0.trans (h.2.mono (by omega))⟩
  clear hB0 hsz hL hM
  go_enter Tryz.func88, Tryz.ntmps88
  go_wp2_with (go_at_call 141; refine C.mono ?_; rintro e w' ⟨rfl, hb⟩)
  go_ret
  exact ⟨rfl, hb⟩
end Go.Proofs.YtpngnhpnjkepjaaGreatDoor
