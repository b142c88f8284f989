/-
  path.matchNames by contract.
-/
import Derived.Test.YtpngnhpnjkepjaaDoorName
import Derived.Test.YtpngnhpnjkepjaaDoorMade2
import Derived.Deep.RegionWith
namespace Go.Proofs.YtpngnhpnjkepjaaDoor
open Go.RowKit

set_option maxHeartbeats 1000000 in
set_option maxRecDepth 100000 in
theorem manyN_any (v : Value) (L : List ByteArray) (a : Addr) (s : Nat) (w : World) (hv : HasT w v L) (hc : w.cell? a = some v) (hs : s < L.length) :
    Calls Tryd.prog 87 #[.int .i64 s, .pointer (some a)] w fun e w' => e = .returned (.bool ((L.map tl)[s]? == some [42, 42])) ∧ w' = w := by
  obtain ⟨x, hx⟩ : ∃ x, L[s]? = some x := ⟨_, List.getElem?_eq_getElem hs⟩
  have hB : ((L.map tl)[s]? == some [42, 42]) = (x.toList == [42, 42]) := by simp [hx]
  rw [hB]
  obtain ⟨a0, cap, hv, hca⟩ := hv.at hx
  subst hv
  have iS : (s : Int) < (L.length : Int) := by omega
  clear hB
  go_enter Tryd.func87, Tryd.ntmps87
  go_wp2
  go_ret
  exact ⟨rfl, rfl⟩
set_option maxHeartbeats 1000000 in
set_option maxRecDepth 100000 in
theorem oneN_any (v u : Value) (L M : List ByteArray) (a b : Addr) (s t : Nat) (w : World) (hv : HasT w v L) (hu : HasT w u M) (hc : w.cell? a = some v) (hd : w.cell? b = some u) (hs : s < L.length) (ht : t < M.length)
    (hL : ∀ x ∈ L, x.size ≤ 1048576 ∧ ∃ K, signsOf (tl x) = some K) (hM : ∀ x ∈ M, x.size ≤ 1048576) :
    Calls Tryd.prog 88 #[.int .i64 s, .int .i64 t, .pointer (some a), .pointer (some b)] w fun e w' => e = .returned (.int .i64 ((if matchB ((L.map tl)[s]?.getD []) ((M.map tl)[t]?.getD []) then 1 else 0 : Nat))) ∧ Below w.heap.size w w' := by
  obtain ⟨x, hx⟩ : ∃ x, L[s]? = some x := ⟨_, List.getElem?_eq_getElem hs⟩
  obtain ⟨y, hy⟩ : ∃ y, M[t]? = some y := ⟨_, List.getElem?_eq_getElem ht⟩
  have ex : (L.map tl)[s]?.getD [] = tl x := by simp [hx]
  have ey : (M.map tl)[t]?.getD [] = tl y := by simp [hy]
  rw [ex, ey]
  obtain ⟨hxs, K, hK⟩ := hL x (List.mem_of_getElem? hx)
  have hys := hM y (List.mem_of_getElem? hy)
  have C := fun W => matchName_any x y W hxs hys K hK
  obtain ⟨a0, cap, hv, hca⟩ := hv.at hx
  obtain ⟨b0, cap2, hu, hcb⟩ := hu.at hy
  subst hv hu
  have iS : (s : Int) < (L.length : Int) := by omega
  have iT : (t : Int) < (M.length : Int) := by omega
  clear hL hM hK ex ey hx hy
  generalize matchB (tl x) (tl y) = q at *
  go_enter Tryd.func88, Tryd.ntmps88
  go_wp2_with fail
  go_region_with (go_at_call 89; refine (C _).mono ?_; rintro e w1 ⟨rfl, b1⟩)
  all_goals
    have B1 : Hid (Below w.heap.size w w1) := Below.trans (⟨rfl, rfl, rfl, Nat.le_refl _, fun _ _ => rfl⟩ : Below w.heap.size w w.drew) b1
    clear b1 C hca hcb hc hd hv hu
    cases q with
    | true =>
      go_wp2
      go_ret
      exact ⟨rfl, B1.out⟩
    | false =>
      go_wp2
      go_ret
      exact ⟨rfl, B1.out⟩

set_option maxHeartbeats 1000000 in
set_option maxRecDepth 100000 in
theorem matchNames_any (v u : Value) (L M : List ByteArray) (w : World) (hv : HasT w v L) (hu : HasT w u M) (hLn : L.length ≤ 1048577) (hMn : M.length ≤ 1048577)
    (hL : ∀ x ∈ L, x.size ≤ 1048576 ∧ ∃ K, signsOf (tl x) = some K) (hM : ∀ x ∈ M, x.size ≤ 1048576) :
    Calls Tryd.prog 71 #[v, u] w fun e w' => e = .returned (.bool (matchN (L.map tl) (M.map tl))) ∧ Below w.heap.size w w' := by
  have hmf : ∀ (fn : Fn) (first cap : Array Value) (w : World), (Instr.makeFunc fn first cap).run Tryd.prog w = .ok (.func fn first cap) w := fun _ _ _ _ => rfl
  obtain ⟨ao, cap, rfl, _⟩ := hv.form
  obtain ⟨bo, cap2, rfl, _⟩ := hu.form
  obtain ⟨c1, c2⟩ := box2 w (.slice ao L.length cap) (.slice bo M.length cap2) 22 22
  have hB0 : Below w.heap.size w ((w.alloc (.cells #[.slice ao L.length cap] 22)).alloc (.cells #[.slice bo M.length cap2] 22)) := ((Below.refl _ w).alloc (Nat.le_refl _) _).alloc (by simp) _
  have hsz : ((w.alloc (.cells #[.slice ao L.length cap] 22)).alloc (.cells #[.slice bo M.length cap2] 22)).heap.size = w.heap.size + 2 := by simp
  have C : Calls Tryd.prog 90 #[.int .i64 (L.length : Nat), .int .i64 (M.length : Nat), .func (.func 87) #[] #[.pointer (some ⟨w.heap.size, 0, none⟩)], .func (.func 88) #[] #[.pointer (some ⟨w.heap.size, 0, none⟩), .pointer (some ⟨w.heap.size + 1, 0, none⟩)]] ((w.alloc (.cells #[.slice ao L.length cap] 22)).alloc (.cells #[.slice bo M.length cap2] 22))
      fun e w' => e = .returned (.bool (matchN (L.map tl) (M.map tl))) ∧ Below w.heap.size w w' := by
    have h : Calls Tryd.prog 90 #[.int .i64 ((L.map tl).length : Nat), .int .i64 ((M.map tl).length : Nat), .func (.func 87) #[] #[.pointer (some ⟨w.heap.size, 0, none⟩)], .func (.func 88) #[] #[.pointer (some ⟨w.heap.size, 0, none⟩), .pointer (some ⟨w.heap.size + 1, 0, none⟩)]] ((w.alloc (.cells #[.slice ao L.length cap] 22)).alloc (.cells #[.slice bo M.length cap2] 22))
      fun e w' => e = .returned (.bool (matchN (L.map tl) (M.map tl))) ∧ Below ((w.alloc (.cells #[.slice ao L.length cap] 22)).alloc (.cells #[.slice bo M.length cap2] 22)).heap.size ((w.alloc (.cells #[.slice ao L.length cap] 22)).alloc (.cells #[.slice bo M.length cap2] 22)) w' := made54_any (nameSigns (L.map tl) (M.map tl)) ⟨w.heap.size, 0, none⟩ ⟨w.heap.size + 1, 0, none⟩ ((w.alloc (.cells #[.slice ao L.length cap] 22)).alloc (.cells #[.slice bo M.length cap2] 22)) (by rw [List.length_map]; omega) (by rw [List.length_map]; omega) (fun s t => by show (if _ then 1 else 0) ≤ 2; split <;> omega)
      (fun W s hW hs => manyN_any _ L _ s W (hv.below (hB0.trans (hW.mono (by omega)))) ((hW.cell (p := ⟨w.heap.size, 0, none⟩) (by show w.heap.size < _; omega)).trans c1) (by rw [List.length_map] at hs; exact hs))
      (fun W s t hW hV hs _ ht => oneN_any _ _ L M _ _ s t W (hv.below (hB0.trans (hW.mono (by omega)))) (hu.below (hB0.trans (hW.mono (by omega)))) ((hW.cell (p := ⟨w.heap.size, 0, none⟩) (by show w.heap.size < _; omega)).trans c1) ((hW.cell (p := ⟨w.heap.size + 1, 0, none⟩) (by show w.heap.size + 1 < _; omega)).trans c2) (by rw [List.length_map] at hs; exact hs) (by rw [List.length_map] at ht; exact ht) hL hM)
    rw [List.length_map, List.length_map] at h
    exact h.mono fun e w' h => ⟨h.1, hB0.trans (h.2.mono (by omega))⟩
  clear hB0 hsz hL hM
  go_enter Tryd.func71, Tryd.ntmps71
  go_wp2_with (go_at_call 90; refine C.mono ?_; rintro e w' ⟨rfl, hb⟩)
  go_ret
  exact ⟨rfl, hb⟩
end Go.Proofs.YtpngnhpnjkepjaaDoor
