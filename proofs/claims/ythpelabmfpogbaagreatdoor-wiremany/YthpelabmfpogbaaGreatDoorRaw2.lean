/-
  (*Reader).Raw: what it answers, in a row of its own.
-/
import Derived.Test.YthpelabmfpogbaaGreatDoorRaw
namespace Go.Proofs.YthpelabmfpogbaaGreatDoor
open Go.RowKit Wire

def rawB (l : List Int) (s : St) (n : Int) : List Int := if s.fe ≠ 0 then [] else if l.length < s.p + n.toNat then [] else (l.drop s.p).take n.toNat

set_option maxHeartbeats 1600000 in
set_option maxRecDepth 100000 in
theorem rawO_go (lo R : Nat) (n : Int) (l : List Int) (p : Nat) (fa : Int) (w : World) (hr : RdS w lo R l ⟨p, fa, 0⟩) (hn : -9223372036854775808 ≤ n ∧ n ≤ 9223372036854775807) :
    Calls Tryz.prog 65 #[.pointer (some ⟨R, 0, none⟩), .int .i64 n] w fun e w' => ∃ v, e = .returned v ∧ RdS w' lo R l (rawS l ⟨p, fa, 0⟩ n) ∧ w.grownBy w' (some R) ∧ Owns w' w.heap.size v (rawB l ⟨p, fa, 0⟩ n) := by
  obtain ⟨v, hh, ho, hk, hl, hp, hn'⟩ := hr
  obtain ⟨ao, cap, hv, hcap, hat⟩ := ownAt ho
  subst hv
  simp only at hh hp
  obtain ⟨h0, h1, h2, h3, h4, hfz⟩ := cells_of hh
  have hlt : R < w.heap.size := (Array.getElem?_eq_some_iff.1 hh).1
  have HH : Hid (w.heap[R]? = some (.cells #[.slice ao l.length cap, .int .i64 p, .int .i64 fa, .string ⟨#[]⟩, .int .i64 0] 77 (0, 0))) := hh
  have HO : Hid (Owns w lo (.slice ao l.length cap) l) := ho
  have HK : Hid (∀ k, (Value.slice ao l.length cap).ownBlock = some k → k < R) := hk
  have HC0 : Hid (∀ (w' : World), Below w.heap.size w w' → w'.cell? ⟨R, 0, none⟩ = some (.slice ao l.length cap)) := fun w' hb => (hb.cell hlt).trans h0
  clear hh ho hk h2 h3 hat
  have hmf' := hmf
  have hc1 : ∀ (o : Obj), (w.alloc o).cell? ⟨R, 1, none⟩ = some (.int .i64 p) := fun o => by rw [World.cell?_alloc_past _ _ _ hlt]; exact h1
  obtain ⟨m, hm⟩ : ∃ m : Nat, m = n.toNat := ⟨_, rfl⟩
  have hmx : ∀ (w : World) (ts : Array TypeId) (t : TypeId), (Builtin.max_ ts t #[.int .i64 n, .int .i64 0]).run Tryz.prog w = .ok (.int .i64 m) w := fun w ts t => by
    have h := run_max_int2 (P := Tryz.prog) w ts t .i64 .i64 n 0
    rw [h]
    by_cases hneg : n < 0
    · rw [if_pos (by omega), show (0 : Int) = (m : Int) by omega]
    · rw [if_neg (by omega), show n = (m : Int) by omega]
  have hm63 : (m : Int) ≤ 9223372036854775807 := by omega
  by_cases hlen : l.length < p + m
  · have e1 : rawS l ⟨p, fa, 0⟩ n = ⟨p, l.length, 10⟩ := by simp [rawS, ← hm, hlen]
    have e2 : rawB l ⟨p, fa, 0⟩ n = [] := by simp [rawB, ← hm, hlen]
    rw [e1, e2]
    clear e1 e2 hm
    go_enter_defers Tryz.func65, Tryz.ntmps65
    go_wp2_with (go_at_call 90; refine (failed_any R 0 _ (by simp [World.cell?_alloc_past _ _ _ hlt, h4])).mono ?_; rintro e w1 ⟨rfl, rfl⟩)
    refine wp_region_still_tail 7 Tryz.mixed (by kernel_rfl) ?_
    change wpStill _ _ (World.drew _) (fun a' => wpList _ _ _ _ a' (World.drew _)) _ _
    simp only [List.take_succ_cons, List.take_zero, List.drop_succ_cons, List.drop_zero]
    repeat still_step
    refine wpStill_nil ?_
    go_wp2_with (go_at_call 100; refine (part_out R p m ao l.length cap _ (HC0.out _ (by exact door_below w _)) hn' hp (by omega) hm63).mono ?_; rintro e w1 ⟨rfl, rfl⟩)
    refine leaves_cons (f := 101) (args := #[.pointer (some ⟨w.heap.size, 0, none⟩)]) (by simp) (by simp [go_sem]) ?_
    refine (catch43_flt w.heap.size R _ l.length 10 [] _ _ _ _ _ (by simp) (((door_below w _).block R hlt).trans HH.out)).mono ?_
    rintro e u' w'' ⟨rfl, rfl, hr2, hg2⟩
    obtain ⟨Z1, Z2⟩ := RdS.noted HO.out HK.out hl hp hn' (door_below w _) hr2 hg2 HH.out
    exact ⟨_, results_tmp rfl _ _ _, _, rfl, Z1, Z2, Owns.nil _ _⟩
  · have e1 : rawS l ⟨p, fa, 0⟩ n = ⟨p + m, fa, 0⟩ := by simp [rawS, ← hm, hlen]
    have e2 : rawB l ⟨p, fa, 0⟩ n = (l.drop p).take m := by simp [rawB, ← hm, hlen]
    rw [e1, e2]
    clear e1 e2 hm
    go_enter_defers Tryz.func65, Tryz.ntmps65
    go_wp2_with (go_at_call 90; refine (failed_any R 0 _ (by simp [World.cell?_alloc_past _ _ _ hlt, h4])).mono ?_; rintro e w1 ⟨rfl, rfl⟩)
    refine wp_region_still_tail 7 Tryz.mixed (by kernel_rfl) ?_
    change wpStill _ _ (World.drew _) (fun a' => wpList _ _ _ _ a' (World.drew _)) _ _
    simp only [List.take_succ_cons, List.take_zero, List.drop_succ_cons, List.drop_zero]
    repeat still_step
    refine wpStill_nil ?_
    go_wp2_with (go_at_call 100; refine (part_in R p m ao cap l _ (HC0.out _ (by exact door_below w _)) hn' hcap (by omega)).mono ?_; rintro e w1 ⟨ao', cp', rfl, rfl, hpart⟩)
    obtain ⟨Z1, Z2, Z3⟩ := RdS.moved2 HH.out HO.out HK.out hl hn' (Obj.cells #[Value.pointer (some { block := R, off := 0 })] 58) ((p : Int) + m) (p + m) (by simp) (by omega)
    have Z4 : (((w.setCell { block := R, off := 1 } (Value.int IntKind.i64 ((p : Int) + m))).alloc (Obj.cells #[Value.pointer (some { block := R, off := 0 })] 58)).drew).cell? ⟨w.heap.size, 0, none⟩ = some (.pointer (some ⟨R, 0, none⟩)) := cell_new_set _ _ _ _ _
    have Z5 : w.heap.size < (((w.setCell { block := R, off := 1 } (Value.int IntKind.i64 ((p : Int) + m))).alloc (Obj.cells #[Value.pointer (some { block := R, off := 0 })] 58)).drew).heap.size := by simp
    have hlen2 : ((l.drop p).take m).length ≤ 1048576 := by simp; omega
    refine (clone_any _ _ _ (hpart _ Z3) hlen2).mono ?_
    rintro e w2 ⟨v2, rfl, ho2, hb2⟩
    have HO2 : Hid (Owns w2 w.heap.size v2 ((l.drop p).take m)) := ho2.mono (by simp)
    clear ho2
    have Z6 := Z1.grown hb2
    have Z7 := grown_trans Z2 (grown_below (some R) hb2)
    have Z8 := (hb2.cell (p := ⟨w.heap.size, 0, none⟩) Z5).trans Z4
    clear Z1 Z2 Z3 Z4 Z5 hpart hb2
    go_wp2
    refine leaves_cons (f := 101) (args := #[.pointer (some ⟨w.heap.size, 0, none⟩)]) (by simp) (by simp [go_sem]) ?_
    refine (catch43_idle w.heap.size R _ Z8).mono ?_
    rintro e u' w'' ⟨rfl, rfl, rfl⟩
    exact ⟨_, results_tmp rfl _ _ _, _, rfl, Z6.grown (Below.drew (Below.refl _ _)), grown_drew Z7, Owns.block (w' := w2.drew) HO2.out fun _ _ => rfl⟩

set_option maxHeartbeats 1600000 in
set_option maxRecDepth 100000 in
theorem rawO_fault (lo R : Nat) (n : Int) (l : List Int) (s : St) (w : World) (hr : RdS w lo R l s) (hf : s.fe ≠ 0) :
    Calls Tryz.prog 65 #[.pointer (some ⟨R, 0, none⟩), .int .i64 n] w fun e w' => ∃ v, e = .returned v ∧ RdS w' lo R l s ∧ w.grownBy w' (some R) ∧ Owns w' w.heap.size v [] := by
  have HR : Hid (RdS w lo R l s) := hr
  obtain ⟨v, hh, ho, hk, hl, hp, hn⟩ := hr
  obtain ⟨h0, h1, h2, h3, h4, hfz⟩ := cells_of hh
  have hlt : R < w.heap.size := (Array.getElem?_eq_some_iff.1 hh).1
  have hfb : (s.fe != 0) = true := by simpa using hf
  clear hh ho hk h0 h1 h2 h3 hfz
  have hmf' := hmf
  go_enter_defers Tryz.func65, Tryz.ntmps65
  go_wp2_with (go_at_call 90; refine (failed_any R s.fe _ (by simp [World.cell?_alloc_past _ _ _ hlt, h4])).mono ?_; rintro e w1 ⟨rfl, rfl⟩)
  refine leaves_cons (f := 101) (args := #[.pointer (some ⟨w.heap.size, 0, none⟩)]) (by simp) (by simp [go_sem]) ?_
  refine (catch43_idle w.heap.size R _ (by simp)).mono ?_
  rintro e u' w'' ⟨rfl, rfl, rfl⟩
  exact ⟨_, results_tmp rfl _ _ _, _, rfl, HR.out.grown (door_below _ _), grown_below _ (door_below _ _), Owns.nil _ _⟩


theorem rawO_any (lo R : Nat) (n : Int) (l : List Int) (s : St) (w : World) (hr : RdS w lo R l s) (hn : -9223372036854775808 ≤ n ∧ n ≤ 9223372036854775807) :
    Calls Tryz.prog 65 #[.pointer (some ⟨R, 0, none⟩), .int .i64 n] w fun e w' => ∃ v, e = .returned v ∧ RdS w' lo R l (rawS l s n) ∧ w.grownBy w' (some R) ∧ Owns w' w.heap.size v (rawB l s n) := by
  by_cases hf : s.fe = 0
  · obtain ⟨p, fa, fe⟩ := s
    simp only at hf
    subst hf
    exact rawO_go lo R n l p fa w hr hn
  · have e1 : rawS l s n = s := by simp [rawS, hf]
    have e2 : rawB l s n = [] := by simp [rawB, hf]
    rw [e1, e2]
    exact rawO_fault lo R n l s w hr hf
end Go.Proofs.YthpelabmfpogbaaGreatDoor
