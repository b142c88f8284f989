/-
  (*Reader).Raw: by the door; the fault of one reading.
-/
import Derived.Test.YthpelabmfpogbaaGreatDoorSmall
namespace Go.Proofs.YthpelabmfpogbaaGreatDoor
open Go.RowKit Wire

def rawS (l : List Int) (s : St) (n : Int) : St :=
  if s.fe ≠ 0 then s else if l.length < s.p + n.toNat then ⟨s.p, l.length, 10⟩ else ⟨s.p + n.toNat, s.fa, s.fe⟩

theorem RdS.moved2 {w : World} {lo R : Nat} {l : List Int} {p : Nat} {fa fe : Int} {v : Value} (hh : w.heap[R]? = some (.cells #[v, .int .i64 p, .int .i64 fa, .string ⟨#[]⟩, .int .i64 fe] 77 (0, 0))) (ho : Owns w lo v l) (hk : ∀ k, v.ownBlock = some k → k < R) (hl : lo ≤ R) (hn : l.length ≤ 1048576)
    (o : Obj) (x : Int) (p' : Nat) (hx : x = p') (hp : p' ≤ l.length) :
    RdS ((w.setCell ⟨R, 1, none⟩ (.int .i64 x)).alloc o).drew lo R l ⟨p', fa, fe⟩ ∧ w.grownBy ((w.setCell ⟨R, 1, none⟩ (.int .i64 x)).alloc o).drew (some R) ∧ Has ((w.setCell ⟨R, 1, none⟩ (.int .i64 x)).alloc o).drew v l := by
  have hlt : R < w.heap.size := (Array.getElem?_eq_some_iff.1 hh).1
  have hg : w.grownBy ((w.setCell ⟨R, 1, none⟩ (.int .i64 x)).alloc o).drew (some R) := grown_drew (grown_trans (grown_setCell _ _ _ _) (World.grownBy_alloc _ _ _))
  have hO : Owns ((w.setCell ⟨R, 1, none⟩ (.int .i64 x)).alloc o).drew lo v l := ho.block fun k e => hg.block k (ho.lt k e).2 (fun e' => by
    have := hk k e
    simp at e'; omega)
  refine ⟨⟨v, ?_, hO, hk, hl, hp, hn⟩, hg, hO.has⟩
  have h2 := heap_setCell_at (o := 1) (.int .i64 x) hh
  show ((w.setCell ⟨R, 1, none⟩ (.int .i64 x)).alloc o).heap[R]? = _
  rw [Below.heap_alloc _ _ _ (by simpa [World.setCell] using hlt), h2, hx]
  rfl

theorem cell_new_set (w : World) (a : Addr) (x c : Value) (T : TypeId) : (((w.setCell a x).alloc (.cells #[c] T)).drew).cell? ⟨w.heap.size, 0, none⟩ = some c := by
  have h := heap_alloc_new (w.setCell a x) (.cells #[c] T)
  have hs : (w.setCell a x).heap.size = w.heap.size := by simp [World.setCell]
  rw [hs] at h
  show (((w.setCell a x).alloc (.cells #[c] T))).cell? ⟨w.heap.size, 0, none⟩ = some c
  simp only [World.cell?, h]; rfl

set_option maxHeartbeats 1600000 in
set_option maxRecDepth 100000 in
theorem raw_go (lo R : Nat) (n : Int) (l : List Int) (p : Nat) (fa : Int) (w : World) (hr : RdS w lo R l ⟨p, fa, 0⟩) (hn : -9223372036854775808 ≤ n ∧ n ≤ 9223372036854775807) :
    Calls Tryz.prog 65 #[.pointer (some ⟨R, 0, none⟩), .int .i64 n] w fun e w' => ∃ v, e = .returned v ∧ RdS w' lo R l (rawS l ⟨p, fa, 0⟩ n) ∧ w.grownBy w' (some R) := by
  obtain ⟨v, hh, ho, hk, hl, hp, hn'⟩ := hr
  obtain ⟨ao, cap, hv, hcap, hat⟩ := ownAt ho
  subst hv
  simp only at hh hp
  obtain ⟨h0, h1, h2, h3, h4, hfz⟩ := cells_of hh
  have hlt : R < w.heap.size := (Array.getElem?_eq_some_iff.1 hh).1
  have HH : Hid (w.heap[R]? = some (.cells #[.slice ao l.length cap, .int .i64 p, .int .i64 fa, .string ⟨#[]⟩, .int .i64 0] 77 (0, 0))) := hh
  have HO : Hid (Owns w lo (.slice ao l.length cap) l) := ho
  have HK : Hid (∀ k, (Value.slice ao l.length cap).ownBlock = some k → k < R) := hk
  have HC0 : Hid (∀ (w' : World), Below w.heap.size w w' → w'.cell? ⟨R, 0, none⟩ = some (.slice ao l.length cap)) := fun w' hb => (hb.cell hlt).trans h0
  clear hh ho hk h2 h3 hat
  have hmf' := hmf
  have hc1 : ∀ (o : Obj), (w.alloc o).cell? ⟨R, 1, none⟩ = some (.int .i64 p) := fun o => by rw [World.cell?_alloc_past _ _ _ hlt]; exact h1
  obtain ⟨m, hm⟩ : ∃ m : Nat, m = n.toNat := ⟨_, rfl⟩
  have hmx : ∀ (w : World) (ts : Array TypeId) (t : TypeId), (Builtin.max_ ts t #[.int .i64 n, .int .i64 0]).run Tryz.prog w = .ok (.int .i64 m) w := fun w ts t => by
    have h := run_max_int2 (P := Tryz.prog) w ts t .i64 .i64 n 0
    rw [h]
    by_cases hneg : n < 0
    · rw [if_pos (by omega), show (0 : Int) = (m : Int) by omega]
    · rw [if_neg (by omega), show n = (m : Int) by omega]
  have hm63 : (m : Int) ≤ 9223372036854775807 := by omega
  by_cases hlen : l.length < p + m
  · have e1 : rawS l ⟨p, fa, 0⟩ n = ⟨p, l.length, 10⟩ := by simp [rawS, ← hm, hlen]
    rw [e1]
    clear e1 hm
    go_enter_defers Tryz.func65, Tryz.ntmps65
    go_wp2_with (go_at_call 90; refine (failed_any R 0 _ (by simp [World.cell?_alloc_past _ _ _ hlt, h4])).mono ?_; rintro e w1 ⟨rfl, rfl⟩)
    refine wp_region_still_tail 7 Tryz.mixed (by kernel_rfl) ?_
    change wpStill _ _ (World.drew _) (fun a' => wpList _ _ _ _ a' (World.drew _)) _ _
    simp only [List.take_succ_cons, List.take_zero, List.drop_succ_cons, List.drop_zero]
    repeat still_step
    refine wpStill_nil ?_
    go_wp2_with (go_at_call 100; refine (part_out R p m ao l.length cap _ (HC0.out _ (by exact door_below w _)) hn' hp (by omega) hm63).mono ?_; rintro e w1 ⟨rfl, rfl⟩)
    refine leaves_cons (f := 101) (args := #[.pointer (some ⟨w.heap.size, 0, none⟩)]) (by simp) (by simp [go_sem]) ?_
    refine (catch43_flt w.heap.size R _ l.length 10 [] _ _ _ _ _ (by simp) (((door_below w _).block R hlt).trans HH.out)).mono ?_
    rintro e u' w'' ⟨rfl, rfl, hr2, hg2⟩
    obtain ⟨Z1, Z2⟩ := RdS.noted HO.out HK.out hl hp hn' (door_below w _) hr2 hg2 HH.out
    exact ⟨_, results_tmp rfl _ _ _, _, rfl, Z1, Z2⟩
  · have e1 : rawS l ⟨p, fa, 0⟩ n = ⟨p + m, fa, 0⟩ := by simp [rawS, ← hm, hlen]
    rw [e1]
    clear e1 hm
    go_enter_defers Tryz.func65, Tryz.ntmps65
    go_wp2_with (go_at_call 90; refine (failed_any R 0 _ (by simp [World.cell?_alloc_past _ _ _ hlt, h4])).mono ?_; rintro e w1 ⟨rfl, rfl⟩)
    refine wp_region_still_tail 7 Tryz.mixed (by kernel_rfl) ?_
    change wpStill _ _ (World.drew _) (fun a' => wpList _ _ _ _ a' (World.drew _)) _ _
    simp only [List.take_succ_cons, List.take_zero, List.drop_succ_cons, List.drop_zero]
    repeat still_step
    refine wpStill_nil ?_
    go_wp2_with (go_at_call 100; refine (part_in R p m ao cap l _ (HC0.out _ (by exact door_below w _)) hn' hcap (by omega)).mono ?_; rintro e w1 ⟨ao', cp', rfl, rfl, hpart⟩)
    obtain ⟨Z1, Z2, Z3⟩ := RdS.moved2 HH.out HO.out HK.out hl hn' (Obj.cells #[Value.pointer (some { block := R, off := 0 })] 58) ((p : Int) + m) (p + m) (by simp) (by omega)
    have Z4 : (((w.setCell { block := R, off := 1 } (Value.int IntKind.i64 ((p : Int) + m))).alloc (Obj.cells #[Value.pointer (some { block := R, off := 0 })] 58)).drew).cell? ⟨w.heap.size, 0, none⟩ = some (.pointer (some ⟨R, 0, none⟩)) := cell_new_set _ _ _ _ _
    have Z5 : w.heap.size < (((w.setCell { block := R, off := 1 } (Value.int IntKind.i64 ((p : Int) + m))).alloc (Obj.cells #[Value.pointer (some { block := R, off := 0 })] 58)).drew).heap.size := by simp
    have hlen2 : ((l.drop p).take m).length ≤ 1048576 := by simp; omega
    refine (clone_any _ _ _ (hpart _ Z3) hlen2).mono ?_
    rintro e w2 ⟨v2, rfl, _, hb2⟩
    have Z6 := Z1.grown hb2
    have Z7 := grown_trans Z2 (grown_below (some R) hb2)
    have Z8 := (hb2.cell (p := ⟨w.heap.size, 0, none⟩) Z5).trans Z4
    clear Z1 Z2 Z3 Z4 Z5 hpart hb2
    go_wp2
    refine leaves_cons (f := 101) (args := #[.pointer (some ⟨w.heap.size, 0, none⟩)]) (by simp) (by simp [go_sem]) ?_
    refine (catch43_idle w.heap.size R _ Z8).mono ?_
    rintro e u' w'' ⟨rfl, rfl, rfl⟩
    exact ⟨_, results_tmp rfl _ _ _, _, rfl, Z6.grown (Below.drew (Below.refl _ _)), grown_drew Z7⟩

set_option maxHeartbeats 1600000 in
set_option maxRecDepth 100000 in
theorem raw_fault (lo R : Nat) (n : Int) (l : List Int) (s : St) (w : World) (hr : RdS w lo R l s) (hf : s.fe ≠ 0) :
    Calls Tryz.prog 65 #[.pointer (some ⟨R, 0, none⟩), .int .i64 n] w fun e w' => ∃ v, e = .returned v ∧ RdS w' lo R l s ∧ w.grownBy w' (some R) := by
  have HR : Hid (RdS w lo R l s) := hr
  obtain ⟨v, hh, ho, hk, hl, hp, hn⟩ := hr
  obtain ⟨h0, h1, h2, h3, h4, hfz⟩ := cells_of hh
  have hlt : R < w.heap.size := (Array.getElem?_eq_some_iff.1 hh).1
  have hfb : (s.fe != 0) = true := by simpa using hf
  clear hh ho hk h0 h1 h2 h3 hfz
  have hmf' := hmf
  go_enter_defers Tryz.func65, Tryz.ntmps65
  go_wp2_with (go_at_call 90; refine (failed_any R s.fe _ (by simp [World.cell?_alloc_past _ _ _ hlt, h4])).mono ?_; rintro e w1 ⟨rfl, rfl⟩)
  refine leaves_cons (f := 101) (args := #[.pointer (some ⟨w.heap.size, 0, none⟩)]) (by simp) (by simp [go_sem]) ?_
  refine (catch43_idle w.heap.size R _ (by simp)).mono ?_
  rintro e u' w'' ⟨rfl, rfl, rfl⟩
  exact ⟨_, results_tmp rfl _ _ _, _, rfl, HR.out.grown (door_below _ _), grown_below _ (door_below _ _)⟩

/-! ### The fault of one reading -/

/-- The state behind one reading of a new reader: kind 1 Byte, 2 Uint, 3 Text, 4 Raw(n); any other: none. -/
def oneS (l : List Int) (kind n : Int) : St :=
  if kind = 1 then (byteS l ⟨0, 0, 0⟩).2 else if kind = 2 then (uintS l ⟨0, 0, 0⟩ 18446744073709551615).2 else if kind = 3 then (textS l ⟨0, 0, 0⟩ 4611686018427387904).2 else if kind = 4 then rawS l ⟨0, 0, 0⟩ n else ⟨0, 0, 0⟩

/-- (*Reader).Err and told. -/
theorem err_told (lo R : Nat) (l : List Int) (s : St) (w : World) (hr : RdS w lo R l s) :
    Calls Tryz.prog 56 #[.pointer (some ⟨R, 0, none⟩)] w fun e w' => ∃ ev, e = .returned ev ∧ Below w.heap.size w w' ∧
      Calls Tryz.prog 55 #[ev] w' fun x w2 => x = .returned (.tuple #[.int .i64 (if s.fe = 0 then 0 else s.fa), .int .i64 s.fe, .bool true]) ∧ Below w.heap.size w w2 := by
  by_cases hf : s.fe = 0
  · obtain ⟨p, fa, fe⟩ := s
    simp only at hf
    subst hf
    refine (err_none lo R l p fa w hr).mono ?_
    rintro e w' ⟨rfl, rfl⟩
    refine ⟨_, rfl, Below.refl _ _, (told_nil _).mono ?_⟩
    rintro x w2 ⟨rfl, rfl⟩
    exact ⟨by simp, Below.refl _ _⟩
  · refine (err_some lo R l s w hr hf).mono ?_
    rintro e w' ⟨rfl, rfl⟩
    have hb : Below w.heap.size w (w.alloc (.cells #[.int .i64 s.fa, .string ⟨#[]⟩, .int .i64 s.fe] 75)) := (Below.refl _ _).alloc (Nat.le_refl _) _
    refine ⟨_, rfl, hb, (told_some _ s.fa s.fe _ (by simp) (by simp) (by simp) hf).mono ?_⟩
    rintro x w2 ⟨rfl, n2, rfl⟩
    exact ⟨by rw [if_neg hf], hb.trans ⟨rfl, rfl, rfl, Nat.le_refl _, fun _ _ => rfl⟩⟩
end Go.Proofs.YthpelabmfpogbaaGreatDoor
