/-
  (*Reader).Text: by the door.
-/
import Derived.Test.YthpelabmfpogbaaGreatDoorUint
namespace Go.Proofs.YthpelabmfpogbaaGreatDoor
open Go.RowKit Wire

/-- Bytes as a string. -/
def mkStr (l : List Int) : ByteArray := ⟨(l.map fun c => UInt8.ofNat c.toNat).toArray⟩

theorem mkStr_nil : mkStr [] = ⟨#[]⟩ := by simp [mkStr]

theorem conv_has {w : World} {v : Value} {l : List Int} (h : Has w v l) (hB : Bytes l) : (convert 22 9 v).run Tryz.prog w = .ok (.string (mkStr l)) w := by
  rcases h with ⟨rfl, rfl⟩ | ⟨a, cap, rfl, hc, hcell⟩
  · rw [mkStr_nil]
    exact Go.run_convert_bytes_string w 22 9 5 none 0 0 Tryz.underlying22 Tryz.underlying5 Tryz.underlying9
  · have := run_convert_bytes_back (P := Tryz.prog) w 22 9 5 a cap (l.map fun c => UInt8.ofNat c.toNat) Tryz.underlying22 Tryz.underlying5 Tryz.underlying9 (fun j hj => by
      simp only [List.length_map] at hj
      rw [hcell j hj]
      have hb := hB.at hj
      rw [List.getElem?_eq_getElem hj] at hb
      simp only [Option.getD_some] at hb
      simp only [List.getElem_map, List.getD, List.getElem?_eq_getElem hj, Option.getD_some]
      have e : (UInt8.ofNat (l[j]).toNat).toNat = (l[j]).toNat := by
        rw [UInt8.toNat_ofNat']; omega
      rw [e]
      congr 2; omega)
    simpa [mkStr] using this

theorem moved_has {w : World} {lo R : Nat} {l : List Int} {v : Value} (ho : Owns w lo v l) (hk : ∀ k, v.ownBlock = some k → k < R) (o : Obj) (n : Nat) (x : Value) : Has (((w.alloc o).drewN n).setCell ⟨R, 1, none⟩ x) v l := by
  have h1 := ho.below (door_belowN w o n) (Nat.le_refl _)
  exact (h1.block fun k e => Below.heap_setCell _ ⟨R, 1, none⟩ x k (by have := hk k e; simp; omega)).has

def textS (l : List Int) (s : St) (most : Int) : List Int × St :=
  if s.fe ≠ 0 then ([], s) else match rd 0 (l.drop s.p) with
  | .ok n k => if most < n then ([], ⟨s.p, s.p, 12⟩) else if l.length < s.p + k + n then ([], ⟨s.p, l.length, 10⟩) else ((l.drop (s.p + k)).take n, ⟨s.p + k + n, s.fa, s.fe⟩)
  | .form i => ([], ⟨s.p, (s.p + i : Nat), 11⟩)
  | .short => ([], ⟨s.p, l.length, 10⟩)

set_option maxHeartbeats 800000 in
set_option maxRecDepth 100000 in
theorem text_fault (lo R : Nat) (most : Int) (l : List Int) (s : St) (w : World) (hr : RdS w lo R l s) (hf : s.fe ≠ 0) :
    Calls Tryz.prog 63 #[.pointer (some ⟨R, 0, none⟩), .int .i64 most] w fun e w' => e = .returned (.string ⟨#[]⟩) ∧ RdS w' lo R l s ∧ w.grownBy w' (some R) := by
  have HR : Hid (RdS w lo R l s) := hr
  obtain ⟨v, hh, ho, hk, hl, hp, hn⟩ := hr
  obtain ⟨h0, h1, h2, h3, h4, hfz⟩ := cells_of hh
  have hlt : R < w.heap.size := (Array.getElem?_eq_some_iff.1 hh).1
  have hfb : (s.fe != 0) = true := by simpa using hf
  clear hh ho hk h0 h1 h2 h3 hfz
  have hmf' := hmf
  go_enter_defers Tryz.func63, Tryz.ntmps63
  go_wp2_with (go_at_call 90; refine (failed_any R s.fe _ (by simp [World.cell?_alloc_past _ _ _ hlt, h4])).mono ?_; rintro e w1 ⟨rfl, rfl⟩)
  refine leaves_cons (f := 99) (args := #[.pointer (some ⟨w.heap.size, 0, none⟩)]) (by simp) (by simp [go_sem]) ?_
  refine (catch30_idle w.heap.size R _ (by simp)).mono ?_
  rintro e u' w'' ⟨rfl, rfl, rfl⟩
  exact ⟨_, results_tmp rfl _ _ _, rfl, HR.out.grown (door_below _ _), grown_below _ (door_below _ _)⟩

set_option maxHeartbeats 1600000 in
set_option maxRecDepth 100000 in
theorem text_pan (lo R : Nat) (most : Int) (l : List Int) (p : Nat) (fa P X : Int) (w : World) (hr : RdS w lo R l ⟨p, fa, 0⟩)
    (hU : ∀ (w' : World), Below w.heap.size w w' → Calls Tryz.prog 95 #[.pointer (some ⟨R, 0, none⟩), .int .i64 p] w' fun x w'' => x = .panicked [{ v := flt P X, recovered := false }] ∧ w'' = w') :
    Calls Tryz.prog 63 #[.pointer (some ⟨R, 0, none⟩), .int .i64 most] w fun e w' => e = .returned (.string ⟨#[]⟩) ∧ RdS w' lo R l ⟨p, P, X⟩ ∧ w.grownBy w' (some R) := by
  obtain ⟨v, hh, ho, hk, hl, hp, hn⟩ := hr
  obtain ⟨ao, cap, hv, hcap, hat⟩ := ownAt ho
  subst hv
  simp only at hh hp
  obtain ⟨h0, h1, h2, h3, h4, hfz⟩ := cells_of hh
  have hlt : R < w.heap.size := (Array.getElem?_eq_some_iff.1 hh).1
  have HH : Hid (w.heap[R]? = some (.cells #[.slice ao l.length cap, .int .i64 p, .int .i64 fa, .string ⟨#[]⟩, .int .i64 0] 77 (0, 0))) := hh
  have HO : Hid (Owns w lo (.slice ao l.length cap) l) := ho
  have HK : Hid (∀ k, (Value.slice ao l.length cap).ownBlock = some k → k < R) := hk
  have HU : Hid (∀ (w' : World), Below w.heap.size w w' → Calls Tryz.prog 95 #[.pointer (some ⟨R, 0, none⟩), .int .i64 p] w' fun x w'' => x = .panicked [{ v := flt P X, recovered := false }] ∧ w'' = w') := hU
  clear hU hh ho hk h2 h3 hat
  have hmf' := hmf
  have hc1 : ∀ (o : Obj), (w.alloc o).cell? ⟨R, 1, none⟩ = some (.int .i64 p) := fun o => by rw [World.cell?_alloc_past _ _ _ hlt]; exact h1
  go_enter_defers Tryz.func63, Tryz.ntmps63
  go_wp2_with (go_at_call 90; refine (failed_any R 0 _ (by simp [World.cell?_alloc_past _ _ _ hlt, h4])).mono ?_; rintro e w1 ⟨rfl, rfl⟩)
  refine wp_region_any (by kernel_rfl) ?_
  change wpAny _ _ _ _ _ _ _ (World.drew _)
  refine wpAny_ready (rs := [0, 1]) (by kernel_rfl) (by simp) ?_
  refine AllReady.cons rfl (fun K hK => ?_) (AllReady.cons rfl (fun K hK => ?_) AllReady.nil)
  · go_simp
    refine hK _ _ ?_
    clear hK K
    refine wpAny_ready (rs := [1]) (by kernel_rfl) (by simp) ?_
    refine AllReady.cons rfl (fun K hK => ?_) AllReady.nil
    go_simp
    refine hK _ _ ?_
    clear hK K
    refine wpAny_ready (rs := [2]) (by kernel_rfl) (by simp) ?_
    refine AllReady.cons rfl (fun K hK => ?_) AllReady.nil
    go_simp
    refine hK _ _ ?_
    clear hK K
    refine wpAny_ready (rs := [3]) (by kernel_rfl) (by simp) ?_
    refine AllReady.cons rfl (fun K hK => ?_) AllReady.nil
    go_simp
    refine hK _ _ ?_
    clear hK K
    refine wpAny_ready (rs := [4]) (by kernel_rfl) (by simp) ?_
    refine AllReady.cons rfl (fun K hK => ?_) AllReady.nil
    go_simp
    refine hK _ _ ?_
    clear hK K
    refine wpAny_ready (rs := [5]) (by kernel_rfl) (by simp) ?_
    refine AllReady.cons rfl (fun K hK => ?_) AllReady.nil
    go_simp
    refine (HU.out _ (by exact door_below w _)).mono ?_
    rintro e w1 ⟨rfl, rfl⟩
    refine leaves_cons (f := 99) (args := #[.pointer (some ⟨w.heap.size, 0, none⟩)]) (by simp) (by simp [go_sem]) ?_
    refine (catch30_flt w.heap.size R _ P X [] _ _ _ _ _ (by simp) (((door_below w _).block R hlt).trans HH.out)).mono ?_
    rintro e u' w'' ⟨rfl, rfl, hr2, hg2⟩
    obtain ⟨Z1, Z2⟩ := RdS.noted HO.out HK.out hl hp hn (door_below w _) hr2 hg2 HH.out
    exact ⟨_, results_tmp rfl _ _ _, rfl, Z1, Z2⟩
  · go_simp
    refine hK _ _ ?_
    clear hK K
    refine wpAny_ready (rs := [0, 2]) (by kernel_rfl) (by simp) ?_
    refine AllReady.cons rfl (fun K hK => ?_) (AllReady.cons rfl (fun K hK => ?_) AllReady.nil)
    · go_simp
      refine hK _ _ ?_
      clear hK K
      refine wpAny_ready (rs := [2]) (by kernel_rfl) (by simp) ?_
      refine AllReady.cons rfl (fun K hK => ?_) AllReady.nil
      go_simp
      refine hK _ _ ?_
      clear hK K
      refine wpAny_ready (rs := [3]) (by kernel_rfl) (by simp) ?_
      refine AllReady.cons rfl (fun K hK => ?_) AllReady.nil
      go_simp
      refine hK _ _ ?_
      clear hK K
      refine wpAny_ready (rs := [4]) (by kernel_rfl) (by simp) ?_
      refine AllReady.cons rfl (fun K hK => ?_) AllReady.nil
      go_simp
      refine hK _ _ ?_
      clear hK K
      refine wpAny_ready (rs := [5]) (by kernel_rfl) (by simp) ?_
      refine AllReady.cons rfl (fun K hK => ?_) AllReady.nil
      go_simp
      refine (HU.out _ (by exact door_below w _)).mono ?_
      rintro e w1 ⟨rfl, rfl⟩
      refine leaves_cons (f := 99) (args := #[.pointer (some ⟨w.heap.size, 0, none⟩)]) (by simp) (by simp [go_sem]) ?_
      refine (catch30_flt w.heap.size R _ P X [] _ _ _ _ _ (by simp) (((door_below w _).block R hlt).trans HH.out)).mono ?_
      rintro e u' w'' ⟨rfl, rfl, hr2, hg2⟩
      obtain ⟨Z1, Z2⟩ := RdS.noted HO.out HK.out hl hp hn (door_below w _) hr2 hg2 HH.out
      exact ⟨_, results_tmp rfl _ _ _, rfl, Z1, Z2⟩
    · go_simp
      refine hK _ _ ?_
      clear hK K
      refine wpAny_ready (rs := [0, 3]) (by kernel_rfl) (by simp) ?_
      refine AllReady.cons rfl (fun K hK => ?_) (AllReady.cons rfl (fun K hK => ?_) AllReady.nil)
      · go_simp
        refine hK _ _ ?_
        clear hK K
        refine wpAny_ready (rs := [3]) (by kernel_rfl) (by simp) ?_
        refine AllReady.cons rfl (fun K hK => ?_) AllReady.nil
        go_simp
        refine hK _ _ ?_
        clear hK K
        refine wpAny_ready (rs := [4]) (by kernel_rfl) (by simp) ?_
        refine AllReady.cons rfl (fun K hK => ?_) AllReady.nil
        go_simp
        refine hK _ _ ?_
        clear hK K
        refine wpAny_ready (rs := [5]) (by kernel_rfl) (by simp) ?_
        refine AllReady.cons rfl (fun K hK => ?_) AllReady.nil
        go_simp
        refine (HU.out _ (by exact door_below w _)).mono ?_
        rintro e w1 ⟨rfl, rfl⟩
        refine leaves_cons (f := 99) (args := #[.pointer (some ⟨w.heap.size, 0, none⟩)]) (by simp) (by simp [go_sem]) ?_
        refine (catch30_flt w.heap.size R _ P X [] _ _ _ _ _ (by simp) (((door_below w _).block R hlt).trans HH.out)).mono ?_
        rintro e u' w'' ⟨rfl, rfl, hr2, hg2⟩
        obtain ⟨Z1, Z2⟩ := RdS.noted HO.out HK.out hl hp hn (door_below w _) hr2 hg2 HH.out
        exact ⟨_, results_tmp rfl _ _ _, rfl, Z1, Z2⟩
      · go_simp
        refine hK _ _ ?_
        clear hK K
        refine wpAny_ready (rs := [0, 4]) (by kernel_rfl) (by simp) ?_
        refine AllReady.cons rfl (fun K hK => ?_) (AllReady.cons rfl (fun K hK => ?_) AllReady.nil)
        · go_simp
          refine hK _ _ ?_
          clear hK K
          refine wpAny_ready (rs := [4]) (by kernel_rfl) (by simp) ?_
          refine AllReady.cons rfl (fun K hK => ?_) AllReady.nil
          go_simp
          refine hK _ _ ?_
          clear hK K
          refine wpAny_ready (rs := [5]) (by kernel_rfl) (by simp) ?_
          refine AllReady.cons rfl (fun K hK => ?_) AllReady.nil
          go_simp
          refine (HU.out _ (by exact door_below w _)).mono ?_
          rintro e w1 ⟨rfl, rfl⟩
          refine leaves_cons (f := 99) (args := #[.pointer (some ⟨w.heap.size, 0, none⟩)]) (by simp) (by simp [go_sem]) ?_
          refine (catch30_flt w.heap.size R _ P X [] _ _ _ _ _ (by simp) (((door_below w _).block R hlt).trans HH.out)).mono ?_
          rintro e u' w'' ⟨rfl, rfl, hr2, hg2⟩
          obtain ⟨Z1, Z2⟩ := RdS.noted HO.out HK.out hl hp hn (door_below w _) hr2 hg2 HH.out
          exact ⟨_, results_tmp rfl _ _ _, rfl, Z1, Z2⟩
        · go_simp
          refine hK _ _ ?_
          clear hK K
          refine wpAny_ready (rs := [0]) (by kernel_rfl) (by simp) ?_
          refine AllReady.cons rfl (fun K hK => ?_) AllReady.nil
          go_simp
          refine hK _ _ ?_
          clear hK K
          refine wpAny_ready (rs := [5]) (by kernel_rfl) (by simp) ?_
          refine AllReady.cons rfl (fun K hK => ?_) AllReady.nil
          go_simp
          refine (HU.out _ (by exact door_below w _)).mono ?_
          rintro e w1 ⟨rfl, rfl⟩
          refine leaves_cons (f := 99) (args := #[.pointer (some ⟨w.heap.size, 0, none⟩)]) (by simp) (by simp [go_sem]) ?_
          refine (catch30_flt w.heap.size R _ P X [] _ _ _ _ _ (by simp) (((door_below w _).block R hlt).trans HH.out)).mono ?_
          rintro e u' w'' ⟨rfl, rfl, hr2, hg2⟩
          obtain ⟨Z1, Z2⟩ := RdS.noted HO.out HK.out hl hp hn (door_below w _) hr2 hg2 HH.out
          exact ⟨_, results_tmp rfl _ _ _, rfl, Z1, Z2⟩

set_option maxHeartbeats 1600000 in
set_option maxRecDepth 100000 in
theorem text_long (lo R : Nat) (most : Int) (l : List Int) (p : Nat) (fa : Int) (n k : Nat) (w : World) (hr : RdS w lo R l ⟨p, fa, 0⟩) (hm : most < n) (_hn64 : n < 18446744073709551616) (hm63 : -9223372036854775808 ≤ most ∧ most ≤ 9223372036854775807)
    (hU : ∀ (w' : World), Below w.heap.size w w' → Calls Tryz.prog 95 #[.pointer (some ⟨R, 0, none⟩), .int .i64 p] w' fun x w'' => x = .returned (.tuple #[.int .u64 n, .int .i64 ((p + k : Nat) : Int)]) ∧ w'' = w') :
    Calls Tryz.prog 63 #[.pointer (some ⟨R, 0, none⟩), .int .i64 most] w fun e w' => e = .returned (.string ⟨#[]⟩) ∧ RdS w' lo R l ⟨p, p, 12⟩ ∧ w.grownBy w' (some R) := by
  obtain ⟨v, hh, ho, hk, hl, hp, hn⟩ := hr
  obtain ⟨ao, cap, hv, hcap, hat⟩ := ownAt ho
  subst hv
  simp only at hh hp
  obtain ⟨h0, h1, h2, h3, h4, hfz⟩ := cells_of hh
  have hlt : R < w.heap.size := (Array.getElem?_eq_some_iff.1 hh).1
  have HH : Hid (w.heap[R]? = some (.cells #[.slice ao l.length cap, .int .i64 p, .int .i64 fa, .string ⟨#[]⟩, .int .i64 0] 77 (0, 0))) := hh
  have HO : Hid (Owns w lo (.slice ao l.length cap) l) := ho
  have HK : Hid (∀ k, (Value.slice ao l.length cap).ownBlock = some k → k < R) := hk
  have HU : Hid (∀ (w' : World), Below w.heap.size w w' → Calls Tryz.prog 95 #[.pointer (some ⟨R, 0, none⟩), .int .i64 p] w' fun x w'' => x = .returned (.tuple #[.int .u64 n, .int .i64 ((p : Int) + k)]) ∧ w'' = w') := hU
  clear hU hh ho hk h2 h3 hat
  have hmf' := hmf
  have hc1 : ∀ (o : Obj), (w.alloc o).cell? ⟨R, 1, none⟩ = some (.int .i64 p) := fun o => by rw [World.cell?_alloc_past _ _ _ hlt]; exact h1
  by_cases h0m : most < 0
  all_goals
    go_enter_defers Tryz.func63, Tryz.ntmps63
    go_wp2_with (go_at_call 90; refine (failed_any R 0 _ (by simp [World.cell?_alloc_past _ _ _ hlt, h4])).mono ?_; rintro e w1 ⟨rfl, rfl⟩)
    go_quiet ((go_at_call 95; exact Calls.quiet_of_same (HU.out _ (by exact door_belowN w _ _))))
    go_wp2_with (go_at_call 96; refine (giveUp_any _ _ _).mono ?_; rintro e w1 ⟨rfl, rfl⟩)
    refine leaves_cons (f := 99) (args := #[.pointer (some ⟨w.heap.size, 0, none⟩)]) (by simp) (by simp [go_sem]) ?_
    refine (catch30_flt w.heap.size R _ p 12 [] _ _ _ _ _ (by simp) (((door_belowN w _ _).block R hlt).trans HH.out)).mono ?_
    rintro e u' w'' ⟨rfl, rfl, hr2, hg2⟩
    obtain ⟨Z1, Z2⟩ := RdS.noted HO.out HK.out hl hp hn (door_belowN w _ _) hr2 hg2 HH.out
    exact ⟨_, results_tmp rfl _ _ _, rfl, Z1, Z2⟩

set_option maxHeartbeats 1600000 in
set_option maxRecDepth 100000 in
theorem text_val (lo R : Nat) (most : Int) (l : List Int) (p : Nat) (fa : Int) (n k : Nat) (w : World) (hr : RdS w lo R l ⟨p, fa, 0⟩) (hB : Bytes l) (hpk : p + k ≤ l.length) (hm : n ≤ most) (hm63 : most ≤ 9223372036854775807)
    (hU : ∀ (w' : World), Below w.heap.size w w' → Calls Tryz.prog 95 #[.pointer (some ⟨R, 0, none⟩), .int .i64 p] w' fun x w'' => x = .returned (.tuple #[.int .u64 n, .int .i64 ((p + k : Nat) : Int)]) ∧ w'' = w') :
    Calls Tryz.prog 63 #[.pointer (some ⟨R, 0, none⟩), .int .i64 most] w fun e w' => e = .returned (.string (if l.length < p + k + n then ⟨#[]⟩ else mkStr ((l.drop (p + k)).take n))) ∧ RdS w' lo R l (if l.length < p + k + n then ⟨p, l.length, 10⟩ else ⟨p + k + n, fa, 0⟩) ∧ w.grownBy w' (some R) := by
  obtain ⟨v, hh, ho, hk, hl, hp, hn⟩ := hr
  obtain ⟨ao, cap, hv, hcap, hat⟩ := ownAt ho
  subst hv
  simp only at hh hp
  obtain ⟨h0, h1, h2, h3, h4, hfz⟩ := cells_of hh
  have hlt : R < w.heap.size := (Array.getElem?_eq_some_iff.1 hh).1
  have HH : Hid (w.heap[R]? = some (.cells #[.slice ao l.length cap, .int .i64 p, .int .i64 fa, .string ⟨#[]⟩, .int .i64 0] 77 (0, 0))) := hh
  have HO : Hid (Owns w lo (.slice ao l.length cap) l) := ho
  have HK : Hid (∀ k, (Value.slice ao l.length cap).ownBlock = some k → k < R) := hk
  have HU : Hid (∀ (w' : World), Below w.heap.size w w' → Calls Tryz.prog 95 #[.pointer (some ⟨R, 0, none⟩), .int .i64 p] w' fun x w'' => x = .returned (.tuple #[.int .u64 n, .int .i64 ((p : Int) + k)]) ∧ w'' = w') := hU
  clear hU hh ho hk h2 h3 hat
  have hmf' := hmf
  have hc1 : ∀ (o : Obj), (w.alloc o).cell? ⟨R, 1, none⟩ = some (.int .i64 p) := fun o => by rw [World.cell?_alloc_past _ _ _ hlt]; exact h1
  have hc0 : ∀ (w' : World), Below w.heap.size w w' → w'.cell? ⟨R, 0, none⟩ = some (.slice ao l.length cap) := fun w' hb => (hb.cell hlt).trans h0
  have HC0 : Hid (∀ (w' : World), Below w.heap.size w w' → w'.cell? ⟨R, 0, none⟩ = some (.slice ao l.length cap)) := hc0
  clear hc0
  by_cases hlen : l.length < p + k + n
  · rw [if_pos hlen, if_pos hlen]
    go_enter_defers Tryz.func63, Tryz.ntmps63
    go_wp2_with (go_at_call 90; refine (failed_any R 0 _ (by simp [World.cell?_alloc_past _ _ _ hlt, h4])).mono ?_; rintro e w1 ⟨rfl, rfl⟩)
    go_quiet ((go_at_call 95; exact Calls.quiet_of_same (HU.out _ (by exact door_belowN w _ _))))
    go_wp2_with fail
    rw [show ((p : Int) + k) = ((p + k : Nat) : Int) from by simp]
    refine (part_out R (p + k) n ao l.length cap _ (HC0.out _ (door_belowN _ _ _)) hn hpk (by omega) (by omega)).mono ?_
    rintro e w1 ⟨rfl, rfl⟩
    refine leaves_cons (f := 99) (args := #[.pointer (some ⟨w.heap.size, 0, none⟩)]) (by simp) (by simp [go_sem]) ?_
    refine (catch30_flt w.heap.size R _ l.length 10 [] _ _ _ _ _ (by simp) (((door_belowN w _ _).block R hlt).trans HH.out)).mono ?_
    rintro e u' w'' ⟨rfl, rfl, hr2, hg2⟩
    obtain ⟨Z1, Z2⟩ := RdS.noted HO.out HK.out hl hp hn (door_belowN w _ _) hr2 hg2 HH.out
    exact ⟨_, results_tmp rfl _ _ _, rfl, Z1, Z2⟩
  · rw [if_neg hlen, if_neg hlen]
    go_enter_defers Tryz.func63, Tryz.ntmps63
    go_wp2_with (go_at_call 90; refine (failed_any R 0 _ (by simp [World.cell?_alloc_past _ _ _ hlt, h4])).mono ?_; rintro e w1 ⟨rfl, rfl⟩)
    go_quiet ((go_at_call 95; exact Calls.quiet_of_same (HU.out _ (by exact door_belowN w _ _))))
    go_wp2_with fail
    have hpk2 : p + k + n ≤ l.length := by omega
    rw [show ((p : Int) + k) = ((p + k : Nat) : Int) from by simp]
    refine (part_in R (p + k) n ao cap l _ (HC0.out _ (door_belowN _ _ _)) hn hcap hpk2).mono ?_
    rintro e w1 ⟨ao', cp', rfl, rfl, hpart⟩
    have hconv : ∀ x : Value, (convert 22 9 (.slice ao' n cp')).run Tryz.prog (((w.alloc (Obj.cells #[Value.pointer (some { block := R, off := 0 })] 58)).drewN nq).setCell ⟨R, 1, none⟩ x) = .ok (.string (mkStr ((l.drop (p + k)).take n))) (((w.alloc (Obj.cells #[Value.pointer (some { block := R, off := 0 })] 58)).drewN nq).setCell ⟨R, 1, none⟩ x) := fun x =>
      conv_has (hpart _ (moved_has HO.out HK.out _ _ _)) ((hB.drop _).take _)
    clear hpart
    go_wp2
    refine leaves_cons (f := 99) (args := #[.pointer (some ⟨w.heap.size, 0, none⟩)]) (by simp) (by simp [go_sem]) ?_
    obtain ⟨Z1, Z2, Z3⟩ := RdS.moved HH.out HO.out HK.out hl hn (Obj.cells #[Value.pointer (some { block := R, off := 0 })] 58) nq ((p : Int) + k + n) (p + k + n) (by simp) hpk2
    refine (catch30_idle w.heap.size R _ (Z3.trans (by simp))).mono ?_
    rintro e u' w'' ⟨rfl, rfl, rfl⟩
    exact ⟨_, results_tmp rfl _ _ _, rfl, Z1, Z2⟩

/-- (*Reader).Text, whatever the reader. -/
theorem text_any (lo R : Nat) (most : Int) (l : List Int) (s : St) (w : World) (hr : RdS w lo R l s) (hB : Bytes l) (hm63 : -9223372036854775808 ≤ most ∧ most ≤ 9223372036854775807) :
    Calls Tryz.prog 63 #[.pointer (some ⟨R, 0, none⟩), .int .i64 most] w fun e w' => e = .returned (.string (mkStr (textS l s most).1)) ∧ RdS w' lo R l (textS l s most).2 ∧ w.grownBy w' (some R) := by
  obtain ⟨p, fa, fe⟩ := s
  by_cases hf : fe = 0
  · subst hf
    have hp : p ≤ l.length := by obtain ⟨_, _, _, _, _, hp, _⟩ := hr; exact hp
    have hU := uintAt_of hr hB
    cases hrd : rd 0 (l.drop p) with
    | ok n k =>
      rw [hrd] at hU
      have hk := (rd_le _ _ _ _ hrd).2
      simp only [List.length_drop] at hk
      by_cases hm : most < n
      · refine (text_long lo R most l p fa n k w hr hm (rd_lt64 hrd) hm63 hU).mono ?_
        rintro e w' ⟨rfl, h1, h2⟩
        exact ⟨by simp [textS, hrd, hm, mkStr_nil], by simpa [textS, hrd, hm] using h1, h2⟩
      · refine (text_val lo R most l p fa n k w hr hB (by omega) (by omega) hm63.2 hU).mono ?_
        rintro e w' ⟨rfl, h1, h2⟩
        by_cases hlen : l.length < p + k + n
        · rw [if_pos hlen] at h1
          exact ⟨by simp [textS, hrd, hm, hlen, mkStr_nil], by simpa [textS, hrd, hm, hlen] using h1, h2⟩
        · rw [if_neg hlen] at h1
          exact ⟨by simp [textS, hrd, hm, hlen], by simpa [textS, hrd, hm, hlen] using h1, h2⟩
    | form i =>
      rw [hrd] at hU
      refine (text_pan lo R most l p fa _ _ w hr hU).mono ?_
      rintro e w' ⟨rfl, h1, h2⟩
      exact ⟨by simp [textS, hrd, mkStr_nil], by simpa [textS, hrd] using h1, h2⟩
    | short =>
      rw [hrd] at hU
      refine (text_pan lo R most l p fa _ _ w hr hU).mono ?_
      rintro e w' ⟨rfl, h1, h2⟩
      exact ⟨by simp [textS, hrd, mkStr_nil], by simpa [textS, hrd] using h1, h2⟩
  · refine (text_fault lo R most l _ w hr hf).mono ?_
    rintro e w' ⟨rfl, h1, h2⟩
    exact ⟨by simp [textS, hf, mkStr_nil], by simpa [textS, hf] using h1, h2⟩
end Go.Proofs.YthpelabmfpogbaaGreatDoor
