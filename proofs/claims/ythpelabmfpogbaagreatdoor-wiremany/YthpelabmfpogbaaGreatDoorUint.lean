/-
  (*Reader).Uint: by the door.
-/
import Derived.Test.YthpelabmfpogbaaGreatDoorDoor
import Derived.Deep.RegionWith
namespace Go.Proofs.YthpelabmfpogbaaGreatDoor
open Go.RowKit Wire

/-- A reader's state: how many bytes are taken, the fault's place and number. -/
structure St where
  p : Nat
  fa : Int
  fe : Int

def uintS (l : List Int) (s : St) (most : Nat) : Nat × St :=
  if s.fe ≠ 0 then (0, s) else match rd 0 (l.drop s.p) with
  | .ok n k => if n ≤ most then (n, ⟨s.p + k, s.fa, s.fe⟩) else (0, ⟨s.p, s.p, 12⟩)
  | .form i => (0, ⟨s.p, (s.p + i : Nat), 11⟩)
  | .short => (0, ⟨s.p, l.length, 10⟩)

/-- A reader in a state. -/
def RdS (w : World) (lo R : Nat) (l : List Int) (s : St) : Prop := Rdr w lo R l s.p s.fa s.fe

theorem hmf (fn : Fn) (first cap : Array Value) (w : World) : (Instr.makeFunc fn first cap).run Tryz.prog w = .ok (.func fn first cap) w := rfl

theorem ownAt {w : World} {lo : Nat} {v : Value} {l : List Int} (h : Owns w lo v l) : ∃ ao cap, v = .slice ao l.length cap ∧ l.length ≤ cap ∧ ∀ i, i < l.length → ∃ g, ao = some ⟨g, 0, none⟩ ∧ w.cell? ⟨g, i, none⟩ = some (.int .u8 (l[i]?.getD 0)) := by
  have h0 := h
  obtain ⟨_, h | ⟨g, cap, cur, hv, hg, hh, hn, hm, hs, ht⟩⟩ := h
  · obtain ⟨rfl, hl⟩ := h
    refine ⟨none, 0, by rw [hl], by omega, fun i hi => ?_⟩
    omega
  · subst hv
    refine ⟨_, cap, rfl, hn, fun i hi => ⟨g, rfl, ?_⟩⟩
    have := World.ownsRow.cells h0 (g := g) rfl i (.int .u8 (l[i]?.getD 0)) (by simp [List.getElem?_eq_getElem hi])
    rwa [add0] at this

theorem RdS.grown {w w' : World} {lo R : Nat} {l : List Int} {s : St} (h : RdS w lo R l s) (hb : Below w.heap.size w w') : RdS w' lo R l s := Rdr.below h hb

/-- The world behind the door: one variable more, some draws. -/
theorem door_below (w : World) (o : Obj) : Below w.heap.size w (w.alloc o).drew := ((Below.refl _ _).alloc (Nat.le_refl _) _).drew

theorem door_belowN (w : World) (o : Obj) (n : Nat) : Below w.heap.size w ((w.alloc o).drewN n) := ((Below.refl _ _).alloc (Nat.le_refl _) _).trans ⟨rfl, rfl, rfl, Nat.le_refl _, fun _ _ => rfl⟩

/-- A reader whose fault was noted. -/
theorem RdS.noted {w w1 w2 : World} {lo R : Nat} {l : List Int} {p : Nat} {fa fe fa' fe' : Int} {v : Value} (ho : Owns w lo v l) (hk : ∀ k, v.ownBlock = some k → k < R) (hl : lo ≤ R) (hp : p ≤ l.length) (hn : l.length ≤ 1048576)
    (hb : Below w.heap.size w w1) (hh : w2.heap[R]? = some (.cells #[v, .int .i64 p, .int .i64 fa', .string ⟨#[]⟩, .int .i64 fe'] 77 (0, 0))) (hg : w1.grownBy w2 (some R)) (_h : w.heap[R]? = some (.cells #[v, .int .i64 p, .int .i64 fa, .string ⟨#[]⟩, .int .i64 fe] 77 (0, 0))) :
    RdS w2 lo R l ⟨p, fa', fe'⟩ ∧ w.grownBy w2 (some R) := by
  have h1 := ho.below hb (Nat.le_refl _)
  refine ⟨⟨v, hh, h1.block fun k e => hg.block k (h1.lt k e).2 (fun e' => ?_), hk, hl, hp, hn⟩, grown_trans (grown_below _ hb) hg⟩
  have := hk k e
  simp at e'; omega

/-- A reader that has taken something: the store into its place. -/
theorem RdS.moved {w : World} {lo R : Nat} {l : List Int} {p : Nat} {fa fe : Int} {v : Value} (hh : w.heap[R]? = some (.cells #[v, .int .i64 p, .int .i64 fa, .string ⟨#[]⟩, .int .i64 fe] 77 (0, 0))) (ho : Owns w lo v l) (hk : ∀ k, v.ownBlock = some k → k < R) (hl : lo ≤ R) (hn : l.length ≤ 1048576)
    (o : Obj) (n : Nat) (x : Int) (p' : Nat) (hx : x = p') (hp : p' ≤ l.length) :
    RdS (((w.alloc o).drewN n).setCell ⟨R, 1, none⟩ (.int .i64 x)).drew lo R l ⟨p', fa, fe⟩ ∧ w.grownBy (((w.alloc o).drewN n).setCell ⟨R, 1, none⟩ (.int .i64 x)).drew (some R) ∧
      (((w.alloc o).drewN n).setCell ⟨R, 1, none⟩ (.int .i64 x)).cell? ⟨w.heap.size, 0, none⟩ = (w.alloc o).cell? ⟨w.heap.size, 0, none⟩ := by
  have hlt : R < w.heap.size := (Array.getElem?_eq_some_iff.1 hh).1
  have h1 : ((w.alloc o).drewN n).heap[R]? = some (.cells #[v, .int .i64 p, .int .i64 fa, .string ⟨#[]⟩, .int .i64 fe] 77 (0, 0)) := (Below.heap_alloc w o R hlt).trans hh
  have h2 := heap_setCell_at (o := 1) (.int .i64 x) h1
  have hg : w.grownBy (((w.alloc o).drewN n).setCell ⟨R, 1, none⟩ (.int .i64 x)).drew (some R) := grown_drew (grown_trans (grown_below _ (door_belowN w o n)) (grown_setCell _ _ _ _))
  refine ⟨⟨v, ?_, ho.block fun k e => hg.block k (ho.lt k e).2 (fun e' => ?_), hk, hl, hp, hn⟩, hg, ?_⟩
  · show (((w.alloc o).drewN n).setCell ⟨R, 1, none⟩ (.int .i64 x)).heap[R]? = _
    rw [h2, hx]
    rfl
  · have := hk k e
    simp at e'; omega
  · exact World.cell?_of_block (Below.heap_setCell _ ⟨R, 1, none⟩ _ w.heap.size (by simp; omega))

set_option maxHeartbeats 800000 in
set_option maxRecDepth 100000 in
theorem uint_fault (lo R most : Nat) (l : List Int) (s : St) (w : World) (hr : RdS w lo R l s) (hf : s.fe ≠ 0) :
    Calls Tryz.prog 61 #[.pointer (some ⟨R, 0, none⟩), .int .u64 most] w fun e w' => e = .returned (.int .u64 0) ∧ RdS w' lo R l s ∧ w.grownBy w' (some R) := by
  have HR : Hid (RdS w lo R l s) := hr
  obtain ⟨v, hh, ho, hk, hl, hp, hn⟩ := hr
  obtain ⟨h0, h1, h2, h3, h4, hfz⟩ := cells_of hh
  have hlt : R < w.heap.size := (Array.getElem?_eq_some_iff.1 hh).1
  have hfb : (s.fe != 0) = true := by simpa using hf
  clear hh ho hk h0 h1 h2 h3 hfz
  have hmf' := hmf
  go_enter_defers Tryz.func61, Tryz.ntmps61
  go_wp2_with (go_at_call 90; refine (failed_any R s.fe _ (by simp [World.cell?_alloc_past _ _ _ hlt, h4])).mono ?_; rintro e w1 ⟨rfl, rfl⟩)
  refine leaves_cons (f := 94) (args := #[.pointer (some ⟨w.heap.size, 0, none⟩)]) (by simp) (by simp [go_sem]) ?_
  refine (catch25_idle w.heap.size R _ (by simp)).mono ?_
  rintro e u' w'' ⟨rfl, rfl, rfl⟩
  exact ⟨_, results_tmp rfl _ _ _, rfl, HR.out.grown (door_below _ _), grown_below _ (door_below _ _)⟩

/-- uintAt, asked of a reader, in whatever world that holds it. -/
theorem uintAt_of {lo R : Nat} {l : List Int} {p : Nat} {fa fe : Int} {w : World} (hr : RdS w lo R l ⟨p, fa, fe⟩) (hB : Bytes l) (w' : World) (hb : Below w.heap.size w w') :
    Calls Tryz.prog 95 #[.pointer (some ⟨R, 0, none⟩), .int .i64 p] w' fun x w'' => x = uintEnd p l.length (rd 0 (l.drop p)) ∧ w'' = w' := by
  obtain ⟨v, hh, ho, hk, hl, hp, hn⟩ := RdS.grown hr hb
  obtain ⟨ao, cap, hv, hcap, hat⟩ := ownAt ho
  subst hv
  obtain ⟨h0, _⟩ := cells_of hh
  exact uintAt_any R p ao cap l w' hB h0 hat hn hp

set_option maxHeartbeats 1600000 in
set_option maxRecDepth 100000 in
theorem uint_pan (lo R most : Nat) (l : List Int) (p : Nat) (fa P X : Int) (w : World) (hr : RdS w lo R l ⟨p, fa, 0⟩)
    (hU : ∀ (w' : World), Below w.heap.size w w' → Calls Tryz.prog 95 #[.pointer (some ⟨R, 0, none⟩), .int .i64 p] w' fun x w'' => x = .panicked [{ v := flt P X, recovered := false }] ∧ w'' = w') :
    Calls Tryz.prog 61 #[.pointer (some ⟨R, 0, none⟩), .int .u64 most] w fun e w' => e = .returned (.int .u64 0) ∧ RdS w' lo R l ⟨p, P, X⟩ ∧ w.grownBy w' (some R) := by
  obtain ⟨v, hh, ho, hk, hl, hp, hn⟩ := hr
  obtain ⟨ao, cap, hv, hcap, hat⟩ := ownAt ho
  subst hv
  simp only at hh hp
  obtain ⟨h0, h1, h2, h3, h4, hfz⟩ := cells_of hh
  have hlt : R < w.heap.size := (Array.getElem?_eq_some_iff.1 hh).1
  have HH : Hid (w.heap[R]? = some (.cells #[.slice ao l.length cap, .int .i64 p, .int .i64 fa, .string ⟨#[]⟩, .int .i64 0] 77 (0, 0))) := hh
  have HO : Hid (Owns w lo (.slice ao l.length cap) l) := ho
  have HK : Hid (∀ k, (Value.slice ao l.length cap).ownBlock = some k → k < R) := hk
  have HU : Hid (∀ (w' : World), Below w.heap.size w w' → Calls Tryz.prog 95 #[.pointer (some ⟨R, 0, none⟩), .int .i64 p] w' fun x w'' => x = .panicked [{ v := flt P X, recovered := false }] ∧ w'' = w') := hU
  clear hU hh ho hk h2 h3 hat
  have hmf' := hmf
  have hc1 : ∀ (o : Obj), (w.alloc o).cell? ⟨R, 1, none⟩ = some (.int .i64 p) := fun o => by rw [World.cell?_alloc_past _ _ _ hlt]; exact h1
  go_enter_defers Tryz.func61, Tryz.ntmps61
  go_wp2_with (go_at_call 90; refine (failed_any R 0 _ (by simp [World.cell?_alloc_past _ _ _ hlt, h4])).mono ?_; rintro e w1 ⟨rfl, rfl⟩)
  refine wp_region_any (by kernel_rfl) ?_
  change wpAny _ _ _ _ _ _ _ (World.drew _)
  refine wpAny_ready (rs := [0, 1]) (by kernel_rfl) (by simp) ?_
  refine AllReady.cons rfl (fun K hK => ?_) (AllReady.cons rfl (fun K hK => ?_) AllReady.nil)
  · go_simp
    refine hK _ _ ?_
    clear hK K
    refine wpAny_ready (rs := [1]) (by kernel_rfl) (by simp) ?_
    refine AllReady.cons rfl (fun K hK => ?_) AllReady.nil
    go_simp
    refine hK _ _ ?_
    clear hK K
    refine wpAny_ready (rs := [2]) (by kernel_rfl) (by simp) ?_
    refine AllReady.cons rfl (fun K hK => ?_) AllReady.nil
    go_simp
    refine hK _ _ ?_
    clear hK K
    refine wpAny_ready (rs := [3]) (by kernel_rfl) (by simp) ?_
    refine AllReady.cons rfl (fun K hK => ?_) AllReady.nil
    go_simp
    refine hK _ _ ?_
    clear hK K
    refine wpAny_ready (rs := [4]) (by kernel_rfl) (by simp) ?_
    refine AllReady.cons rfl (fun K hK => ?_) AllReady.nil
    go_simp
    refine hK _ _ ?_
    clear hK K
    refine wpAny_ready (rs := [5]) (by kernel_rfl) (by simp) ?_
    refine AllReady.cons rfl (fun K hK => ?_) AllReady.nil
    go_simp
    refine (HU.out _ (by exact door_below w _)).mono ?_
    rintro e w1 ⟨rfl, rfl⟩
    refine leaves_cons (f := 94) (args := #[.pointer (some ⟨w.heap.size, 0, none⟩)]) (by simp) (by simp [go_sem]) ?_
    refine (catch25_flt w.heap.size R _ P X [] _ _ _ _ _ (by simp) (((door_below w _).block R hlt).trans HH.out)).mono ?_
    rintro e u' w'' ⟨rfl, rfl, hr2, hg2⟩
    obtain ⟨Z1, Z2⟩ := RdS.noted HO.out HK.out hl hp hn (door_below w _) hr2 hg2 HH.out
    exact ⟨_, results_tmp rfl _ _ _, rfl, Z1, Z2⟩
  · go_simp
    refine hK _ _ ?_
    clear hK K
    refine wpAny_ready (rs := [0, 2]) (by kernel_rfl) (by simp) ?_
    refine AllReady.cons rfl (fun K hK => ?_) (AllReady.cons rfl (fun K hK => ?_) AllReady.nil)
    · go_simp
      refine hK _ _ ?_
      clear hK K
      refine wpAny_ready (rs := [2]) (by kernel_rfl) (by simp) ?_
      refine AllReady.cons rfl (fun K hK => ?_) AllReady.nil
      go_simp
      refine hK _ _ ?_
      clear hK K
      refine wpAny_ready (rs := [3]) (by kernel_rfl) (by simp) ?_
      refine AllReady.cons rfl (fun K hK => ?_) AllReady.nil
      go_simp
      refine hK _ _ ?_
      clear hK K
      refine wpAny_ready (rs := [4]) (by kernel_rfl) (by simp) ?_
      refine AllReady.cons rfl (fun K hK => ?_) AllReady.nil
      go_simp
      refine hK _ _ ?_
      clear hK K
      refine wpAny_ready (rs := [5]) (by kernel_rfl) (by simp) ?_
      refine AllReady.cons rfl (fun K hK => ?_) AllReady.nil
      go_simp
      refine (HU.out _ (by exact door_below w _)).mono ?_
      rintro e w1 ⟨rfl, rfl⟩
      refine leaves_cons (f := 94) (args := #[.pointer (some ⟨w.heap.size, 0, none⟩)]) (by simp) (by simp [go_sem]) ?_
      refine (catch25_flt w.heap.size R _ P X [] _ _ _ _ _ (by simp) (((door_below w _).block R hlt).trans HH.out)).mono ?_
      rintro e u' w'' ⟨rfl, rfl, hr2, hg2⟩
      obtain ⟨Z1, Z2⟩ := RdS.noted HO.out HK.out hl hp hn (door_below w _) hr2 hg2 HH.out
      exact ⟨_, results_tmp rfl _ _ _, rfl, Z1, Z2⟩
    · go_simp
      refine hK _ _ ?_
      clear hK K
      refine wpAny_ready (rs := [0, 3]) (by kernel_rfl) (by simp) ?_
      refine AllReady.cons rfl (fun K hK => ?_) (AllReady.cons rfl (fun K hK => ?_) AllReady.nil)
      · go_simp
        refine hK _ _ ?_
        clear hK K
        refine wpAny_ready (rs := [3]) (by kernel_rfl) (by simp) ?_
        refine AllReady.cons rfl (fun K hK => ?_) AllReady.nil
        go_simp
        refine hK _ _ ?_
        clear hK K
        refine wpAny_ready (rs := [4]) (by kernel_rfl) (by simp) ?_
        refine AllReady.cons rfl (fun K hK => ?_) AllReady.nil
        go_simp
        refine hK _ _ ?_
        clear hK K
        refine wpAny_ready (rs := [5]) (by kernel_rfl) (by simp) ?_
        refine AllReady.cons rfl (fun K hK => ?_) AllReady.nil
        go_simp
        refine (HU.out _ (by exact door_below w _)).mono ?_
        rintro e w1 ⟨rfl, rfl⟩
        refine leaves_cons (f := 94) (args := #[.pointer (some ⟨w.heap.size, 0, none⟩)]) (by simp) (by simp [go_sem]) ?_
        refine (catch25_flt w.heap.size R _ P X [] _ _ _ _ _ (by simp) (((door_below w _).block R hlt).trans HH.out)).mono ?_
        rintro e u' w'' ⟨rfl, rfl, hr2, hg2⟩
        obtain ⟨Z1, Z2⟩ := RdS.noted HO.out HK.out hl hp hn (door_below w _) hr2 hg2 HH.out
        exact ⟨_, results_tmp rfl _ _ _, rfl, Z1, Z2⟩
      · go_simp
        refine hK _ _ ?_
        clear hK K
        refine wpAny_ready (rs := [0, 4]) (by kernel_rfl) (by simp) ?_
        refine AllReady.cons rfl (fun K hK => ?_) (AllReady.cons rfl (fun K hK => ?_) AllReady.nil)
        · go_simp
          refine hK _ _ ?_
          clear hK K
          refine wpAny_ready (rs := [4]) (by kernel_rfl) (by simp) ?_
          refine AllReady.cons rfl (fun K hK => ?_) AllReady.nil
          go_simp
          refine hK _ _ ?_
          clear hK K
          refine wpAny_ready (rs := [5]) (by kernel_rfl) (by simp) ?_
          refine AllReady.cons rfl (fun K hK => ?_) AllReady.nil
          go_simp
          refine (HU.out _ (by exact door_below w _)).mono ?_
          rintro e w1 ⟨rfl, rfl⟩
          refine leaves_cons (f := 94) (args := #[.pointer (some ⟨w.heap.size, 0, none⟩)]) (by simp) (by simp [go_sem]) ?_
          refine (catch25_flt w.heap.size R _ P X [] _ _ _ _ _ (by simp) (((door_below w _).block R hlt).trans HH.out)).mono ?_
          rintro e u' w'' ⟨rfl, rfl, hr2, hg2⟩
          obtain ⟨Z1, Z2⟩ := RdS.noted HO.out HK.out hl hp hn (door_below w _) hr2 hg2 HH.out
          exact ⟨_, results_tmp rfl _ _ _, rfl, Z1, Z2⟩
        · go_simp
          refine hK _ _ ?_
          clear hK K
          refine wpAny_ready (rs := [0]) (by kernel_rfl) (by simp) ?_
          refine AllReady.cons rfl (fun K hK => ?_) AllReady.nil
          go_simp
          refine hK _ _ ?_
          clear hK K
          refine wpAny_ready (rs := [5]) (by kernel_rfl) (by simp) ?_
          refine AllReady.cons rfl (fun K hK => ?_) AllReady.nil
          go_simp
          refine (HU.out _ (by exact door_below w _)).mono ?_
          rintro e w1 ⟨rfl, rfl⟩
          refine leaves_cons (f := 94) (args := #[.pointer (some ⟨w.heap.size, 0, none⟩)]) (by simp) (by simp [go_sem]) ?_
          refine (catch25_flt w.heap.size R _ P X [] _ _ _ _ _ (by simp) (((door_below w _).block R hlt).trans HH.out)).mono ?_
          rintro e u' w'' ⟨rfl, rfl, hr2, hg2⟩
          obtain ⟨Z1, Z2⟩ := RdS.noted HO.out HK.out hl hp hn (door_below w _) hr2 hg2 HH.out
          exact ⟨_, results_tmp rfl _ _ _, rfl, Z1, Z2⟩

set_option maxHeartbeats 800000 in
set_option maxRecDepth 100000 in
theorem uint_val (lo R most : Nat) (l : List Int) (p : Nat) (fa : Int) (n k : Nat) (w : World) (hr : RdS w lo R l ⟨p, fa, 0⟩) (hpk : p + k ≤ l.length)
    (hU : ∀ (w' : World), Below w.heap.size w w' → Calls Tryz.prog 95 #[.pointer (some ⟨R, 0, none⟩), .int .i64 p] w' fun x w'' => x = .returned (.tuple #[.int .u64 n, .int .i64 ((p + k : Nat) : Int)]) ∧ w'' = w') :
    Calls Tryz.prog 61 #[.pointer (some ⟨R, 0, none⟩), .int .u64 most] w fun e w' => e = .returned (.int .u64 ((if n ≤ most then n else 0 : Nat) : Int)) ∧ RdS w' lo R l (if n ≤ most then ⟨p + k, fa, 0⟩ else ⟨p, p, 12⟩) ∧ w.grownBy w' (some R) := by
  obtain ⟨v, hh, ho, hk, hl, hp, hn⟩ := hr
  obtain ⟨ao, cap, hv, hcap, hat⟩ := ownAt ho
  subst hv
  simp only at hh hp
  obtain ⟨h0, h1, h2, h3, h4, hfz⟩ := cells_of hh
  have hlt : R < w.heap.size := (Array.getElem?_eq_some_iff.1 hh).1
  have HH : Hid (w.heap[R]? = some (.cells #[.slice ao l.length cap, .int .i64 p, .int .i64 fa, .string ⟨#[]⟩, .int .i64 0] 77 (0, 0))) := hh
  have HO : Hid (Owns w lo (.slice ao l.length cap) l) := ho
  have HK : Hid (∀ k, (Value.slice ao l.length cap).ownBlock = some k → k < R) := hk
  have HU : Hid (∀ (w' : World), Below w.heap.size w w' → Calls Tryz.prog 95 #[.pointer (some ⟨R, 0, none⟩), .int .i64 p] w' fun x w'' => x = .returned (.tuple #[.int .u64 n, .int .i64 ((p : Int) + k)]) ∧ w'' = w') := hU
  clear hU hh ho hk h2 h3 hat
  have hmf' := hmf
  have hc1 : ∀ (o : Obj), (w.alloc o).cell? ⟨R, 1, none⟩ = some (.int .i64 p) := fun o => by rw [World.cell?_alloc_past _ _ _ hlt]; exact h1
  by_cases hm : n ≤ most
  · rw [if_pos hm, if_pos hm]
    go_enter_defers Tryz.func61, Tryz.ntmps61
    go_wp2_with (go_at_call 90; refine (failed_any R 0 _ (by simp [World.cell?_alloc_past _ _ _ hlt, h4])).mono ?_; rintro e w1 ⟨rfl, rfl⟩)
    go_quiet ((go_at_call 95; exact Calls.quiet_of_same (HU.out _ (by exact door_belowN w _ _))))
    go_wp2
    refine leaves_cons (f := 94) (args := #[.pointer (some ⟨w.heap.size, 0, none⟩)]) (by simp) (by simp [go_sem]) ?_
    obtain ⟨Z1, Z2, Z3⟩ := RdS.moved HH.out HO.out HK.out hl hn (Obj.cells #[Value.pointer (some { block := R, off := 0 })] 58) nq ((p : Int) + k) (p + k) (by simp) hpk
    refine (catch25_idle w.heap.size R _ (Z3.trans (by simp))).mono ?_
    rintro e u' w'' ⟨rfl, rfl, rfl⟩
    exact ⟨_, results_tmp rfl _ _ _, rfl, Z1, Z2⟩
  · rw [if_neg hm, if_neg hm]
    go_enter_defers Tryz.func61, Tryz.ntmps61
    go_wp2_with (go_at_call 90; refine (failed_any R 0 _ (by simp [World.cell?_alloc_past _ _ _ hlt, h4])).mono ?_; rintro e w1 ⟨rfl, rfl⟩)
    go_quiet ((go_at_call 95; exact Calls.quiet_of_same (HU.out _ (by exact door_belowN w _ _))))
    go_wp2_with (go_at_call 96; refine (giveUp_any _ _ _).mono ?_; rintro e w1 ⟨rfl, rfl⟩)
    refine leaves_cons (f := 94) (args := #[.pointer (some ⟨w.heap.size, 0, none⟩)]) (by simp) (by simp [go_sem]) ?_
    refine (catch25_flt w.heap.size R _ p 12 [] _ _ _ _ _ (by simp) (((door_belowN w _ _).block R hlt).trans HH.out)).mono ?_
    rintro e u' w'' ⟨rfl, rfl, hr2, hg2⟩
    obtain ⟨Z1, Z2⟩ := RdS.noted HO.out HK.out hl hp hn (door_belowN w _ _) hr2 hg2 HH.out
    exact ⟨_, results_tmp rfl _ _ _, rfl, Z1, Z2⟩

/-- (*Reader).Uint, whatever the reader. -/
theorem uint_any (lo R most : Nat) (l : List Int) (s : St) (w : World) (hr : RdS w lo R l s) (hB : Bytes l) :
    Calls Tryz.prog 61 #[.pointer (some ⟨R, 0, none⟩), .int .u64 most] w fun e w' => e = .returned (.int .u64 (uintS l s most).1) ∧ RdS w' lo R l (uintS l s most).2 ∧ w.grownBy w' (some R) := by
  obtain ⟨p, fa, fe⟩ := s
  by_cases hf : fe = 0
  · subst hf
    have hp : p ≤ l.length := by obtain ⟨_, _, _, _, _, hp, _⟩ := hr; exact hp
    have hU := uintAt_of hr hB
    cases hrd : rd 0 (l.drop p) with
    | ok n k =>
      rw [hrd] at hU
      have hk := (rd_le _ _ _ _ hrd).2
      refine (uint_val lo R most l p fa n k w hr (by simp at hk; omega) hU).mono ?_
      rintro e w' ⟨rfl, h1, h2⟩
      by_cases hm : n ≤ most
      · rw [if_pos hm] at h1
        refine ⟨by simp [uintS, hrd, hm], by simpa [uintS, hrd, hm] using h1, h2⟩
      · rw [if_neg hm] at h1
        refine ⟨by simp [uintS, hrd, hm], by simpa [uintS, hrd, hm] using h1, h2⟩
    | form i =>
      rw [hrd] at hU
      refine (uint_pan lo R most l p fa _ _ w hr hU).mono ?_
      rintro e w' ⟨rfl, h1, h2⟩
      exact ⟨by simp [uintS, hrd], by simpa [uintS, hrd] using h1, h2⟩
    | short =>
      rw [hrd] at hU
      refine (uint_pan lo R most l p fa _ _ w hr hU).mono ?_
      rintro e w' ⟨rfl, h1, h2⟩
      exact ⟨by simp [uintS, hrd], by simpa [uintS, hrd] using h1, h2⟩
  · refine (uint_fault lo R most l _ w hr hf).mono ?_
    rintro e w' ⟨rfl, h1, h2⟩
    exact ⟨by simp [uintS, hf], by simpa [uintS, hf] using h1, h2⟩
end Go.Proofs.YthpelabmfpogbaaGreatDoor
