/-
  The statements' pair of readers: does.
-/
import Derived.Test.YthpelabmfpogbaaGreatDoorTwo
namespace Go.Proofs.YthpelabmfpogbaaGreatDoor
open Go.RowKit Wire Bk

set_option maxHeartbeats 3200000 in
set_option maxRecDepth 100000 in
theorem does_byte (lo K n : Nat) (B : Nat → Prop) (loR R loM M : Nat) (l : List Int) (s : St) (sec : Bool) (most : Nat) (nn mark : Int) (w : World) (h : Two w lo K n B loR R loM M l s) :
    Calls Tryz.prog 19 #[.agg #[.pointer (some ⟨R, 0, none⟩), .pointer (some ⟨M, 0, none⟩)], .pointer (some ⟨K, 0, none⟩), .agg #[.int .i64 1, .bool sec, .int .u64 most, .int .i64 nn], .int .i64 mark] w fun e w' => e = .returned (.bool true) ∧ DoesTo w w' lo K n B loR R loM M l := by
  have hlo : lo ≤ w.heap.size := by have := h.ge; have := h.le; have := h.rd.lt; omega
  obtain ⟨wb, ewb⟩ : ∃ wb, (w.alloc (.cells #[.pointer (some ⟨R, 0, none⟩), .pointer (some ⟨M, 0, none⟩)] 63)).alloc (.cells #[.int .i64 1, .bool sec, .int .u64 most, .int .i64 nn] 66) = wb := ⟨_, rfl⟩
  have bb : Below w.heap.size w wb := by rw [← ewb]; exact ((Below.refl _ _).alloc (Nat.le_refl _) _).alloc (by simp) _
  have h0 := h.up bb
  have H : Hid (Two wb lo K n B loR R loM M l s) := h0
  have HBB : Hid (Below w.heap.size w wb) := bb
  have HSZ : Hid (wb.heap.size = w.heap.size + 2) := by
    show _ = _
    rw [← ewb]; simp
  have b0 : wb.cell? ⟨w.heap.size, 0, none⟩ = some (.pointer (some ⟨R, 0, none⟩)) := by rw [← ewb]; exact cellB (Below.heap_alloc _ _ _ (by simp)) (by simp)
  have b1 : wb.cell? ⟨w.heap.size, 1, none⟩ = some (.pointer (some ⟨M, 0, none⟩)) := by rw [← ewb]; exact cellB (Below.heap_alloc _ _ _ (by simp)) (by simp)
  have ob : ∀ j u, (#[.int .i64 1, .bool sec, .int .u64 most, .int .i64 nn] : Array Value)[j]? = some u → wb.cell? ⟨w.heap.size + 1, j, none⟩ = some u := fun j u hu => by
    rw [← ewb]
    have := World.cell?_alloc_new (w.alloc (.cells #[.pointer (some ⟨R, 0, none⟩), .pointer (some ⟨M, 0, none⟩)] 63)) #[.int .i64 1, .bool sec, .int .u64 most, .int .i64 nn] 66 j
    rw [show (w.alloc (.cells #[.pointer (some ⟨R, 0, none⟩), .pointer (some ⟨M, 0, none⟩)] 63)).heap.size = w.heap.size + 1 by simp] at this
    rw [this]; exact hu
  have o0 : wb.cell? ⟨w.heap.size + 1, 0, none⟩ = some (.int .i64 1) := ob 0 _ rfl
  have o2 : wb.cell? ⟨w.heap.size + 1, 2, none⟩ = some (.int .u64 most) := ob 2 _ rfl
  have o3 : wb.cell? ⟨w.heap.size + 1, 3, none⟩ = some (.int .i64 nn) := ob 3 _ rfl
  have hR : R < w.heap.size := h.rd.lt
  have hM : M < w.heap.size := h.rf.lt
  have hRM : R < loM ∧ loM ≤ M := ⟨h.lt, h.le2⟩
  obtain ⟨b, eb⟩ : ∃ b, (Value.int .u8 (byteS l s).1) = b := ⟨_, rfl⟩
  obtain ⟨s1, es⟩ : ∃ s1, (byteS l s).2 = s1 := ⟨_, rfl⟩
  have CP : Hid (∀ wz, RdS wz loR R l s → Calls Tryz.prog 59 #[.pointer (some ⟨R, 0, none⟩)] wz fun e w' => e = .returned b ∧ RdS w' loR R l s1 ∧ wz.grownBy w' (some R)) := fun wz hz => by
    rw [← eb, ← es]; exact byte_any loR R l s wz hz
  have CF : Hid (∀ wz, RfS wz loM M l s → Calls Tryz.prog 60 #[.pointer (some ⟨M, 0, none⟩)] wz fun e w' => e = .returned b ∧ RfS w' loM M l s1 ∧ wz.grownBy w' (some M)) := fun wz hz => by
    rw [← eb, ← es]; exact refByte_any loM M l s wz hz
  have A0 : Hid (RdS wb.drew loR R l s) := h0.rd.grown ⟨rfl, rfl, rfl, Nat.le_refl _, fun _ _ => rfl⟩
  have F0 : Hid (RfS wb.drew loM M l s) := h0.rf.kept fun _ _ _ => rfl
  have HD : Hid (Two wb.drew lo K n B loR R loM M l s) := h0.up ⟨rfl, rfl, rfl, Nat.le_refl _, fun _ _ => rfl⟩
  obtain ⟨bi, ebv⟩ : ∃ bi, b = Value.int .u8 bi := by rw [← eb]; exact ⟨_, rfl⟩
  subst ebv
  have d0 : wb.drew.cell? ⟨w.heap.size, 0, none⟩ = some (.pointer (some ⟨R, 0, none⟩)) := b0
  have d1 : wb.drew.cell? ⟨w.heap.size, 1, none⟩ = some (.pointer (some ⟨M, 0, none⟩)) := b1
  have hds : wb.drew.heap.size = w.heap.size + 2 := HSZ.out
  have HDS : Hid (wb.drew.heap.size = w.heap.size + 2) := hds
  clear bb h h0 eb es ob hds
  go_enter Tryz.func19, Tryz.ntmps19
  go_wp2_with fail
  go_region_held3 (fun w' => w'.cell? ⟨w.heap.size, 0, none⟩ = some (.pointer (some ⟨R, 0, none⟩)) ∧ w'.cell? ⟨w.heap.size, 1, none⟩ = some (.pointer (some ⟨M, 0, none⟩))) (first | go_keep | (refine ⟨?_, ?_⟩ <;> assumption))
    (first
    | (go_at_call 59
       refine (CP.out _ (by first | exact A0.out | exact A1.out)).mono ?_
       rintro e w1 ⟨rfl, r1, g1⟩
       have k0 : w1.cell? ⟨w.heap.size, 0, none⟩ = some (.pointer (some ⟨R, 0, none⟩)) := g1.cell (by assumption) (by simp; omega)
       have k1 : w1.cell? ⟨w.heap.size, 1, none⟩ = some (.pointer (some ⟨M, 0, none⟩)) := g1.cell (by assumption) (by simp; omega)
       first
         | (have G1 : Hid (wb.drew.grownBy w1 (some R)) := g1
            have F1 : Hid (RfS w1 loM M l s) := F0.out.kept fun k q1 q2 => g1.block k (by have := HDS.out; omega) (fun e => by injection e with e; omega)
            have P1 : Hid (RdS w1 loR R l s1) := r1)
         | (have E0 : Hid (DoesTo wb.drew w1 lo K n B loR R loM M l) := HD.out.both' (by have := HDS.out; omega) GM1.out g1 PM1.out r1
            have E1 : Hid (RdS w1 loR R l s1) := r1
            have E2 : Hid (RfS w1 loM M l s1) := PM1.out.kept fun k q1 q2 => g1.block k (by have := HDS.out; have := GM1.out.size; omega) (fun e => by injection e with e; omega)
            have hsz1 : Hid (w.heap.size + 2 ≤ w1.heap.size) := by have := HDS.out; have := GM1.out.size; have := g1.size; show _ ≤ _; omega)
       clear r1 g1)
    | (go_at_call 60
       refine (CF.out _ (by first | exact F0.out | exact F1.out)).mono ?_
       rintro e w1 ⟨rfl, r1, g1⟩
       have k0 : w1.cell? ⟨w.heap.size, 0, none⟩ = some (.pointer (some ⟨R, 0, none⟩)) := g1.cell (by assumption) (by simp; omega)
       have k1 : w1.cell? ⟨w.heap.size, 1, none⟩ = some (.pointer (some ⟨M, 0, none⟩)) := g1.cell (by assumption) (by simp; omega)
       first
         | (have GM1 : Hid (wb.drew.grownBy w1 (some M)) := g1
            have A1 : Hid (RdS w1 loR R l s) := Rdr.kept A0.out fun k q1 q2 => g1.block k (by have := HDS.out; omega) (fun e => by injection e with e; omega)
            have PM1 : Hid (RfS w1 loM M l s1) := r1)
         | (have E0 : Hid (DoesTo wb.drew w1 lo K n B loR R loM M l) := HD.out.both (by have := HDS.out; omega) G1.out g1 P1.out r1
            have E1 : Hid (RdS w1 loR R l s1) := Rdr.kept P1.out fun k q1 q2 => g1.block k (by have := HDS.out; have := G1.out.size; omega) (fun e => by injection e with e; omega)
            have E2 : Hid (RfS w1 loM M l s1) := r1
            have hsz1 : Hid (w.heap.size + 2 ≤ w1.heap.size) := by have := HDS.out; have := G1.out.size; have := g1.size; show _ ≤ _; omega)
       clear r1 g1))
  all_goals
    have ST : Hid (∀ wz, Below w1.heap.size w1 wz → Calls Tryz.prog 18 #[.agg #[.pointer (some ⟨R, 0, none⟩), .pointer (some ⟨M, 0, none⟩)]] wz fun e w' => e = .returned (.bool true) ∧ Below w1.heap.size w1 w') := fun wz hz =>
      (stands_any loR loM R M l l s1 wz (E1.out.grown hz) (E2.out.kept fun k _ hk => hz.block k (Nat.lt_of_le_of_lt hk E2.out.lt))).mono fun e w' ⟨q1, q2⟩ => ⟨q1, Below.up hz q2⟩
    have KC : Hid (∀ wz, Below w1.heap.size w1 wz → wz.cell? ⟨w.heap.size, 0, none⟩ = some (.pointer (some ⟨R, 0, none⟩)) ∧ wz.cell? ⟨w.heap.size, 1, none⟩ = some (.pointer (some ⟨M, 0, none⟩))) := fun wz hz =>
      ⟨(hz.cell (by have := hsz1.out; show w.heap.size < _; omega)).trans k0, (hz.cell (by have := hsz1.out; show w.heap.size < _; omega)).trans k1⟩
    go_wp2_with (go_at_call 18; refine (ST.out _ (by first | exact Below.refl _ _ | exact hb5)).mono ?_; rintro e w5 ⟨rfl, hb5⟩; obtain ⟨k05, k15⟩ := KC.out w5 hb5)
    go_ret
    exact ⟨rfl, DoesTo.from (show Below w.heap.size w wb.drew from ⟨HBB.out.os, HBB.out.tape, HBB.out.output, HBB.out.size, HBB.out.block⟩) hlo (E0.out.up hb5 (by have := HDS.out; omega))⟩

set_option maxHeartbeats 3200000 in
set_option maxRecDepth 100000 in
theorem does_uint (lo K n : Nat) (B : Nat → Prop) (loR R loM M : Nat) (l : List Int) (s : St) (sec : Bool) (most : Nat) (nn mark : Int) (w : World) (h : Two w lo K n B loR R loM M l s) (hB : Bytes l) :
    Calls Tryz.prog 19 #[.agg #[.pointer (some ⟨R, 0, none⟩), .pointer (some ⟨M, 0, none⟩)], .pointer (some ⟨K, 0, none⟩), .agg #[.int .i64 2, .bool sec, .int .u64 most, .int .i64 nn], .int .i64 mark] w fun e w' => e = .returned (.bool true) ∧ DoesTo w w' lo K n B loR R loM M l := by
  have hlo : lo ≤ w.heap.size := by have := h.ge; have := h.le; have := h.rd.lt; omega
  obtain ⟨wb, ewb⟩ : ∃ wb, (w.alloc (.cells #[.pointer (some ⟨R, 0, none⟩), .pointer (some ⟨M, 0, none⟩)] 63)).alloc (.cells #[.int .i64 2, .bool sec, .int .u64 most, .int .i64 nn] 66) = wb := ⟨_, rfl⟩
  have bb : Below w.heap.size w wb := by rw [← ewb]; exact ((Below.refl _ _).alloc (Nat.le_refl _) _).alloc (by simp) _
  have h0 := h.up bb
  have H : Hid (Two wb lo K n B loR R loM M l s) := h0
  have HBB : Hid (Below w.heap.size w wb) := bb
  have HSZ : Hid (wb.heap.size = w.heap.size + 2) := by
    show _ = _
    rw [← ewb]; simp
  have b0 : wb.cell? ⟨w.heap.size, 0, none⟩ = some (.pointer (some ⟨R, 0, none⟩)) := by rw [← ewb]; exact cellB (Below.heap_alloc _ _ _ (by simp)) (by simp)
  have b1 : wb.cell? ⟨w.heap.size, 1, none⟩ = some (.pointer (some ⟨M, 0, none⟩)) := by rw [← ewb]; exact cellB (Below.heap_alloc _ _ _ (by simp)) (by simp)
  have ob : ∀ j u, (#[.int .i64 2, .bool sec, .int .u64 most, .int .i64 nn] : Array Value)[j]? = some u → wb.cell? ⟨w.heap.size + 1, j, none⟩ = some u := fun j u hu => by
    rw [← ewb]
    have := World.cell?_alloc_new (w.alloc (.cells #[.pointer (some ⟨R, 0, none⟩), .pointer (some ⟨M, 0, none⟩)] 63)) #[.int .i64 2, .bool sec, .int .u64 most, .int .i64 nn] 66 j
    rw [show (w.alloc (.cells #[.pointer (some ⟨R, 0, none⟩), .pointer (some ⟨M, 0, none⟩)] 63)).heap.size = w.heap.size + 1 by simp] at this
    rw [this]; exact hu
  have o0 : wb.cell? ⟨w.heap.size + 1, 0, none⟩ = some (.int .i64 2) := ob 0 _ rfl
  have o2 : wb.cell? ⟨w.heap.size + 1, 2, none⟩ = some (.int .u64 most) := ob 2 _ rfl
  have o3 : wb.cell? ⟨w.heap.size + 1, 3, none⟩ = some (.int .i64 nn) := ob 3 _ rfl
  have hR : R < w.heap.size := h.rd.lt
  have hM : M < w.heap.size := h.rf.lt
  have hRM : R < loM ∧ loM ≤ M := ⟨h.lt, h.le2⟩
  obtain ⟨b, eb⟩ : ∃ b, (Value.int .u64 (uintS l s most).1) = b := ⟨_, rfl⟩
  obtain ⟨s1, es⟩ : ∃ s1, (uintS l s most).2 = s1 := ⟨_, rfl⟩
  have CP : Hid (∀ wz, RdS wz loR R l s → Calls Tryz.prog 61 #[.pointer (some ⟨R, 0, none⟩), .int .u64 most] wz fun e w' => e = .returned b ∧ RdS w' loR R l s1 ∧ wz.grownBy w' (some R)) := fun wz hz => by
    rw [← eb, ← es]; exact uint_any loR R most l s wz hz hB
  have CF : Hid (∀ wz, RfS wz loM M l s → Calls Tryz.prog 62 #[.pointer (some ⟨M, 0, none⟩), .int .u64 most] wz fun e w' => e = .returned b ∧ RfS w' loM M l s1 ∧ wz.grownBy w' (some M)) := fun wz hz => by
    rw [← eb, ← es]; exact refUint_any loM M most l s wz hz hB
  have A0 : Hid (RdS wb.drew loR R l s) := h0.rd.grown ⟨rfl, rfl, rfl, Nat.le_refl _, fun _ _ => rfl⟩
  have F0 : Hid (RfS wb.drew loM M l s) := h0.rf.kept fun _ _ _ => rfl
  have HD : Hid (Two wb.drew lo K n B loR R loM M l s) := h0.up ⟨rfl, rfl, rfl, Nat.le_refl _, fun _ _ => rfl⟩
  obtain ⟨bi, ebv⟩ : ∃ bi, b = Value.int .u64 bi := by rw [← eb]; exact ⟨_, rfl⟩
  subst ebv
  have d0 : wb.drew.cell? ⟨w.heap.size, 0, none⟩ = some (.pointer (some ⟨R, 0, none⟩)) := b0
  have d1 : wb.drew.cell? ⟨w.heap.size, 1, none⟩ = some (.pointer (some ⟨M, 0, none⟩)) := b1
  have d2 : wb.drew.cell? ⟨w.heap.size + 1, 2, none⟩ = some (.int .u64 most) := o2
  have hds : wb.drew.heap.size = w.heap.size + 2 := HSZ.out
  have HDS : Hid (wb.drew.heap.size = w.heap.size + 2) := hds
  clear bb h h0 eb es ob hds
  go_enter Tryz.func19, Tryz.ntmps19
  go_wp2_with fail
  go_region_held3 (fun w' => w'.cell? ⟨w.heap.size, 0, none⟩ = some (.pointer (some ⟨R, 0, none⟩)) ∧ w'.cell? ⟨w.heap.size, 1, none⟩ = some (.pointer (some ⟨M, 0, none⟩)) ∧ w'.cell? ⟨w.heap.size + 1, 2, none⟩ = some (.int .u64 most)) (first | go_keep | (refine ⟨?_, ?_, ?_⟩ <;> assumption))
    (first
    | (go_at_call 61
       refine (CP.out _ (by first | exact A0.out | exact A1.out)).mono ?_
       rintro e w1 ⟨rfl, r1, g1⟩
       have k0 : w1.cell? ⟨w.heap.size, 0, none⟩ = some (.pointer (some ⟨R, 0, none⟩)) := g1.cell (by assumption) (by simp; omega)
       have k1 : w1.cell? ⟨w.heap.size, 1, none⟩ = some (.pointer (some ⟨M, 0, none⟩)) := g1.cell (by assumption) (by simp; omega)
       have k2 : w1.cell? ⟨w.heap.size + 1, 2, none⟩ = some (.int .u64 most) := g1.cell (by assumption) (by simp; omega)
       first
         | (have G1 : Hid (wb.drew.grownBy w1 (some R)) := g1
            have F1 : Hid (RfS w1 loM M l s) := F0.out.kept fun k q1 q2 => g1.block k (by have := HDS.out; omega) (fun e => by injection e with e; omega)
            have P1 : Hid (RdS w1 loR R l s1) := r1)
         | (have E0 : Hid (DoesTo wb.drew w1 lo K n B loR R loM M l) := HD.out.both' (by have := HDS.out; omega) GM1.out g1 PM1.out r1
            have E1 : Hid (RdS w1 loR R l s1) := r1
            have E2 : Hid (RfS w1 loM M l s1) := PM1.out.kept fun k q1 q2 => g1.block k (by have := HDS.out; have := GM1.out.size; omega) (fun e => by injection e with e; omega)
            have hsz1 : Hid (w.heap.size + 2 ≤ w1.heap.size) := by have := HDS.out; have := GM1.out.size; have := g1.size; show _ ≤ _; omega)
       clear r1 g1)
    | (go_at_call 62
       refine (CF.out _ (by first | exact F0.out | exact F1.out)).mono ?_
       rintro e w1 ⟨rfl, r1, g1⟩
       have k0 : w1.cell? ⟨w.heap.size, 0, none⟩ = some (.pointer (some ⟨R, 0, none⟩)) := g1.cell (by assumption) (by simp; omega)
       have k1 : w1.cell? ⟨w.heap.size, 1, none⟩ = some (.pointer (some ⟨M, 0, none⟩)) := g1.cell (by assumption) (by simp; omega)
       have k2 : w1.cell? ⟨w.heap.size + 1, 2, none⟩ = some (.int .u64 most) := g1.cell (by assumption) (by simp; omega)
       first
         | (have GM1 : Hid (wb.drew.grownBy w1 (some M)) := g1
            have A1 : Hid (RdS w1 loR R l s) := Rdr.kept A0.out fun k q1 q2 => g1.block k (by have := HDS.out; omega) (fun e => by injection e with e; omega)
            have PM1 : Hid (RfS w1 loM M l s1) := r1)
         | (have E0 : Hid (DoesTo wb.drew w1 lo K n B loR R loM M l) := HD.out.both (by have := HDS.out; omega) G1.out g1 P1.out r1
            have E1 : Hid (RdS w1 loR R l s1) := Rdr.kept P1.out fun k q1 q2 => g1.block k (by have := HDS.out; have := G1.out.size; omega) (fun e => by injection e with e; omega)
            have E2 : Hid (RfS w1 loM M l s1) := r1
            have hsz1 : Hid (w.heap.size + 2 ≤ w1.heap.size) := by have := HDS.out; have := G1.out.size; have := g1.size; show _ ≤ _; omega)
       clear r1 g1))
  all_goals
    have ST : Hid (∀ wz, Below w1.heap.size w1 wz → Calls Tryz.prog 18 #[.agg #[.pointer (some ⟨R, 0, none⟩), .pointer (some ⟨M, 0, none⟩)]] wz fun e w' => e = .returned (.bool true) ∧ Below w1.heap.size w1 w') := fun wz hz =>
      (stands_any loR loM R M l l s1 wz (E1.out.grown hz) (E2.out.kept fun k _ hk => hz.block k (Nat.lt_of_le_of_lt hk E2.out.lt))).mono fun e w' ⟨q1, q2⟩ => ⟨q1, Below.up hz q2⟩
    have KC : Hid (∀ wz, Below w1.heap.size w1 wz → wz.cell? ⟨w.heap.size, 0, none⟩ = some (.pointer (some ⟨R, 0, none⟩)) ∧ wz.cell? ⟨w.heap.size, 1, none⟩ = some (.pointer (some ⟨M, 0, none⟩))) := fun wz hz =>
      ⟨(hz.cell (by have := hsz1.out; show w.heap.size < _; omega)).trans k0, (hz.cell (by have := hsz1.out; show w.heap.size < _; omega)).trans k1⟩
    go_wp2_with (go_at_call 18; refine (ST.out _ (by first | exact Below.refl _ _ | exact hb5)).mono ?_; rintro e w5 ⟨rfl, hb5⟩; obtain ⟨k05, k15⟩ := KC.out w5 hb5)
    go_ret
    exact ⟨rfl, DoesTo.from (show Below w.heap.size w wb.drew from ⟨HBB.out.os, HBB.out.tape, HBB.out.output, HBB.out.size, HBB.out.block⟩) hlo (E0.out.up hb5 (by have := HDS.out; omega))⟩

set_option maxHeartbeats 3200000 in
set_option maxRecDepth 100000 in
theorem does_text (lo K n : Nat) (B : Nat → Prop) (loR R loM M : Nat) (l : List Int) (s : St) (sec : Bool) (most : Nat) (nn mark : Int) (w : World) (h : Two w lo K n B loR R loM M l s) (hB : Bytes l) (hnn : -9223372036854775808 ≤ nn ∧ nn ≤ 9223372036854775807) :
    Calls Tryz.prog 19 #[.agg #[.pointer (some ⟨R, 0, none⟩), .pointer (some ⟨M, 0, none⟩)], .pointer (some ⟨K, 0, none⟩), .agg #[.int .i64 3, .bool sec, .int .u64 most, .int .i64 nn], .int .i64 mark] w fun e w' => e = .returned (.bool true) ∧ DoesTo w w' lo K n B loR R loM M l := by
  have hlo : lo ≤ w.heap.size := by have := h.ge; have := h.le; have := h.rd.lt; omega
  obtain ⟨wb, ewb⟩ : ∃ wb, (w.alloc (.cells #[.pointer (some ⟨R, 0, none⟩), .pointer (some ⟨M, 0, none⟩)] 63)).alloc (.cells #[.int .i64 3, .bool sec, .int .u64 most, .int .i64 nn] 66) = wb := ⟨_, rfl⟩
  have bb : Below w.heap.size w wb := by rw [← ewb]; exact ((Below.refl _ _).alloc (Nat.le_refl _) _).alloc (by simp) _
  have h0 := h.up bb
  have H : Hid (Two wb lo K n B loR R loM M l s) := h0
  have HBB : Hid (Below w.heap.size w wb) := bb
  have HSZ : Hid (wb.heap.size = w.heap.size + 2) := by
    show _ = _
    rw [← ewb]; simp
  have b0 : wb.cell? ⟨w.heap.size, 0, none⟩ = some (.pointer (some ⟨R, 0, none⟩)) := by rw [← ewb]; exact cellB (Below.heap_alloc _ _ _ (by simp)) (by simp)
  have b1 : wb.cell? ⟨w.heap.size, 1, none⟩ = some (.pointer (some ⟨M, 0, none⟩)) := by rw [← ewb]; exact cellB (Below.heap_alloc _ _ _ (by simp)) (by simp)
  have ob : ∀ j u, (#[.int .i64 3, .bool sec, .int .u64 most, .int .i64 nn] : Array Value)[j]? = some u → wb.cell? ⟨w.heap.size + 1, j, none⟩ = some u := fun j u hu => by
    rw [← ewb]
    have := World.cell?_alloc_new (w.alloc (.cells #[.pointer (some ⟨R, 0, none⟩), .pointer (some ⟨M, 0, none⟩)] 63)) #[.int .i64 3, .bool sec, .int .u64 most, .int .i64 nn] 66 j
    rw [show (w.alloc (.cells #[.pointer (some ⟨R, 0, none⟩), .pointer (some ⟨M, 0, none⟩)] 63)).heap.size = w.heap.size + 1 by simp] at this
    rw [this]; exact hu
  have o0 : wb.cell? ⟨w.heap.size + 1, 0, none⟩ = some (.int .i64 3) := ob 0 _ rfl
  have o2 : wb.cell? ⟨w.heap.size + 1, 2, none⟩ = some (.int .u64 most) := ob 2 _ rfl
  have o3 : wb.cell? ⟨w.heap.size + 1, 3, none⟩ = some (.int .i64 nn) := ob 3 _ rfl
  have hR : R < w.heap.size := h.rd.lt
  have hM : M < w.heap.size := h.rf.lt
  have hRM : R < loM ∧ loM ≤ M := ⟨h.lt, h.le2⟩
  obtain ⟨b, eb⟩ : ∃ b, (Value.string (mkStr (textS l s nn).1)) = b := ⟨_, rfl⟩
  obtain ⟨s1, es⟩ : ∃ s1, (textS l s nn).2 = s1 := ⟨_, rfl⟩
  have CP : Hid (∀ wz, RdS wz loR R l s → Calls Tryz.prog 63 #[.pointer (some ⟨R, 0, none⟩), .int .i64 nn] wz fun e w' => e = .returned b ∧ RdS w' loR R l s1 ∧ wz.grownBy w' (some R)) := fun wz hz => by
    rw [← eb, ← es]; exact text_any loR R nn l s wz hz hB hnn
  have CF : Hid (∀ wz, RfS wz loM M l s → Calls Tryz.prog 64 #[.pointer (some ⟨M, 0, none⟩), .int .i64 nn] wz fun e w' => e = .returned b ∧ RfS w' loM M l s1 ∧ wz.grownBy w' (some M)) := fun wz hz => by
    rw [← eb, ← es]; exact refText_any loM M nn l s wz hz hB hnn
  have A0 : Hid (RdS wb.drew loR R l s) := h0.rd.grown ⟨rfl, rfl, rfl, Nat.le_refl _, fun _ _ => rfl⟩
  have F0 : Hid (RfS wb.drew loM M l s) := h0.rf.kept fun _ _ _ => rfl
  have HD : Hid (Two wb.drew lo K n B loR R loM M l s) := h0.up ⟨rfl, rfl, rfl, Nat.le_refl _, fun _ _ => rfl⟩
  obtain ⟨bi, ebv⟩ : ∃ bi, b = Value.string bi := by rw [← eb]; exact ⟨_, rfl⟩
  subst ebv
  have d0 : wb.drew.cell? ⟨w.heap.size, 0, none⟩ = some (.pointer (some ⟨R, 0, none⟩)) := b0
  have d1 : wb.drew.cell? ⟨w.heap.size, 1, none⟩ = some (.pointer (some ⟨M, 0, none⟩)) := b1
  have d3 : wb.drew.cell? ⟨w.heap.size + 1, 3, none⟩ = some (.int .i64 nn) := o3
  have hds : wb.drew.heap.size = w.heap.size + 2 := HSZ.out
  have HDS : Hid (wb.drew.heap.size = w.heap.size + 2) := hds
  clear bb h h0 eb es ob hds
  go_enter Tryz.func19, Tryz.ntmps19
  go_wp2_with fail
  go_region_held3 (fun w' => w'.cell? ⟨w.heap.size, 0, none⟩ = some (.pointer (some ⟨R, 0, none⟩)) ∧ w'.cell? ⟨w.heap.size, 1, none⟩ = some (.pointer (some ⟨M, 0, none⟩)) ∧ w'.cell? ⟨w.heap.size + 1, 3, none⟩ = some (.int .i64 nn)) (first | go_keep | (refine ⟨?_, ?_, ?_⟩ <;> assumption))
    (first
    | (go_at_call 63
       refine (CP.out _ (by first | exact A0.out | exact A1.out)).mono ?_
       rintro e w1 ⟨rfl, r1, g1⟩
       have k0 : w1.cell? ⟨w.heap.size, 0, none⟩ = some (.pointer (some ⟨R, 0, none⟩)) := g1.cell (by assumption) (by simp; omega)
       have k1 : w1.cell? ⟨w.heap.size, 1, none⟩ = some (.pointer (some ⟨M, 0, none⟩)) := g1.cell (by assumption) (by simp; omega)
       have k3 : w1.cell? ⟨w.heap.size + 1, 3, none⟩ = some (.int .i64 nn) := g1.cell (by assumption) (by simp; omega)
       first
         | (have G1 : Hid (wb.drew.grownBy w1 (some R)) := g1
            have F1 : Hid (RfS w1 loM M l s) := F0.out.kept fun k q1 q2 => g1.block k (by have := HDS.out; omega) (fun e => by injection e with e; omega)
            have P1 : Hid (RdS w1 loR R l s1) := r1)
         | (have E0 : Hid (DoesTo wb.drew w1 lo K n B loR R loM M l) := HD.out.both' (by have := HDS.out; omega) GM1.out g1 PM1.out r1
            have E1 : Hid (RdS w1 loR R l s1) := r1
            have E2 : Hid (RfS w1 loM M l s1) := PM1.out.kept fun k q1 q2 => g1.block k (by have := HDS.out; have := GM1.out.size; omega) (fun e => by injection e with e; omega)
            have hsz1 : Hid (w.heap.size + 2 ≤ w1.heap.size) := by have := HDS.out; have := GM1.out.size; have := g1.size; show _ ≤ _; omega)
       clear r1 g1)
    | (go_at_call 64
       refine (CF.out _ (by first | exact F0.out | exact F1.out)).mono ?_
       rintro e w1 ⟨rfl, r1, g1⟩
       have k0 : w1.cell? ⟨w.heap.size, 0, none⟩ = some (.pointer (some ⟨R, 0, none⟩)) := g1.cell (by assumption) (by simp; omega)
       have k1 : w1.cell? ⟨w.heap.size, 1, none⟩ = some (.pointer (some ⟨M, 0, none⟩)) := g1.cell (by assumption) (by simp; omega)
       have k3 : w1.cell? ⟨w.heap.size + 1, 3, none⟩ = some (.int .i64 nn) := g1.cell (by assumption) (by simp; omega)
       first
         | (have GM1 : Hid (wb.drew.grownBy w1 (some M)) := g1
            have A1 : Hid (RdS w1 loR R l s) := Rdr.kept A0.out fun k q1 q2 => g1.block k (by have := HDS.out; omega) (fun e => by injection e with e; omega)
            have PM1 : Hid (RfS w1 loM M l s1) := r1)
         | (have E0 : Hid (DoesTo wb.drew w1 lo K n B loR R loM M l) := HD.out.both (by have := HDS.out; omega) G1.out g1 P1.out r1
            have E1 : Hid (RdS w1 loR R l s1) := Rdr.kept P1.out fun k q1 q2 => g1.block k (by have := HDS.out; have := G1.out.size; omega) (fun e => by injection e with e; omega)
            have E2 : Hid (RfS w1 loM M l s1) := r1
            have hsz1 : Hid (w.heap.size + 2 ≤ w1.heap.size) := by have := HDS.out; have := G1.out.size; have := g1.size; show _ ≤ _; omega)
       clear r1 g1))
  all_goals
    have ST : Hid (∀ wz, Below w1.heap.size w1 wz → Calls Tryz.prog 18 #[.agg #[.pointer (some ⟨R, 0, none⟩), .pointer (some ⟨M, 0, none⟩)]] wz fun e w' => e = .returned (.bool true) ∧ Below w1.heap.size w1 w') := fun wz hz =>
      (stands_any loR loM R M l l s1 wz (E1.out.grown hz) (E2.out.kept fun k _ hk => hz.block k (Nat.lt_of_le_of_lt hk E2.out.lt))).mono fun e w' ⟨q1, q2⟩ => ⟨q1, Below.up hz q2⟩
    have KC : Hid (∀ wz, Below w1.heap.size w1 wz → wz.cell? ⟨w.heap.size, 0, none⟩ = some (.pointer (some ⟨R, 0, none⟩)) ∧ wz.cell? ⟨w.heap.size, 1, none⟩ = some (.pointer (some ⟨M, 0, none⟩))) := fun wz hz =>
      ⟨(hz.cell (by have := hsz1.out; show w.heap.size < _; omega)).trans k0, (hz.cell (by have := hsz1.out; show w.heap.size < _; omega)).trans k1⟩
    go_wp2_with (go_at_call 18; refine (ST.out _ (by first | exact Below.refl _ _ | exact hb5)).mono ?_; rintro e w5 ⟨rfl, hb5⟩; obtain ⟨k05, k15⟩ := KC.out w5 hb5)
    go_ret
    exact ⟨rfl, DoesTo.from (show Below w.heap.size w wb.drew from ⟨HBB.out.os, HBB.out.tape, HBB.out.output, HBB.out.size, HBB.out.block⟩) hlo (E0.out.up hb5 (by have := HDS.out; omega))⟩
end Go.Proofs.YthpelabmfpogbaaGreatDoor
