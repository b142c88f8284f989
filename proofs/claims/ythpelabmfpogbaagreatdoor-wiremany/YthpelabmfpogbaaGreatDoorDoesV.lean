/-
  The statements' pair of readers: does, the other kinds.
-/
import Derived.Test.YthpelabmfpogbaaGreatDoorDoesW
namespace Go.Proofs.YthpelabmfpogbaaGreatDoor
open Go.RowKit Wire Bk

/-- The Book has taken a list in. -/
theorem Two.booked {w3 w4 : World} {lo K n n' : Nat} {B B' : Nat → Prop} {loR R loM M : Nat} {l : List Int} {s : St} {v : Value} (T : Two w3 lo K n B loR R loM M l s) (hv : ∀ b, v.ownBlock = some b → R < b ∧ M < b) (bk : BookOk w4 lo K n' B')
    (fr : ∀ b, b < w3.heap.size → ¬ B b → v.ownBlock ≠ some b → w4.heap[b]? = w3.heap[b]? ∧ ¬ B' b) : Two w4 lo K n' B' loR R loM M l s := by
  have hR : R < w3.heap.size := T.rd.lt
  have hM : M < w3.heap.size := T.rf.lt
  have f1 : ∀ k, loR ≤ k → k ≤ R → w4.heap[k]? = w3.heap[k]? ∧ ¬ B' k := fun k q1 q2 => fr k (by omega) (T.nR k q1 q2) (fun e => by have := hv k e; omega)
  have f2 : ∀ k, loM ≤ k → k ≤ M → w4.heap[k]? = w3.heap[k]? ∧ ¬ B' k := fun k q1 q2 => fr k (by omega) (T.nM k q1 q2) (fun e => by have := hv k e; omega)
  exact ⟨bk, Rdr.kept T.rd fun k q1 q2 => (f1 k q1 q2).1, T.rf.kept fun k q1 q2 => (f2 k q1 q2).1, fun k q1 q2 => (f1 k q1 q2).2, fun k q1 q2 => (f2 k q1 q2).2, T.lt, T.ge, T.le, T.le2⟩

set_option maxHeartbeats 3200000 in
set_option maxRecDepth 100000 in
theorem does_none (lo K n : Nat) (B : Nat → Prop) (loR R loM M : Nat) (l : List Int) (s : St) (sec : Bool) (most : Nat) (nn mark kd : Int) (w : World) (h : Two w lo K n B loR R loM M l s) (q1 : (kd == 1) = false) (q2 : (kd == 2) = false) (q3 : (kd == 3) = false) (q4 : (kd == 4) = false) (q5 : (kd == 5) = false) :
    Calls Tryz.prog 19 #[.agg #[.pointer (some ⟨R, 0, none⟩), .pointer (some ⟨M, 0, none⟩)], .pointer (some ⟨K, 0, none⟩), .agg #[.int .i64 kd, .bool sec, .int .u64 most, .int .i64 nn], .int .i64 mark] w fun e w' => e = .returned (.bool true) ∧ DoesTo w w' lo K n B loR R loM M l := by
  have hlo : lo ≤ w.heap.size := by have := h.ge; have := h.le; have := h.rd.lt; omega
  obtain ⟨wb, ewb⟩ : ∃ wb, (w.alloc (.cells #[.pointer (some ⟨R, 0, none⟩), .pointer (some ⟨M, 0, none⟩)] 63)).alloc (.cells #[.int .i64 kd, .bool sec, .int .u64 most, .int .i64 nn] 66) = wb := ⟨_, rfl⟩
  have bb : Below w.heap.size w wb := by rw [← ewb]; exact ((Below.refl _ _).alloc (Nat.le_refl _) _).alloc (by simp) _
  have h0 := h.up bb
  have H : Hid (Two wb lo K n B loR R loM M l s) := h0
  have HBB : Hid (Below w.heap.size w wb) := bb
  have HSZ : Hid (wb.heap.size = w.heap.size + 2) := by
    show _ = _
    rw [← ewb]; simp
  have b0 : wb.cell? ⟨w.heap.size, 0, none⟩ = some (.pointer (some ⟨R, 0, none⟩)) := by rw [← ewb]; exact cellB (Below.heap_alloc _ _ _ (by simp)) (by simp)
  have b1 : wb.cell? ⟨w.heap.size, 1, none⟩ = some (.pointer (some ⟨M, 0, none⟩)) := by rw [← ewb]; exact cellB (Below.heap_alloc _ _ _ (by simp)) (by simp)
  have ob : ∀ j u, (#[.int .i64 kd, .bool sec, .int .u64 most, .int .i64 nn] : Array Value)[j]? = some u → wb.cell? ⟨w.heap.size + 1, j, none⟩ = some u := fun j u hu => by
    rw [← ewb]
    have := World.cell?_alloc_new (w.alloc (.cells #[.pointer (some ⟨R, 0, none⟩), .pointer (some ⟨M, 0, none⟩)] 63)) #[.int .i64 kd, .bool sec, .int .u64 most, .int .i64 nn] 66 j
    rw [show (w.alloc (.cells #[.pointer (some ⟨R, 0, none⟩), .pointer (some ⟨M, 0, none⟩)] 63)).heap.size = w.heap.size + 1 by simp] at this
    rw [this]; exact hu
  have o0 : wb.cell? ⟨w.heap.size + 1, 0, none⟩ = some (.int .i64 kd) := ob 0 _ rfl
  have o3 : wb.cell? ⟨w.heap.size + 1, 3, none⟩ = some (.int .i64 nn) := ob 3 _ rfl
  have hR : R < w.heap.size := h.rd.lt
  have hM : M < w.heap.size := h.rf.lt
  have hRM : R < loM ∧ loM ≤ M := ⟨h.lt, h.le2⟩
  have hge : lo ≤ loR ∧ loR ≤ R := ⟨h.ge, h.le⟩
  have HW : Hid (¬ B w.heap.size) := fun hB => by have := h.book.lt _ hB; omega
  clear bb h h0 ob
  have E0 : Hid (DoesTo wb wb lo K n B loR R loM M l) := ⟨s, n, B, by omega, H.out, Below.refl _ _, fun b _ q _ _ => ⟨rfl, q⟩⟩
  have E1 : Hid (RdS wb loR R l s) := H.out.rd
  have E2 : Hid (RfS wb loM M l s) := H.out.rf
  have hsz1 : Hid (w.heap.size + 2 ≤ wb.heap.size) := by have := HSZ.out; show _ ≤ _; omega
  have k0 := b0
  have k1 := b1
  go_enter Tryz.func19, Tryz.ntmps19
  have ST : Hid (∀ wz, Below wb.heap.size wb wz → Calls Tryz.prog 18 #[.agg #[.pointer (some ⟨R, 0, none⟩), .pointer (some ⟨M, 0, none⟩)]] wz fun e w' => e = .returned (.bool true) ∧ Below wb.heap.size wb w') := fun wz hz =>
    (stands_any loR loM R M l l s wz (E1.out.grown hz) (E2.out.kept fun k _ hk => hz.block k (Nat.lt_of_le_of_lt hk E2.out.lt))).mono fun e w' ⟨q1, q2⟩ => ⟨q1, Below.up hz q2⟩
  have KC : Hid (∀ wz, Below wb.heap.size wb wz → wz.cell? ⟨w.heap.size, 0, none⟩ = some (.pointer (some ⟨R, 0, none⟩)) ∧ wz.cell? ⟨w.heap.size, 1, none⟩ = some (.pointer (some ⟨M, 0, none⟩))) := fun wz hz =>
    ⟨(hz.cell (by have := hsz1.out; show w.heap.size < _; omega)).trans k0, (hz.cell (by have := hsz1.out; show w.heap.size < _; omega)).trans k1⟩
  go_wp2_with (go_at_call 18; refine (ST.out _ (by first | exact Below.refl _ _ | exact hb5)).mono ?_; rintro e w5 ⟨rfl, hb5⟩; obtain ⟨k05, k15⟩ := KC.out w5 hb5)
  go_ret
  exact ⟨rfl, DoesTo.from HBB.out hlo (E0.out.up hb5 (by have := HSZ.out; omega))⟩

set_option maxHeartbeats 3200000 in
set_option maxRecDepth 100000 in
theorem does_end (lo K n : Nat) (B : Nat → Prop) (loR R loM M : Nat) (l : List Int) (s : St) (sec : Bool) (most : Nat) (nn mark : Int) (w : World) (h : Two w lo K n B loR R loM M l s) :
    Calls Tryz.prog 19 #[.agg #[.pointer (some ⟨R, 0, none⟩), .pointer (some ⟨M, 0, none⟩)], .pointer (some ⟨K, 0, none⟩), .agg #[.int .i64 5, .bool sec, .int .u64 most, .int .i64 nn], .int .i64 mark] w fun e w' => e = .returned (.bool true) ∧ DoesTo w w' lo K n B loR R loM M l := by
  have hlo : lo ≤ w.heap.size := by have := h.ge; have := h.le; have := h.rd.lt; omega
  obtain ⟨wb, ewb⟩ : ∃ wb, (w.alloc (.cells #[.pointer (some ⟨R, 0, none⟩), .pointer (some ⟨M, 0, none⟩)] 63)).alloc (.cells #[.int .i64 5, .bool sec, .int .u64 most, .int .i64 nn] 66) = wb := ⟨_, rfl⟩
  have bb : Below w.heap.size w wb := by rw [← ewb]; exact ((Below.refl _ _).alloc (Nat.le_refl _) _).alloc (by simp) _
  have h0 := h.up bb
  have H : Hid (Two wb lo K n B loR R loM M l s) := h0
  have HBB : Hid (Below w.heap.size w wb) := bb
  have HSZ : Hid (wb.heap.size = w.heap.size + 2) := by
    show _ = _
    rw [← ewb]; simp
  have b0 : wb.cell? ⟨w.heap.size, 0, none⟩ = some (.pointer (some ⟨R, 0, none⟩)) := by rw [← ewb]; exact cellB (Below.heap_alloc _ _ _ (by simp)) (by simp)
  have b1 : wb.cell? ⟨w.heap.size, 1, none⟩ = some (.pointer (some ⟨M, 0, none⟩)) := by rw [← ewb]; exact cellB (Below.heap_alloc _ _ _ (by simp)) (by simp)
  have ob : ∀ j u, (#[.int .i64 5, .bool sec, .int .u64 most, .int .i64 nn] : Array Value)[j]? = some u → wb.cell? ⟨w.heap.size + 1, j, none⟩ = some u := fun j u hu => by
    rw [← ewb]
    have := World.cell?_alloc_new (w.alloc (.cells #[.pointer (some ⟨R, 0, none⟩), .pointer (some ⟨M, 0, none⟩)] 63)) #[.int .i64 5, .bool sec, .int .u64 most, .int .i64 nn] 66 j
    rw [show (w.alloc (.cells #[.pointer (some ⟨R, 0, none⟩), .pointer (some ⟨M, 0, none⟩)] 63)).heap.size = w.heap.size + 1 by simp] at this
    rw [this]; exact hu
  have o0 : wb.cell? ⟨w.heap.size + 1, 0, none⟩ = some (.int .i64 5) := ob 0 _ rfl
  have o3 : wb.cell? ⟨w.heap.size + 1, 3, none⟩ = some (.int .i64 nn) := ob 3 _ rfl
  have hR : R < w.heap.size := h.rd.lt
  have hM : M < w.heap.size := h.rf.lt
  have hRM : R < loM ∧ loM ≤ M := ⟨h.lt, h.le2⟩
  have hge : lo ≤ loR ∧ loR ≤ R := ⟨h.ge, h.le⟩
  have HW : Hid (¬ B w.heap.size) := fun hB => by have := h.book.lt _ hB; omega
  clear bb h h0 ob
  go_enter Tryz.func19, Tryz.ntmps19
  go_wp2_with (go_at_call 67; refine (end_any loR R l s _ H.out.rd).mono ?_; rintro e w1 ⟨rfl, r1, g1⟩; have k0 : w1.cell? ⟨w.heap.size, 0, none⟩ = some (.pointer (some ⟨R, 0, none⟩)) := g1.cell b0 (by simp; omega); have k1 : w1.cell? ⟨w.heap.size, 1, none⟩ = some (.pointer (some ⟨M, 0, none⟩)) := g1.cell b1 (by simp; omega))
  have F1 : Hid (RfS w1 loM M l s) := H.out.rf.kept fun k q1 q2 => g1.block k (by have := HSZ.out; omega) (fun e => by injection e with e; omega)
  go_wp2_with (go_at_call 68; refine (refEnd_any loM M l s _ F1.out).mono ?_; rintro e w2 ⟨rfl, r2, g2⟩; have j0 : w2.cell? ⟨w.heap.size, 0, none⟩ = some (.pointer (some ⟨R, 0, none⟩)) := g2.cell k0 (by simp; omega); have j1 : w2.cell? ⟨w.heap.size, 1, none⟩ = some (.pointer (some ⟨M, 0, none⟩)) := g2.cell k1 (by simp; omega))
  have E0 : Hid (DoesTo wb w2 lo K n B loR R loM M l) := H.out.both (by have := HSZ.out; omega) g1 g2 r1 r2
  have E1 : Hid (RdS w2 loR R l (endS l s)) := Rdr.kept r1 fun k q1 q2 => g2.block k (by have := HSZ.out; have := g1.size; omega) (fun e => by injection e with e; omega)
  have E2 : Hid (RfS w2 loM M l (endS l s)) := r2
  have hsz1 : Hid (w.heap.size + 2 ≤ w2.heap.size) := by have := HSZ.out; have := g1.size; have := g2.size; show _ ≤ _; omega
  clear k0 k1 F1 r1 g1 r2 g2
  have k0 := j0
  have k1 := j1
  have ST : Hid (∀ wz, Below w2.heap.size w2 wz → Calls Tryz.prog 18 #[.agg #[.pointer (some ⟨R, 0, none⟩), .pointer (some ⟨M, 0, none⟩)]] wz fun e w' => e = .returned (.bool true) ∧ Below w2.heap.size w2 w') := fun wz hz =>
    (stands_any loR loM R M l l (endS l s) wz (E1.out.grown hz) (E2.out.kept fun k _ hk => hz.block k (Nat.lt_of_le_of_lt hk E2.out.lt))).mono fun e w' ⟨q1, q2⟩ => ⟨q1, Below.up hz q2⟩
  have KC : Hid (∀ wz, Below w2.heap.size w2 wz → wz.cell? ⟨w.heap.size, 0, none⟩ = some (.pointer (some ⟨R, 0, none⟩)) ∧ wz.cell? ⟨w.heap.size, 1, none⟩ = some (.pointer (some ⟨M, 0, none⟩))) := fun wz hz =>
    ⟨(hz.cell (by have := hsz1.out; show w.heap.size < _; omega)).trans k0, (hz.cell (by have := hsz1.out; show w.heap.size < _; omega)).trans k1⟩
  go_wp2_with (go_at_call 18; refine (ST.out _ (by first | exact Below.refl _ _ | exact hb5)).mono ?_; rintro e w5 ⟨rfl, hb5⟩; obtain ⟨k05, k15⟩ := KC.out w5 hb5)
  go_ret
  exact ⟨rfl, DoesTo.from HBB.out hlo (E0.out.up hb5 (by have := HSZ.out; omega))⟩

set_option maxHeartbeats 3200000 in
set_option maxRecDepth 100000 in
theorem does_raw (lo K n : Nat) (B : Nat → Prop) (loR R loM M : Nat) (l : List Int) (s : St) (sec : Bool) (most : Nat) (nn : Int) (mark : Nat) (w : World) (h : Two w lo K n B loR R loM M l s) (hl : l.length ≤ 100000) (hnn : -9223372036854775808 ≤ nn ∧ nn ≤ 9223372036854775807) (hmk : mark ≤ 100000000) (hn : n ≤ 200000) :
    Calls Tryz.prog 19 #[.agg #[.pointer (some ⟨R, 0, none⟩), .pointer (some ⟨M, 0, none⟩)], .pointer (some ⟨K, 0, none⟩), .agg #[.int .i64 4, .bool sec, .int .u64 most, .int .i64 nn], .int .i64 mark] w fun e w' => e = .returned (.bool true) ∧ DoesTo w w' lo K n B loR R loM M l := by
  have hlo : lo ≤ w.heap.size := by have := h.ge; have := h.le; have := h.rd.lt; omega
  obtain ⟨wb, ewb⟩ : ∃ wb, (w.alloc (.cells #[.pointer (some ⟨R, 0, none⟩), .pointer (some ⟨M, 0, none⟩)] 63)).alloc (.cells #[.int .i64 4, .bool sec, .int .u64 most, .int .i64 nn] 66) = wb := ⟨_, rfl⟩
  have bb : Below w.heap.size w wb := by rw [← ewb]; exact ((Below.refl _ _).alloc (Nat.le_refl _) _).alloc (by simp) _
  have h0 := h.up bb
  have H : Hid (Two wb lo K n B loR R loM M l s) := h0
  have HBB : Hid (Below w.heap.size w wb) := bb
  have HSZ : Hid (wb.heap.size = w.heap.size + 2) := by
    show _ = _
    rw [← ewb]; simp
  have b0 : wb.cell? ⟨w.heap.size, 0, none⟩ = some (.pointer (some ⟨R, 0, none⟩)) := by rw [← ewb]; exact cellB (Below.heap_alloc _ _ _ (by simp)) (by simp)
  have b1 : wb.cell? ⟨w.heap.size, 1, none⟩ = some (.pointer (some ⟨M, 0, none⟩)) := by rw [← ewb]; exact cellB (Below.heap_alloc _ _ _ (by simp)) (by simp)
  have ob : ∀ j u, (#[.int .i64 4, .bool sec, .int .u64 most, .int .i64 nn] : Array Value)[j]? = some u → wb.cell? ⟨w.heap.size + 1, j, none⟩ = some u := fun j u hu => by
    rw [← ewb]
    have := World.cell?_alloc_new (w.alloc (.cells #[.pointer (some ⟨R, 0, none⟩), .pointer (some ⟨M, 0, none⟩)] 63)) #[.int .i64 4, .bool sec, .int .u64 most, .int .i64 nn] 66 j
    rw [show (w.alloc (.cells #[.pointer (some ⟨R, 0, none⟩), .pointer (some ⟨M, 0, none⟩)] 63)).heap.size = w.heap.size + 1 by simp] at this
    rw [this]; exact hu
  have o0 : wb.cell? ⟨w.heap.size + 1, 0, none⟩ = some (.int .i64 4) := ob 0 _ rfl
  have o3 : wb.cell? ⟨w.heap.size + 1, 3, none⟩ = some (.int .i64 nn) := ob 3 _ rfl
  have hR : R < w.heap.size := h.rd.lt
  have hM : M < w.heap.size := h.rf.lt
  have hRM : R < loM ∧ loM ≤ M := ⟨h.lt, h.le2⟩
  have hge : lo ≤ loR ∧ loR ≤ R := ⟨h.ge, h.le⟩
  have HW : Hid (¬ B w.heap.size) := fun hB => by have := h.book.lt _ hB; omega
  clear bb h h0 ob
  have hrl : Hid ((rawB l s nn).length ≤ 100000) := by
    show _ ≤ _
    unfold rawB
    split
    · simp
    · split
      · simp
      · simp only [List.length_take, List.length_drop]; omega
  go_enter Tryz.func19, Tryz.ntmps19
  go_wp2_with (go_at_call 65; refine (rawO_any loR R nn l s _ H.out.rd hnn).mono ?_; rintro e w1 ⟨v1, rfl, r1, g1, ho1⟩; have k0 : w1.cell? ⟨w.heap.size, 0, none⟩ = some (.pointer (some ⟨R, 0, none⟩)) := g1.cell b0 (by simp; omega); have k1 : w1.cell? ⟨w.heap.size, 1, none⟩ = some (.pointer (some ⟨M, 0, none⟩)) := g1.cell b1 (by simp; omega); have k3 : w1.cell? ⟨w.heap.size + 1, 3, none⟩ = some (.int .i64 nn) := g1.cell o3 (by simp; omega))
  have R1 : Hid (RdS w1 loR R l (rawS l s nn)) := r1
  have G1 : Hid (wb.grownBy w1 (some R)) := g1
  have O1 : Hid (Owns w1 wb.heap.size v1 (rawB l s nn)) := ho1
  have F1 : Hid (RfS w1 loM M l s) := H.out.rf.kept fun k q1 q2 => g1.block k (by have := HSZ.out; omega) (fun e => by injection e with e; omega)
  clear r1 g1 ho1
  go_wp2_with (go_at_call 66; refine (refRaw_any loM M nn l s _ F1.out hnn).mono ?_; rintro e w2 ⟨v2, rfl, r2, g2, ho2⟩; have j0 : w2.cell? ⟨w.heap.size, 0, none⟩ = some (.pointer (some ⟨R, 0, none⟩)) := g2.cell k0 (by simp; omega); have j1 : w2.cell? ⟨w.heap.size, 1, none⟩ = some (.pointer (some ⟨M, 0, none⟩)) := g2.cell k1 (by simp; omega))
  have R2 : Hid (RfS w2 loM M l (rawS l s nn)) := r2
  have G2 : Hid (w1.grownBy w2 (some M)) := g2
  have O2 : Hid (Owns w2 w1.heap.size v2 (rawB l s nn)) := ho2
  have O12 : Hid (Owns w2 wb.heap.size v1 (rawB l s nn)) := O1.out.block fun b hb => g2.block b (O1.out.lt b hb).2 (fun e => by injection e with e; have := (O1.out.lt b hb).1; have := HSZ.out; omega)
  clear r2 g2 ho2
  go_wp2_with (go_at_call 9; refine (same_true _ _ (rawB l s nn) _ O12.out.has O2.out.has (by have := hrl.out; omega)).mono ?_; rintro e w3 ⟨rfl, hb3⟩)
  have hbs : ∀ b, b < wb.heap.size → b ≠ R → b ≠ M → w2.heap[b]? = wb.heap[b]? := fun b q1 q2 q3 => (G2.out.block b (by have := G1.out.size; omega) (fun e => q3 (by injection e))).trans (G1.out.block b q1 (fun e => q2 (by injection e)))
  have hw2 : wb.heap.size ≤ w2.heap.size := by have := G1.out.size; have := G2.out.size; omega
  have T2 : Two w2 lo K n B loR R loM M l (rawS l s nn) := H.out.to (G2.out.os.trans G1.out.os) (G2.out.tape.trans G1.out.tape) (G2.out.output.trans G1.out.output) hw2 hbs (Rdr.kept R1.out fun k q1 q2 => G2.out.block k (by have := HSZ.out; have := G1.out.size; omega) (fun e => by injection e with e; omega)) R2.out
  have T3 : Hid (Two w3 lo K n B loR R loM M l (rawS l s nn)) := T2.up hb3
  have O3 : Hid (Owns w3 wb.heap.size v1 (rawB l s nn)) := O12.out.below hb3 (Nat.le_refl _)
  have HF3 : Hid (wb.heap.size ≤ w3.heap.size ∧ ∀ b, b < wb.heap.size → b ≠ R → b ≠ M → w3.heap[b]? = wb.heap[b]?) := ⟨by have := hb3.size; omega, fun b q1 q2 q3 => (hb3.block b (by omega)).trans (hbs b q1 q2 q3)⟩
  have HB3 : Hid (Below lo wb w3) := ⟨hb3.os.trans (G2.out.os.trans G1.out.os), hb3.tape.trans (G2.out.tape.trans G1.out.tape), hb3.output.trans (G2.out.output.trans G1.out.output), HF3.out.1, fun k hk => HF3.out.2 k (by have := HSZ.out; omega) (by omega) (by omega)⟩
  have j0 : w3.cell? ⟨w.heap.size, 0, none⟩ = some (.pointer (some ⟨R, 0, none⟩)) := (hb3.cell (by have := HSZ.out; show w.heap.size < _; omega)).trans j0
  have j1 : w3.cell? ⟨w.heap.size, 1, none⟩ = some (.pointer (some ⟨M, 0, none⟩)) := (hb3.cell (by have := HSZ.out; show w.heap.size < _; omega)).trans j1
  clear hbs T2 hb3 G1 G2 R1 R2 O1 O2 O12 F1 k0 k1 k3
  go_wp2_with (go_at_call 14; refine (bookBytesOk w3 lo K n B v1 (rawB l s nn) mark T3.out.book (O3.out.mono (by have := HSZ.out; omega)) (fun b hb => fun hB => by have := (O3.out.lt b hb).1; have := H.out.book.lt b hB; omega) (by have := hrl.out; omega) hmk hn).mono ?_; rintro e w4 ⟨rfl, B', hk4, hb4, hf4⟩; have hl3 := HF3.out.1; have fw := hf4 w.heap.size (by have := HSZ.out; omega) HW.out (fun e => by have := (O3.out.lt _ e).1; have := HSZ.out; omega); have k0 : w4.cell? ⟨w.heap.size, 0, none⟩ = some (.pointer (some ⟨R, 0, none⟩)) := cellB fw.1 j0; have k1 : w4.cell? ⟨w.heap.size, 1, none⟩ = some (.pointer (some ⟨M, 0, none⟩)) := cellB fw.1 j1)
  have hw4 := hb4.size
  have T4 : Hid (Two w4 lo K (n + 1) B' loR R loM M l (rawS l s nn)) := T3.out.booked (v := v1) (fun b hb => by have := (O3.out.lt b hb).1; have := HSZ.out; omega) hk4 hf4
  have E0 : Hid (DoesTo wb w4 lo K n B loR R loM M l) := ⟨rawS l s nn, n + 1, B', Nat.le_refl _, T4.out, HB3.out.trans hb4, fun b q1 q2 q3 q4 => by
    have q5 := hf4 b (by omega) q2 (fun e => by have := (O3.out.lt b e).1; omega)
    exact ⟨q5.1.trans (HF3.out.2 b q1 q3 q4), q5.2⟩⟩
  have E1 : Hid (RdS w4 loR R l (rawS l s nn)) := T4.out.rd
  have E2 : Hid (RfS w4 loM M l (rawS l s nn)) := T4.out.rf
  have hsz1 : Hid (w.heap.size + 2 ≤ w4.heap.size) := by have := HSZ.out; show _ ≤ _; omega
  clear hw4 hl3 fw hk4 hb4 hf4 j0 j1 T3 O3 HF3 HB3 hw2
  have ST : Hid (∀ wz, Below w4.heap.size w4 wz → Calls Tryz.prog 18 #[.agg #[.pointer (some ⟨R, 0, none⟩), .pointer (some ⟨M, 0, none⟩)]] wz fun e w' => e = .returned (.bool true) ∧ Below w4.heap.size w4 w') := fun wz hz =>
    (stands_any loR loM R M l l (rawS l s nn) wz (E1.out.grown hz) (E2.out.kept fun k _ hk => hz.block k (Nat.lt_of_le_of_lt hk E2.out.lt))).mono fun e w' ⟨q1, q2⟩ => ⟨q1, Below.up hz q2⟩
  have KC : Hid (∀ wz, Below w4.heap.size w4 wz → wz.cell? ⟨w.heap.size, 0, none⟩ = some (.pointer (some ⟨R, 0, none⟩)) ∧ wz.cell? ⟨w.heap.size, 1, none⟩ = some (.pointer (some ⟨M, 0, none⟩))) := fun wz hz =>
    ⟨(hz.cell (by have := hsz1.out; show w.heap.size < _; omega)).trans k0, (hz.cell (by have := hsz1.out; show w.heap.size < _; omega)).trans k1⟩
  go_wp2_with (go_at_call 18; refine (ST.out _ (by first | exact Below.refl _ _ | exact hb5)).mono ?_; rintro e w5 ⟨rfl, hb5⟩; obtain ⟨k05, k15⟩ := KC.out w5 hb5)
  go_ret
  exact ⟨rfl, DoesTo.from HBB.out hlo (E0.out.up hb5 (by have := HSZ.out; omega))⟩

end Go.Proofs.YthpelabmfpogbaaGreatDoor
