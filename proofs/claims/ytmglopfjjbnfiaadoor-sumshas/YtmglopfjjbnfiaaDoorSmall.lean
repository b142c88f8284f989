/-
  sum's small functions: RotateLeft32, right, turned, wordAt, putWord.
-/
import Derived.Test.YtmglopfjjbnfiaaDoorBase
import Derived.Deep.QuietTactic
import Derived.BigQuiet
import Derived.Laws.Tables
import Derived.Laws.CopyOwn
namespace Go.Proofs.YtmglopfjjbnfiaaDoor
open Go.RowKit

theorem and31 (n : Nat) (hn : n < 32) (h0 : 0 < n) : bits .and .u64 (IntKind.u64.wrap (-(n : Int))) 31 = (32 : Int) - n := by
  have h : ∀ n : Nat, n < 32 → 0 < n → bits .and .u64 (IntKind.u64.wrap (-(n : Int))) 31 = (32 : Int) - n := by decide +kernel
  exact h n hn h0

theorem rot_bits (x n : Nat) (hx : x < 4294967296) : bits .or .u32 ((x : Int) * 2 ^ (32 - n) % 4294967296) ((x : Int) / 2 ^ n) = ((Sha.rot x n : Nat) : Int) := by
  have e1 : ((x : Int) * 2 ^ (32 - n) % 4294967296) = ((x * 2 ^ (32 - n) % 4294967296 : Nat) : Int) := by rw [Int.natCast_emod, Int.natCast_mul, Int.natCast_pow]; rfl
  have e2 : ((x : Int) / 2 ^ n) = ((x / 2 ^ n : Nat) : Int) := by rw [Int.natCast_ediv, Int.natCast_pow]; rfl
  rw [e1, e2, u32_or_nat _ _ (by omega) (Nat.lt_of_le_of_lt (Nat.div_le_self _ _) hx)]
  unfold Sha.rot
  rw [Nat.or_comm]

theorem rot_lt {x n : Nat} (hx : x < 4294967296) : Sha.rot x n < 4294967296 :=
  Nat.or_lt_two_pow (n := 32) (Nat.lt_of_le_of_lt (Nat.div_le_self _ _) hx) (by omega)

set_option maxHeartbeats 400000 in
set_option maxRecDepth 100000 in
theorem rotate_any (x n : Nat) (w : World) (hx : x < 4294967296) (hn : n < 32) (h0 : 0 < n) :
    Calls Tryd.prog 72 #[vw x, .int .i64 (-(n : Int))] w fun e w' => e = .returned (vw (Sha.rot x n)) ∧ w' = w := by
  unfold vw
  rw [← rot_bits x n hx]
  have h31 := and31 n hn h0
  have h1 : ¬ ((32 : Int) - n < 0) := by omega
  have h2 : (32 : Int) - (32 - n) = n := by omega
  go_enter Tryd.func72, Tryd.ntmps72
  go_wp2
  go_ret
  exact ⟨rfl, rfl⟩

set_option maxHeartbeats 400000 in
set_option maxRecDepth 100000 in
theorem right_any (x n : Nat) (w : World) (hx : x < 4294967296) (hn : n < 32) (h0 : 0 < n) :
    Calls Tryd.prog 71 #[vw x, .int .i64 n] w fun e w' => e = .returned (vw (Sha.rot x n)) ∧ w' = w := by
  have C := rotate_any x n w hx hn h0
  unfold vw at *
  go_enter Tryd.func71, Tryd.ntmps71
  go_wp2_with (go_at_call 72; refine C.mono ?_; rintro e w1 ⟨rfl, rfl⟩)
  go_ret
  exact ⟨rfl, rfl⟩

theorem xor3_bits {a b c : Nat} (ha : a < 4294967296) (hb : b < 4294967296) (hc : c < 4294967296) : bits .xor .u32 (bits .xor .u32 (a : Int) (b : Int)) (c : Int) = ((a ^^^ b ^^^ c : Nat) : Int) := by
  rw [u32_xor_nat _ _ ha hb, u32_xor_nat _ _ (Nat.xor_lt_two_pow (n := 32) ha hb) hc]

set_option maxHeartbeats 400000 in
set_option maxRecDepth 100000 in
theorem turned_any (x i j k : Nat) (w : World) (hx : x < 4294967296) (hi : i < 32) (hi0 : 0 < i) (hj : j < 32) (hj0 : 0 < j) (hk : k < 32) (hk0 : 0 < k) :
    Calls Tryd.prog 69 #[vw x, .int .i64 i, .int .i64 j, .int .i64 k] w fun e w' => e = .returned (vw (Sha.tri x i j k)) ∧ w' = w := by
  have C1 := right_any x i w hx hi hi0
  have C2 := right_any x j w hx hj hj0
  have C3 := right_any x k w hx hk hk0
  unfold Sha.tri
  unfold vw at *
  rw [← xor3_bits (rot_lt hx) (rot_lt hx) (rot_lt hx)]
  go_enter Tryd.func69, Tryd.ntmps69
  go_wp2_with (go_at_call 71; (first | (with_reducible refine C1.mono ?_) | (with_reducible refine C2.mono ?_) | (with_reducible refine C3.mono ?_)); rintro e w1 ⟨rfl, rfl⟩)
  go_ret
  exact ⟨rfl, rfl⟩

theorem word_bits {a b c d : Nat} (ha : a < 256) (hb : b < 256) (hc : c < 256) (hd : d < 256) :
    bits .or .u32 (bits .or .u32 (bits .or .u32 ((a : Int) * 16777216) ((b : Int) * 65536)) ((c : Int) * 256)) (d : Int) = ((16777216 * a + 65536 * b + 256 * c + d : Nat) : Int) := by
  have e : ∀ x y k : Nat, y < 2 ^ k → x * 2 ^ k ||| y = x * 2 ^ k + y := fun x y k h => by
    rw [Nat.mul_comm, ← Nat.two_pow_add_eq_or_of_lt h]
  rw [show ((a : Int) * 16777216) = ((a * 16777216 : Nat) : Int) by omega, show ((b : Int) * 65536) = ((b * 65536 : Nat) : Int) by omega, show ((c : Int) * 256) = ((c * 256 : Nat) : Int) by omega]
  rw [u32_or_nat _ _ (by omega) (by omega), show a * 16777216 = a * 2 ^ 24 from rfl, e a _ 24 (by omega)]
  rw [u32_or_nat _ _ (by omega) (by omega), show a * 2 ^ 24 + b * 65536 = (a * 256 + b) * 2 ^ 16 by omega, e _ _ 16 (by omega)]
  rw [u32_or_nat _ _ (by omega) (by omega), show (a * 256 + b) * 2 ^ 16 + c * 256 = (a * 65536 + b * 256 + c) * 2 ^ 8 by omega, e _ _ 8 (by omega)]
  congr 1; omega

set_option maxHeartbeats 1000000 in
set_option maxRecDepth 100000 in
theorem wordAt_any (g o len cap : Nat) (a b c d : Nat) (w : World) (ha : a < 256) (hb : b < 256) (hc : c < 256) (hd : d < 256) (hl : 4 ≤ len)
    (h0 : w.cell? ⟨g, o, none⟩ = some (vb a)) (h1 : w.cell? ⟨g, o + 1, none⟩ = some (vb b)) (h2 : w.cell? ⟨g, o + 2, none⟩ = some (vb c)) (h3 : w.cell? ⟨g, o + 3, none⟩ = some (vb d)) :
    Calls Tryd.prog 70 #[.slice (some ⟨g, o, none⟩) len cap] w fun e w' => e = .returned (vw (16777216 * a + 65536 * b + 256 * c + d)) ∧ ∃ n, w' = w.drewN n := by
  unfold vw
  rw [← word_bits ha hb hc hd]
  unfold vb at *
  have l0 : (0 : Int) < (len : Int) := by omega
  have l1 : (1 : Int) < (len : Int) := by omega
  have l2 : (2 : Int) < (len : Int) := by omega
  have l3 : (3 : Int) < (len : Int) := by omega
  clear hl
  go_enter Tryd.func70, Tryd.ntmps70
  go_wp2
  go_quiet (fail)
  go_wp2
  go_ret
  exact ⟨rfl, _, rfl⟩

def put4 (cur : Array Value) (o x : Nat) : Array Value :=
  (((cur.setIfInBounds o (vb (x / 16777216 % 256))).setIfInBounds (o + 1) (vb (x / 65536 % 256))).setIfInBounds (o + 2) (vb (x / 256 % 256))).setIfInBounds (o + 3) (vb (x % 256))

theorem put4_world (w : World) (g o x : Nat) (cur : Array Value) (t : TypeId) (hg : w.heap[g]? = some (.cells cur t (0, 0))) :
    (((w.setCell ⟨g, o, none⟩ (vb (x / 16777216 % 256))).setCell ⟨g, o + 1, none⟩ (vb (x / 65536 % 256))).setCell ⟨g, o + 2, none⟩ (vb (x / 256 % 256))).setCell ⟨g, o + 3, none⟩ (vb (x % 256)) = w.setRow g (put4 cur o x) := by
  rw [setCell_eq_setRow w g o cur t (0, 0) _ hg]
  rw [setCell_eq_setRow _ g (o + 1) _ t (0, 0) _ (setRow_heap w g cur _ t (0, 0) hg), setRow_setRow]
  rw [setCell_eq_setRow _ g (o + 2) _ t (0, 0) _ (setRow_heap w g cur _ t (0, 0) hg), setRow_setRow]
  rw [setCell_eq_setRow _ g (o + 3) _ t (0, 0) _ (setRow_heap w g cur _ t (0, 0) hg), setRow_setRow]
  rfl

set_option maxHeartbeats 1000000 in
set_option maxRecDepth 100000 in
theorem putWord_any (g o len cap x : Nat) (cur : Array Value) (t : TypeId) (w : World) (hx : x < 4294967296) (hl : 4 ≤ len) (hg : w.heap[g]? = some (.cells cur t (0, 0))) (ho : o + 4 ≤ cur.size) :
    Calls Tryd.prog 61 #[.slice (some ⟨g, o, none⟩) len cap, vw x] w fun e w' => e = .returned (.tuple #[]) ∧ w' = w.setRow g (put4 cur o x) := by
  rw [← put4_world w g o x cur t hg]
  have e0 : ((x / 16777216 % 256 : Nat) : Int) = (x : Int) / 16777216 := by omega
  have e1 : ((x / 65536 % 256 : Nat) : Int) = (x : Int) / 65536 % 256 := by omega
  have e2 : ((x / 256 % 256 : Nat) : Int) = (x : Int) / 256 % 256 := by omega
  have e3 : ((x % 256 : Nat) : Int) = (x : Int) % 256 := by omega
  unfold vw vb
  rw [e0, e1, e2, e3]
  clear e0 e1 e2 e3
  have l0 : (0 : Int) < (len : Int) := by omega
  have l1 : (1 : Int) < (len : Int) := by omega
  have l2 : (2 : Int) < (len : Int) := by omega
  have l3 : (3 : Int) < (len : Int) := by omega
  have c0 : w.cell? ⟨g, o, none⟩ = some cur[o] := by rw [cell_of_row w g o cur t (0, 0) hg]; simp
  have c1 : w.cell? ⟨g, o + 1, none⟩ = some cur[o + 1] := by rw [cell_of_row w g _ cur t (0, 0) hg]; simp
  have c2 : w.cell? ⟨g, o + 2, none⟩ = some cur[o + 2] := by rw [cell_of_row w g _ cur t (0, 0) hg]; simp
  have c3 : w.cell? ⟨g, o + 3, none⟩ = some cur[o + 3] := by rw [cell_of_row w g _ cur t (0, 0) hg]; simp
  have f0 : ∀ j, w.frozen? ⟨g, j, none⟩ = false := fun j => frozen_of_row w g j cur t hg
  clear hl hg
  go_enter Tryd.func61, Tryd.ntmps61
  go_wp2
  go_end0
  exact ⟨rfl, rfl⟩

/-- A row's cells, loaded and stored whole, and a part of them. -/
theorem load_seg {w : World} {g : Nat} {c : Array Value} {t : TypeId} {fr : Nat × Nat} (o n : Nat) (hg : w.heap[g]? = some (.cells c t fr)) (hn : o + n ≤ c.size) :
    (loadCellsFrom ⟨g, o, none⟩ 0 n #[]).run Tryd.prog w = .ok ((c.toList.drop o).take n).toArray w := by
  have h := run_loadCells_list (P := Tryd.prog) w ⟨g, o, none⟩ ((c.toList.drop o).take n) (fun j v hv => by
    have hadd : (⟨g, o, none⟩ : Addr).add j = ⟨g, o + j, none⟩ := by unfold Addr.add; split <;> simp_all
    rw [hadd, cell_of_row w g (o + j) c t fr hg]
    rw [List.getElem?_take] at hv
    split at hv
    · simpa using hv
    · simp at hv)
  rw [show ((c.toList.drop o).take n).length = n by simp; omega] at h
  simpa [loadCells] using h
theorem load_row {w : World} {g : Nat} {c : Array Value} {t : TypeId} {fr : Nat × Nat} (n : Nat) (hg : w.heap[g]? = some (.cells c t fr)) (hn : c.size = n) :
    (loadCellsFrom ⟨g, 0, none⟩ 0 n #[]).run Tryd.prog w = .ok c w := by
  have h := load_seg 0 n hg (by omega)
  rw [show ((c.toList.drop 0).take n).toArray = c by rw [List.drop_zero, List.take_of_length_le (by simp; omega)]] at h
  exact h
theorem store_row {w : World} {g : Nat} {old : Array Value} {t : TypeId} (c : Array Value) (hg : w.heap[g]? = some (.cells old t (0, 0))) (ho : old.size = c.size) (h1 : c.all (·.oneCell') = true) :
    (storeCells ⟨g, 0, none⟩ c.toList 0).run Tryd.prog w = .ok () (w.setRow g c) := by
  have := run_storeCells_from (P := Tryd.prog) g t c.toList 0 old w hg (by simp; omega) (fun v hv => (Array.all_eq_true_iff_forall_mem.1 h1) v (by simpa using hv))
  simpa using this
theorem store_seg {w : World} {g : Nat} {old : Array Value} {t : TypeId} (o : Nat) (c : Array Value) (hg : w.heap[g]? = some (.cells old t (0, 0))) (ho : o + c.size ≤ old.size) (h1 : c.all (·.oneCell') = true) :
    (storeCells ⟨g, o, none⟩ c.toList 0).run Tryd.prog w = .ok () (w.setRow g (old.toList.take o ++ c.toList ++ old.toList.drop (o + c.size)).toArray) := by
  have := run_storeCells_at Tryd.prog g o t c.toList 0 old w hg (by simpa using ho) (fun v hv => (Array.all_eq_true_iff_forall_mem.1 h1) v (by simpa using hv))
  simpa using this
theorem all_vb (l : List Nat) : ((l.map vb).toArray).all (·.oneCell') = true := by
  rw [Array.all_eq_true_iff_forall_mem]; intro v hv
  obtain ⟨x, _, rfl⟩ := List.mem_map.1 (by simpa using hv); rfl
theorem all_vw (l : List Nat) : ((l.map vw).toArray).all (·.oneCell') = true := by
  rw [Array.all_eq_true_iff_forall_mem]; intro v hv
  obtain ⟨x, _, rfl⟩ := List.mem_map.1 (by simpa using hv); rfl
end Go.Proofs.YtmglopfjjbnfiaaDoor
