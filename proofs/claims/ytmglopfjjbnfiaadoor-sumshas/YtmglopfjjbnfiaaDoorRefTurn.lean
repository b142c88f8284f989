/-
  The reference's turn; words of 64 bits in slices.
-/
import Derived.Test.YtmglopfjjbnfiaaDoorSpread
import Derived.Laws.BitsAllLaws
namespace Go.Proofs.YtmglopfjjbnfiaaDoor
open Go.RowKit

theorem Tryd.info84 : (Tryd.prog.info? 84).map (fun i => (i.zero, i.size, i.bytes)) = some (some (.int .u64 0), 1, 8) := by kernel_rfl

/-- A word of 64 bits as a value. -/
def vq (n : Nat) : Value := .int .u64 (n : Int)

/-- A slice's value holds these words. -/
def HasQ (w : World) (v : Value) (l : List Nat) : Prop :=
  (v = .slice none 0 0 ∧ l = []) ∨ ∃ g cap, v = .slice (some ⟨g, 0, none⟩) l.length cap ∧ l.length ≤ cap ∧ ∀ i, i < l.length → w.cell? ⟨g, i, none⟩ = some (vq (l.getD i 0))
/-- It holds them in a row of its own. -/
def OwnsQ (w : World) (lo : Nat) (v : Value) (l : List Nat) : Prop := w.ownsRow lo 84 1 v l.length (l.map vq)

theorem HasQ.below {w w' : World} {v : Value} {l : List Nat} (h : HasQ w v l) (hb : Below w.heap.size w w') : HasQ w' v l := by
  rcases h with h | ⟨g, cap, hv, hc, h⟩
  · exact .inl h
  · exact .inr ⟨g, cap, hv, hc, fun i hi => by rw [hb.cell (block_lt_of_cell (h i hi))]; exact h i hi⟩
theorem HasQ.form {w : World} {v : Value} {l : List Nat} (h : HasQ w v l) : ∃ ao cap, v = .slice ao l.length cap := by
  rcases h with ⟨rfl, rfl⟩ | ⟨a, cap, rfl, _⟩
  · exact ⟨none, 0, rfl⟩
  · exact ⟨_, cap, rfl⟩
theorem HasQ.at {w : World} {v : Value} {l : List Nat} (h : HasQ w v l) (hl : 0 < l.length) : ∃ g cap, v = .slice (some ⟨g, 0, none⟩) l.length cap ∧ Hid (∀ i, i < l.length → w.cell? ⟨g, i, none⟩ = some (vq (l.getD i 0))) := by
  rcases h with ⟨_, h⟩ | ⟨g, cap, e, _, hc⟩
  · rw [h] at hl; cases hl
  · exact ⟨g, cap, e, hc⟩
theorem OwnsQ.has {w : World} {lo : Nat} {v : Value} {l : List Nat} (h : OwnsQ w lo v l) : HasQ w v l := by
  have h0 := h
  obtain ⟨_, h | ⟨g, cap, cur, hv, hg, hh, hn, hm, hs, ht⟩⟩ := h
  · obtain ⟨rfl, hl⟩ := h
    exact .inl ⟨rfl, List.length_eq_zero_iff.1 hl⟩
  · subst hv
    refine .inr ⟨g, cap, rfl, hn, fun i hi => ?_⟩
    have := World.ownsRow.cells h0 (g := g) rfl i (vq (l.getD i 0)) (by simp [List.getD, List.getElem?_eq_getElem hi])
    rwa [show (⟨g, 0, none⟩ : Addr).add i = ⟨g, i, none⟩ by unfold Addr.add; split <;> simp_all] at this
theorem OwnsQ.nil (w : World) (lo : Nat) : OwnsQ w lo (.slice none 0 0) [] := World.ownsRow_nil _ _ _ _
theorem OwnsQ.block {w w' : World} {lo : Nat} {v : Value} {l : List Nat} (h : OwnsQ w lo v l) (hb : ∀ k, k < w.heap.size → w'.heap[k]? = w.heap[k]?) : OwnsQ w' lo v l := by
  have hl := World.ownsRow.lt h
  obtain ⟨h1, h | ⟨g, cap, cur, hv, hg, hh, hr⟩⟩ := h
  · exact ⟨h1, .inl h⟩
  · subst hv
    exact ⟨h1, .inr ⟨g, cap, cur, rfl, hg, (hb g (hl g rfl).2).trans hh, hr⟩⟩

theorem rot_bits64 (x n : Nat) (hx : x < 4294967296) (hn : n < 32) : (bits .or .u64 ((x : Int) / 2 ^ n) (IntKind.u64.wrap ((x : Int) * 2 ^ (32 - n)))).tmod 4294967296 = ((Sha.rot x n : Nat) : Int) := by
  have hp : x * 2 ^ (32 - n) < 18446744073709551616 := by
    have : 2 ^ (32 - n) ≤ 2 ^ 32 := Nat.pow_le_pow_right (by decide) (by omega)
    calc x * 2 ^ (32 - n) ≤ x * 2 ^ 32 := Nat.mul_le_mul_left _ this
      _ < 18446744073709551616 := by omega
  have hd : x / 2 ^ n < 4294967296 := Nat.lt_of_le_of_lt (Nat.div_le_self _ _) hx
  have e1 : IntKind.u64.wrap ((x : Int) * 2 ^ (32 - n)) = ((x * 2 ^ (32 - n) : Nat) : Int) := by
    rw [show ((x : Int) * 2 ^ (32 - n)) = ((x * 2 ^ (32 - n) : Nat) : Int) by rw [Int.natCast_mul, Int.natCast_pow]; rfl, IntKind.wrap_u64]
    omega
  have e2 : ((x : Int) / 2 ^ n) = ((x / 2 ^ n : Nat) : Int) := by rw [Int.natCast_ediv, Int.natCast_pow]; rfl
  rw [e1, e2, u64_or_nat _ _ (by omega) hp, show (4294967296 : Int) = ((4294967296 : Nat) : Int) from rfl, ← Int.ofNat_tmod]
  congr 1
  unfold Sha.rot
  rw [show (4294967296 : Nat) = 2 ^ 32 from rfl]
  apply Nat.eq_of_testBit_eq
  intro i
  simp only [Nat.testBit_mod_two_pow, Nat.testBit_or]
  by_cases hi : i < 32
  · simp [hi]
  · have : (x / 2 ^ n).testBit i = false := Nat.testBit_lt_two_pow (Nat.lt_of_lt_of_le hd (Nat.pow_le_pow_right (n := 2) (by decide) (by omega : 32 ≤ i)))
    simp [hi, this]

set_option maxHeartbeats 1000000 in
set_option maxRecDepth 100000 in
theorem turn_any (x n : Nat) (w : World) (hx : x < 4294967296) (h0 : 0 < n) (hn : n < 32) :
    Calls Tryd.prog 65 #[.int .u64 (x : Int), .int .u64 (n : Int)] w fun e w' => e = .returned (.int .u64 ((Sha.rot x n : Nat) : Int)) ∧ w = w' := by
  rw [← rot_bits64 x n hx hn]
  go_enter Tryd.func65, Tryd.ntmps65
  go_wp2
  go_ret
  exact ⟨rfl, rfl⟩

/-- 'l = append(l, x)'. -/
theorem wpList_append_q {w : World} {ops : Array Oper} {rest : List Oper} {o : Oper} {a : Act} {Q : Exit → Act → World → Prop} (hgd : o.guard = none) (s x : Operand)
    (ho : o.op = .call { callee := .builtin .append, args := #[s, x], argTypes := #[81, 81] })
    (lo : Nat) (v : Value) (g y : Nat) (l : List Nat) (hs : a.eval s = v) (hx : a.eval x = .slice (some ⟨g, 0, none⟩) 1 1) (hown : OwnsQ w lo v l) (hc : w.cell? ⟨g, 0, none⟩ = some (vq y))
    (hlen : l.length + 1 ≤ 65536) (hbase : lo ≤ w.heap.size)
    (h : ∀ v' w', OwnsQ w' lo v' (l ++ [y]) → Below lo w w' → wpList Tryd.prog ops Q rest (a.put o.dst v') w') : wpList Tryd.prog ops Q (o :: rest) a w := by
  obtain ⟨i0, hi, hz0, hz1, hz2⟩ := info_parts Tryd.info84
  refine wpList_append_own w hgd s x 81 ho lo 84 i0 (.int .u64 0) 1 8 Tryd.underlying81 hi hz0 hz1 hz2 rfl (by decide) v l.length (l.map vq) hs hown ⟨g, 0, none⟩ 1 1 [vq y] hx (by simp) ?_ ?_ ?_ ?_ hbase ?_
  · intro j u hj
    have hj0 : j = 0 := by
      have := (List.getElem?_eq_some_iff.1 hj).1
      simpa using this
    subst hj0
    rw [show (⟨g, 0, none⟩ : Addr).add 0 = ⟨g, 0, none⟩ from rfl, hc]; exact hj
  · intro u hu; rw [List.mem_singleton.1 hu]; rfl
  · unfold maxLen; omega
  · omega
  · intro v' w' h4 h5 _
    refine h v' w' ?_ ((Below.refl lo w).grown h5 hbase fun k hk => (World.ownsRow.lt hown k hk).1)
    unfold OwnsQ
    simpa using h4

/-- The word of four bytes, so far. -/
def px (b : List Nat) (i : Nat) : Nat → Nat
  | 0 => 0
  | k + 1 => 256 * px b i k + b.getD (i + k) 0
theorem px_lt {b : List Nat} (hB : ∀ i, b.getD i 0 < 256) (i : Nat) : ∀ k, k ≤ 4 → px b i k < 256 ^ k
  | 0, _ => by simp [px]
  | 1, _ => by have := hB (i + 0); simp [px] at *; omega
  | 2, _ => by have := hB (i + 0); have := hB (i + 1); simp [px] at *; omega
  | 3, _ => by have := hB (i + 0); have := hB (i + 1); have := hB (i + 2); simp [px] at *; omega
  | 4, _ => by have := hB (i + 0); have := hB (i + 1); have := hB (i + 2); have := hB (i + 3); simp [px] at *; omega
  | k + 5, h => by omega
theorem px4 (b : List Nat) (i : Nat) : px b i 4 = Sha.word b i := by
  simp only [px, Sha.word, Nat.add_zero]; omega
end Go.Proofs.YtmglopfjjbnfiaaDoor
