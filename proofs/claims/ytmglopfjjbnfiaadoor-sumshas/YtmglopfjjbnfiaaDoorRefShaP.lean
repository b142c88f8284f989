/-
  The reference's SHA: what it is made of.
-/
import Derived.Test.YtmglopfjjbnfiaaDoorRefBlock
import Derived.Test.YtmglopfjjbnfiaaDoorRefPad
namespace Go.Proofs.YtmglopfjjbnfiaaDoor
open Go.RowKit

theorem addr_twice (a : Addr) (i j : Nat) : (a.add i).add j = a.add (i + j) := by
  unfold Addr.add
  by_cases h1 : i = 0
  · subst h1; simp
  · by_cases h2 : j = 0
    · subst h2; simp [h1]
    · simp [h1, h2, Nat.add_assoc]

set_option maxRecDepth 100000 in
theorem cut43 (a : Addr) (len cap lo hi : Nat) (h : lo < hi) (hh : hi ≤ len) (hc : len ≤ cap) (wz : World) : (Instr.sliceAt 43 (.slice (some a) len cap) (some (.int .i64 (lo : Int))) (some (.int .i64 (hi : Int))) none).run Tryd.prog wz = .ok (.slice (some (a.add lo)) (hi - lo) (cap - lo)) wz := by
  have h1 : (Tryd.prog.info? 5).map (·.size) = some 1 := by kernel_rfl
  cases hq : Tryd.prog.info? 5 with
  | none => simp [hq] at h1
  | some i =>
    have hs : i.size = 1 := by simpa [hq] using h1
    rw [run_sliceAt_slice _ 43 _ _ _ _ Tryd.underlying43]
    rw [run_slice_lh _ 43 (some a) len cap Tryd.underlying43 .i64 .i64 lo hi (by omega) (by omega) (by omega)]
    simp [sizeOf, typeInfo, show Tryd.prog.elem 43 = 5 by kernel_rfl, hq, hs, sliced, Result.andThen]
    intro h0; omega

theorem Has.part {w : World} {a : Addr} {cap : Nat} {l : List Nat} (h : Has w (.slice (some a) l.length cap) l) (lo m : Nat) (p : List Nat) (hp : p = (l.drop lo).take m) (hl : lo + m ≤ l.length) : Has w (.slice (some (a.add lo)) m (cap - lo)) p := by
  rcases h with ⟨h, _⟩ | ⟨a', c', e, hc, hcell⟩
  · cases h
  · simp only [Value.slice.injEq, Option.some.injEq, true_and] at e
    obtain ⟨rfl, rfl⟩ := e
    have hpl : p.length = m := by rw [hp]; simp; omega
    refine .inr ⟨a.add lo, cap - lo, by rw [hpl], by rw [hpl]; omega, fun i hi => ?_⟩
    rw [hpl] at hi
    rw [addr_twice, hcell (lo + i) (by omega), hp]
    simp only [List.getD, List.getElem?_take, List.getElem?_drop]
    rw [if_pos hi]

theorem plus_ok (u v : Sha.V) : vok (Sha.plus u v) :=
  ⟨Nat.mod_lt _ (by decide), Nat.mod_lt _ (by decide), Nat.mod_lt _ (by decide), Nat.mod_lt _ (by decide), Nat.mod_lt _ (by decide), Nat.mod_lt _ (by decide), Nat.mod_lt _ (by decide), Nat.mod_lt _ (by decide)⟩
theorem mix_ok (V : Sha.V) (b : List Nat) : vok (Sha.mix V b) := by
  unfold Sha.mix
  exact plus_ok _ _
theorem blocks_okF {f : Sha.V → List Nat → Sha.V} (hf : ∀ V b, vok (f V b)) : ∀ (k : Nat) (l : List Nat) (V : Sha.V), vok V → vok (Sha.blocks f k l V)
  | 0, _, _, h => h
  | k + 1, _, _, _ => blocks_okF hf k _ _ (hf _ _)
theorem blocks_nextF (f : Sha.V → List Nat → Sha.V) (k : Nat) (l : List Nat) (V : Sha.V) : Sha.blocks f (k + 1) l V = f (Sha.blocks f k l V) ((l.drop (64 * k)).take 64) := by
  rw [Sha.blocks_add]; rfl
theorem first_ok : vok Sha.first := by unfold vok Sha.first; decide
theorem pad_len (l : List Nat) : (Sha.pad l).length = 64 * ((Sha.pad l).length / 64) := by
  rw [padded_eq]
  simp only [List.length_append, List.length_cons, List.length_replicate, Sha.tail8_len]
  omega
theorem pad_bytes {l : List Nat} (h : Bytes l) : Bytes (Sha.pad l) := by
  intro x hx
  unfold Sha.pad Sha.four at hx
  simp only [List.mem_append, List.mem_cons, List.mem_replicate, List.not_mem_nil, or_false] at hx
  rcases hx with hx | hx | hx | hx | hx
  · exact h x hx
  all_goals omega

theorem out_getD (V : Sha.V) (k : Nat) (hk : k < 32) : (Sha.out V).getD k 0 = (vlist V).getD (k / 4) 0 / 2 ^ (24 - 8 * (k % 4)) % 256 := by
  obtain ⟨a, b, c, d, e, f, g, h⟩ := V
  match k, hk with
  | 0, _ | 1, _ | 2, _ | 4, _ | 5, _ | 6, _ | 8, _ | 9, _ | 10, _ | 12, _ | 13, _ | 14, _ | 16, _ | 17, _ | 18, _ | 20, _ | 21, _ | 22, _ | 24, _ | 25, _ | 26, _ | 28, _ | 29, _ | 30, _ => rfl
  | 3, _ => exact (congrArg (· % 256) (Nat.div_one a)).symm
  | 7, _ => exact (congrArg (· % 256) (Nat.div_one b)).symm
  | 11, _ => exact (congrArg (· % 256) (Nat.div_one c)).symm
  | 15, _ => exact (congrArg (· % 256) (Nat.div_one d)).symm
  | 19, _ => exact (congrArg (· % 256) (Nat.div_one e)).symm
  | 23, _ => exact (congrArg (· % 256) (Nat.div_one f)).symm
  | 27, _ => exact (congrArg (· % 256) (Nat.div_one g)).symm
  | 31, _ => exact (congrArg (· % 256) (Nat.div_one h)).symm
  | n + 32, hk => exact absurd hk (by omega)

theorem take_snoc {l : List Nat} {k : Nat} (h : k < l.length) : l.take k ++ [l.getD k 0] = l.take (k + 1) := by
  rw [List.take_succ_eq_append_getElem h]; simp [List.getD, List.getElem?_eq_getElem h]

end Go.Proofs.YtmglopfjjbnfiaaDoor
