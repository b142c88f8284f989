/-
  slices.Chunk of bytes by 512, as an iterator.
-/
import Derived.Test.YtmglopfjjbnfiaaDoorAddWalk
import Derived.RangeFuncNested
import Derived.RangeFuncBound
import Derived.RangeFuncCalls
import Derived.RangeFuncLeaves
import Derived.OwnWalkIn
import Derived.TacticsInMore
import Derived.LoopNIn
import Derived.LoopIn
import Derived.RegionIn
namespace Go.Proofs.YtmglopfjjbnfiaaDoor
open Go.RowKit
attribute [local go_sem] Oper.semAt_some

/-- Whatever lay below B, but for block P, lies as it lay. -/
structure BB (B P : Nat) (w w' : World) : Prop where
  os : w'.os = w.os
  tape : w'.tape = w.tape
  output : w'.output = w.output
  size : w.heap.size ≤ w'.heap.size
  block : ∀ k, k < B → k ≠ P → w'.heap[k]? = w.heap[k]?

theorem BB.refl (B P : Nat) (w : World) : BB B P w w := ⟨rfl, rfl, rfl, Nat.le_refl _, fun _ _ _ => rfl⟩
theorem BB.trans {B P : Nat} {a b c : World} (h : BB B P a b) (k : BB B P b c) : BB B P a c :=
  ⟨k.os.trans h.os, k.tape.trans h.tape, k.output.trans h.output, Nat.le_trans h.size k.size, fun i hi hn => (k.block i hi hn).trans (h.block i hi hn)⟩
theorem BB.of_but {B P : Nat} {a b : World} (h : But P a b) (hB : B ≤ a.heap.size) : BB B P a b := ⟨h.os, h.tape, h.output, h.size, fun k hk hn => h.block k (by omega) hn⟩
theorem BB.cell {B P : Nat} {a b : World} (h : BB B P a b) {x : Addr} (hx : x.block < B) (hn : x.block ≠ P) : b.cell? x = a.cell? x := World.cell?_of_block (h.block _ hx hn)
theorem bbK_b {B P : Nat} {w : World} (hB : B ≤ w.heap.size) (W : World) (l : Nat) (o o' : Obj) (hl : w.heap.size ≤ l) (h : W.heap[l]? = some o) (_ : o.isCells = false) (_ : o.isWalk = false) : BB B P W (W.putObj l o') := by
  have hg := grownBy_putObj' W l o'
  have hlt := (Array.getElem?_eq_some_iff.1 h).1
  exact ⟨hg.os, hg.tape, hg.output, hg.size, fun k hk _ => hg.block k (by omega) (fun e => by cases e; omega)⟩

/-- The k-th piece: its value, its bytes. -/
def pieceV (a : Addr) (len k : Nat) : Value := .slice (some (a.add (512 * k))) (min 512 (len - 512 * k)) (min 512 (len - 512 * k))
def pieceB (b : List Nat) (k : Nat) : List Nat := (b.drop (512 * k)).take 512
def upto {α : Type} (f : Nat → α) (k : Nat) : List α := (List.range k).map f
theorem upto_succ {α : Type} (f : Nat → α) (k : Nat) : upto f (k + 1) = upto f k ++ [f k] := by simp [upto, List.range_succ]
theorem upto_length {α : Type} (f : Nat → α) (k : Nat) : (upto f k).length = k := by simp [upto]

set_option maxRecDepth 100000 in
theorem slice43_3 (a : Addr) (len cap lo m : Nat) (hm : 0 < m) (h : lo + m ≤ len) (hc : len ≤ cap) (wz : World) : (Instr.sliceAt 43 (.slice (some a) len cap) (some (.int .i64 (lo : Int))) (some (.int .i64 ((lo : Int) + m))) (some (.int .i64 ((lo : Int) + m)))).run Tryd.prog wz = .ok (.slice (some (a.add lo)) m m) wz := by
  have h1 : (Tryd.prog.info? 5).map (·.size) = some 1 := by kernel_rfl
  cases hq : Tryd.prog.info? 5 with
  | none => simp [hq] at h1
  | some i =>
    have hs : i.size = 1 := by simpa [hq] using h1
    rw [run_sliceAt_slice _ 43 _ _ _ _ Tryd.underlying43]
    rw [run_slice_lhm _ 43 (some a) len cap Tryd.underlying43 .i64 .i64 .i64 lo (lo + m) (lo + m) (by omega) (by omega) (by omega) (by omega)]
    have e1 : ((lo : Int) + m).toNat = lo + m := by omega
    simp [sizeOf, typeInfo, show Tryd.prog.elem 43 = 5 by kernel_rfl, hq, hs, sliced, e1, Result.andThen]
    intro h0; omega

set_option maxRecDepth 100000 in
set_option maxHeartbeats 2000000 in
theorem chunk1_in {α : Type} (F : Fence) (n : Nat) (h7 : F.fn 67) (hro : F.round = none) (hn : 1 ≤ n) (l Bs B P : Nat) (a : Addr) (len cap : Nat) (hlen : len < 4611686018427387904) (hcap : len ≤ cap) (hBs : Bs + 1 < B) (hP : Bs ≠ P ∧ Bs + 1 ≠ P) (val : α → Value) (f : Nat → α) (hf : ∀ k, val (f k) = pieceV a len k) (J Jx : List α → World → Prop) (hJ : ∀ s A B, J s A → World.grownBy A B none → J s B)
    (hY : ∀ pre x W, J pre W → pre.length < (len + 511) / 512 → YieldAt F (n - 1) Tryd.prog l #[val x] W fun e W' =>
      (e = .returned (.bool true) ∧ J (pre ++ [x]) W' ∧ BB B P W W') ∨ (e = .returned (.bool false) ∧ Jx (pre ++ [x]) W'))
    (W : World) (hc1 : W.cell? ⟨Bs, 0, none⟩ = some (.slice (some a) len cap)) (hc2 : W.cell? ⟨Bs + 1, 0, none⟩ = some (.int .i64 512)) (h0 : J [] W) :
    CallsIn F n Tryd.prog 67 #[.func (.yield l) #[] #[], .pointer (some ⟨Bs, 0, none⟩), .pointer (some ⟨Bs + 1, 0, none⟩)] W fun e W' => (∃ v, e = .returned v) ∧
      ((∃ ys, ys = upto f ((len + 511) / 512) ∧ J ys W') ∨ (∃ pre, (∃ k, pre = upto f k) ∧ Jx pre W')) := by
  refine callsIn_of_wp Tryd.func67 rfl h7 ?_ hro
  simp only [Tryd.ntmps67, List.size_toArray, List.length_cons, List.length_nil, Nat.reduceAdd, Nat.reduceSub, Array.replicate_succ, Array.replicate_zero, List.push_toArray, List.append_toArray, List.nil_append, List.cons_append]
  gi_wp2
  gi_loopw [4] (fun i wr => ∃ k : Nat, k ≤ (len + 511) / 512 ∧ i = .int .i64 ((512 * k : Nat) : Int) ∧ J (upto f k) wr ∧ BB B P W wr)
    (fun i _ => len + 512 - (intOf i).toNat)
  case atStart => exact ⟨0, Nat.zero_le _, rfl, h0, BB.refl _ _ _⟩
  case round =>
    obtain ⟨k, hk, rfl, hJs, hnx⟩ := hrel
    have c1 : wr.cell? ⟨Bs, 0, none⟩ = some (.slice (some a) len cap) := (hnx.cell (x := ⟨Bs, 0, none⟩) (by show Bs < B; omega) hP.1).trans hc1
    have c2 : wr.cell? ⟨Bs + 1, 0, none⟩ = some (.int .i64 512) := (hnx.cell (x := ⟨Bs + 1, 0, none⟩) hBs hP.2).trans hc2
    by_cases hlt : 512 * k < len
    · have HA : Hid (J (upto f k) wr.drew) := hJ _ _ _ hJs ⟨rfl, rfl, rfl, Nat.le_refl _, fun _ _ _ => rfl⟩
      obtain ⟨fn, tmps, assign, body, hy, hR⟩ := hY _ (f k) wr.drew HA.out (by rw [upto_length]; omega)
      obtain ⟨lo, hlo⟩ : ∃ lo, lo = 512 * k := ⟨_, rfl⟩
      obtain ⟨m, hm⟩ : ∃ m, m = min 512 (len - lo) := ⟨_, rfl⟩
      obtain ⟨A, hA⟩ : ∃ A, A = a.add lo := ⟨_, rfl⟩
      rw [hf, pieceV, ← hlo, ← hm, ← hA] at hy
      rw [← hlo] at hlt ⊢
      have HLO : Hid (lo = 512 * k) := hlo
      have HM : Hid (m = min 512 (len - lo)) := hm
      have hsl := slice43 a len cap lo (by omega)
      have hs3 := slice43_3 a len cap lo m (by omega) (by omega) hcap
      rw [← hA] at hs3
      have hmin : (if ((len - lo : Nat) : Int) < 512 then ((len - lo : Nat) : Int) else 512) = (m : Int) := by split <;> omega
      have hlm : IntKind.i64.wrap ((lo : Int) + m) = (lo : Int) + m := by rw [IntKind.wrap_i64]; omega
      have hltI : (lo : Int) < (len : Int) := by omega
      have hup : Hid (upto f k ++ [f k] = upto f (k + 1)) := (upto_succ f k).symm
      have HBB : Hid (BB B P W wr.drew) := hnx.trans ⟨rfl, rfl, rfl, Nat.le_refl _, fun _ _ _ => rfl⟩
      have h512 : Hid (lo + 512 = 512 * (k + 1) ∧ (k + 1 ≤ (len + 511) / 512)) := ⟨by omega, by omega⟩
      clear hlo hm hA hJs hnx HA hk
      gi_wp2
      gi_region
      all_goals
        clear hsl hltI hmin hf hY hJ
        gi_wp2
        refine hR.mono ?_
        rintro e W3 (⟨rfl, hJ3, hk3⟩ | ⟨rfl, hJx3⟩)
        · have hb3 : BB B P W W3 := HBB.out.trans hk3
          have d2 : W3.cell? ⟨Bs + 1, 0, none⟩ = some (.int .i64 512) := (hb3.cell (x := ⟨Bs + 1, 0, none⟩) hBs hP.2).trans hc2
          have HJ3 : Hid (J (upto f (k + 1)) W3 ∧ BB B P W W3) := ⟨by rw [← hup.out]; exact hJ3, hb3⟩
          clear hJ3 hk3 hb3 hR hy c1 c2 hc1 hc2 hs3 h0
          gi_wp2
          go_roundw
          case rel => exact ⟨k + 1, h512.out.2, by rw [← h512.out.1]; go_num, HJ3.out⟩
          case measure => simp [intOf]; omega
        · have HX3 : Hid (Jx (upto f (k + 1)) W3) := by rw [← hup.out]; exact hJx3
          clear hJx3 hR hy c1 c2 hc1 hc2 hs3 h0
          gi_wp2
          refine bodyPost_ret (results_none rfl _ _ _) rfl ?_
          exact ⟨⟨_, rfl⟩, .inr ⟨_, ⟨k + 1, rfl⟩, HX3.out⟩⟩
    · have hkk : k = (len + 511) / 512 := by omega
      have HJ : Hid (J (upto f ((len + 511) / 512)) wr) := by rw [← hkk]; exact hJs
      have hltI : ¬ (((512 * k : Nat) : Int) < (len : Int)) := by omega
      obtain ⟨lo, hlo⟩ : ∃ lo, lo = 512 * k := ⟨_, rfl⟩
      rw [← hlo] at hltI ⊢
      clear hlo hkk hlt hf hY hJ hJs c2 hc1 hc2 h0
      gi_wp2
      go_end0
      exact ⟨⟨_, rfl⟩, .inl HJ.out⟩
end Go.Proofs.YtmglopfjjbnfiaaDoor
