/-
  An account, and twineroom's Count: what writes into one block.
-/
import Derived.Test.YtpenaeoodfgmpaaGreatDoorSmall
import Derived.StillTailTactics
namespace Go.Proofs.YtpenaeoodfgmpaaGreatDoor
open Go.RowKit

/-- all but one block is as it was; new blocks may be there -/
structure But (K : Nat) (w w' : World) : Prop where
  os : w'.os = w.os
  tape : w'.tape = w.tape
  output : w'.output = w.output
  size : w.heap.size ≤ w'.heap.size
  block : ∀ k, k < w.heap.size → k ≠ K → w'.heap[k]? = w.heap[k]?
theorem But.refl (K : Nat) (w : World) : But K w w := ⟨rfl, rfl, rfl, Nat.le_refl _, fun _ _ _ => rfl⟩
theorem But.trans {K : Nat} {a b c : World} (h : But K a b) (k : But K b c) : But K a c :=
  ⟨k.os.trans h.os, k.tape.trans h.tape, k.output.trans h.output, Nat.le_trans h.size k.size, fun i hi hn => (k.block i (by have := h.size; omega) hn).trans (h.block i hi hn)⟩
theorem But.of_below {K : Nat} {a b : World} (h : Below a.heap.size a b) : But K a b := ⟨h.os, h.tape, h.output, h.size, fun i hi _ => h.block i hi⟩
theorem But.below {K B : Nat} {a b : World} (h : But K a b) (hB : B ≤ K) (hs : B ≤ a.heap.size) : Below B a b := ⟨h.os, h.tape, h.output, h.size, fun i hi => h.block i (by omega) (by omega)⟩
theorem But.setCell {K : Nat} {a b : World} (h : But K a b) (i : Nat) (v : Value) : But K a (b.setCell ⟨K, i, none⟩ v) :=
  ⟨h.os, h.tape, h.output, by simpa using h.size, fun j hj hn => (Below.heap_setCell b ⟨K, i, none⟩ v j hn).trans (h.block j hj hn)⟩
theorem But.alloc {K : Nat} {a b : World} (h : But K a b) (o : Obj) : But K a (b.alloc o) :=
  h.trans (But.of_below ((Below.refl _ b).alloc (Nat.le_refl _) o))
theorem But.drewN {K : Nat} {a b : World} (h : But K a b) (n : Nat) : But K a (b.drewN n) := h.trans (But.of_below (below_drewN (Below.refl _ b) n))
theorem But.cell {K : Nat} {a b : World} (h : But K a b) {x : Addr} {v : Value} (hx : a.cell? x = some v) (hn : x.block ≠ K) : b.cell? x = some v := by
  rw [← hx]
  exact World.cell?_of_block (w := a) (h.block _ (World.block_lt_of_cell? a _ hx) hn)

theorem Tryz.mixed : Tryz.prog.follows .mixedOrders = true := by kernel_rfl
def AccAt (w : World) (A : Nat) (a : Int × Int) : Prop := w.heap[A]? = some (.cells #[.int .i64 a.1, .int .i64 a.2] 97 (0, 0))
set_option maxRecDepth 100000 in
theorem bring_any (A : Nat) (b m come gone : Int) (w : World) (h : AccAt w A (b, m)) (hb : InR b) (hc : InR come) (hg : InR gone) (c0 : 0 ≤ come) (g0 : 0 ≤ gone) :
    Calls Tryz.prog 68 #[.pointer (some ⟨A, 0, none⟩), .int .i64 come, .int .i64 gone] w fun e w' => e = .returned (.tuple #[]) ∧ AccAt w' A (brg (b, m) come gone) ∧ But A w w' := by
  have C1 := fun W => plus_any b come W hb hc c0
  have C2 := fun W => minus_any (pl b come) gone W (pl_in hb hc c0) hg g0
  have k0 : w.cell? ⟨A, 0, none⟩ = some (.int .i64 b) := cell_of_row _ _ 0 _ _ _ h
  have k1 : w.cell? ⟨A, 1, none⟩ = some (.int .i64 m) := cell_of_row _ _ 1 _ _ _ h
  have f0 : w.frozen? ⟨A, 0, none⟩ = false := frozen_of_row _ _ 0 _ _ h
  have f1 : w.frozen? ⟨A, 1, none⟩ = false := frozen_of_row _ _ 1 _ _ h
  unfold brg
  generalize pl b come = P at *
  generalize ms P gone = Q at *
  obtain ⟨M, hM⟩ : ∃ M, (if m < P then P else m) = M := ⟨_, rfl⟩
  have HM : Hid (mx m P = M) := by rw [← hM]; unfold mx Hid; split <;> split <;> omega
  have HB : Hid (∀ n, AccAt ((((w.setCell ⟨A, 0, none⟩ (.int .i64 P)).drewN n).setCell ⟨A, 1, none⟩ (.int .i64 M)).setCell ⟨A, 0, none⟩ (.int .i64 Q)) A (Q, M)) := by
    intro n
    unfold AccAt at *
    have h1 := heap_setCell_same w A 0 _ _ (.int .i64 P) h
    have h2 : ((w.setCell ⟨A, 0, none⟩ (.int .i64 P)).drewN n).heap[A]? = some (.cells #[.int .i64 P, .int .i64 m] 97 (0, 0)) := by simpa using h1
    have h3 := heap_setCell_same _ A 1 _ _ (.int .i64 M) h2
    have h4 := heap_setCell_same _ A 0 _ _ (.int .i64 Q) h3
    simpa using h4
  have HT : Hid (∀ n, But A w ((((w.setCell ⟨A, 0, none⟩ (.int .i64 P)).drewN n).setCell ⟨A, 1, none⟩ (.int .i64 M)).setCell ⟨A, 0, none⟩ (.int .i64 Q))) := fun n => ((((But.refl A w).setCell 0 _).drewN n).setCell 1 _).setCell 0 _
  clear h
  go_enter Tryz.func68, Tryz.ntmps68
  go_wp2_with (go_at_call 93; refine (C1 _).mono ?_; rintro e w1 ⟨rfl, rfl⟩)
  refine wp_region_still_tail 10 Tryz.mixed (by kernel_rfl) ?_
  change wpStill _ _ (World.drew _) (fun a' => wpList _ _ _ _ a' (World.drew _)) _ _
  simp only [List.take_succ_cons, List.take_zero, List.drop_succ_cons, List.drop_zero]
  repeat still_step
  refine wpStill_nil ?_
  go_wp2_with (go_at_call 94; refine (C2 _).mono ?_; rintro e w1 ⟨rfl, rfl⟩)
  go_end0
  refine ⟨rfl, ?_, ?_⟩
  · rw [HM.out]; exact HB.out 1
  · exact HT.out 1

/-- some bool is answered -/
def IsB (e : Ending) : Prop := ∃ b, e = .returned (.bool b)
/-- a Count, whatever it holds -/
def CountAt (w : World) (C : Nat) : Prop := ∃ left : Int, w.heap[C]? = some (.cells #[.int .i64 left] 81 (0, 0))
set_option maxRecDepth 100000 in
theorem many_any (n : Int) (w : World) : Calls Tryz.prog 13 #[.int .i64 n] w fun e w' => e = .returned (.pointer (some ⟨w.heap.size, 0, none⟩)) ∧ CountAt w' w.heap.size ∧ G w w' := by
  go_enter Tryz.func13, Tryz.ntmps13
  go_wp2
  go_ret
  exact ⟨rfl, ⟨_, heap_alloc_new _ _⟩, G.al _ _⟩
set_option maxRecDepth 100000 in
theorem ok_any (C : Nat) (w : World) (h : CountAt w C) : Calls Tryz.prog 14 #[.pointer (some ⟨C, 0, none⟩)] w fun e w' => IsB e ∧ w = w' := by
  obtain ⟨left, h⟩ := h
  have hc : w.cell? ⟨C, 0, none⟩ = some (.int .i64 left) := cell_of_row _ _ 0 _ _ _ h
  clear h
  go_enter Tryz.func14, Tryz.ntmps14
  go_wp2
  go_ret
  exact ⟨⟨_, rfl⟩, rfl⟩
set_option maxRecDepth 100000 in
theorem cadd_any (C : Nat) (q : Int) (w : World) (h : CountAt w C) : Calls Tryz.prog 58 #[.pointer (some ⟨C, 0, none⟩), .int .i64 q] w fun e w' => IsB e ∧ CountAt w' C ∧ But C w w' := by
  obtain ⟨left, h⟩ := h
  have hc : w.cell? ⟨C, 0, none⟩ = some (.int .i64 left) := cell_of_row _ _ 0 _ _ _ h
  have hf : w.frozen? ⟨C, 0, none⟩ = false := frozen_of_row _ _ 0 _ _ h
  obtain ⟨r, hr⟩ : ∃ r, IntKind.i64.wrap (left - q) = r := ⟨_, rfl⟩
  have HN : Hid (CountAt (w.setCell ⟨C, 0, none⟩ (.int .i64 r)) C ∧ But C w (w.setCell ⟨C, 0, none⟩ (.int .i64 r))) := by
    refine ⟨⟨r, ?_⟩, (But.refl C w).setCell 0 _⟩
    rw [heap_setCell_same _ _ _ _ _ _ h]; rfl
  have HO : Hid (CountAt w C) := ⟨left, h⟩
  have hc2 : (w.setCell ⟨C, 0, none⟩ (.int .i64 r)).cell? ⟨C, 0, none⟩ = some (.int .i64 r) := World.cell?_setCell_same _ _ _ hc
  clear h
  by_cases h0 : 0 ≤ left
  · go_enter Tryz.func58, Tryz.ntmps58
    go_wp2
    go_ret
    exact ⟨⟨_, rfl⟩, HN.out⟩
  · go_enter Tryz.func58, Tryz.ntmps58
    go_wp2
    go_ret
    exact ⟨⟨_, rfl⟩, HO.out, But.refl _ _⟩
set_option maxRecDepth 100000 in
theorem text_any (C : Nat) (s : ByteArray) (w : World) (h : CountAt w C) : Calls Tryz.prog 15 #[.pointer (some ⟨C, 0, none⟩), .string s] w fun e w' => e = .returned (.tuple #[]) ∧ CountAt w' C ∧ But C w w' := by
  have K := hid (fun q W hW => cadd_any C q W hW)
  have H := hid h
  clear h
  go_enter Tryz.func15, Tryz.ntmps15
  go_wp2_with (first
    | (go_at_call_of 58 (Value.int .i64 1); refine (K.out _ _ H.out).mono ?_; rintro e w1 ⟨⟨q, rfl⟩, h1, h2⟩; have H1 := hid (And.intro h1 h2); clear h1 h2)
    | (go_at_call 58; refine (K.out _ _ H1.out.1).mono ?_; rintro e w2 ⟨⟨q, rfl⟩, h3, h4⟩; have H2 := hid (And.intro h3 h4); clear h3 h4))
  go_end0
  exact ⟨rfl, H2.out.1, H1.out.2.trans H2.out.2⟩
end Go.Proofs.YtpenaeoodfgmpaaGreatDoor
