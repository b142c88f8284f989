/-
  twinelaw4's known: its data, in plain Lean.
-/
import Derived.Test.YtjkbhfkeagfhbaaSameP
import Derived.Test.YtjkbhfkeagfhbaaBare
import Derived.Test.YtjkbhfkeagfhbaaJoinQ
import Derived.Laws.ResultCell
namespace Go.Proofs.Ytjkbhfkeagfhbaa
open Go.RowKit

theorem sameV_false (v w : Vd) : sameV false v w = decide (v = w) := by
  unfold sameV
  simp
theorem sameF_false : ∀ f g : F, sameF false f g = decide (f.mp id noM = g.mp id noM)
  | .nil, .nil => by simp [sameF, F.mp]
  | .nil, .cons .. => by simp [sameF, F.mp]
  | .cons .., .nil => by simp [sameF, F.mp]
  | .cons n v m k r, .cons n' v' m' k' r' => by
    rw [sameF, sameV_false, sameF_false k k', sameF_false r r']
    simp only [F.mp, F.cons.injEq, noM, id_eq, true_and, ← Bool.decide_and]
/-- Same is: raw data without marks are equal -/
theorem sameT_bare (t u : T3) : sameT false t u = decide (t.1 = u.1 ∧ Md.zero = Md.zero ∧ t.2.2.mp id noM = u.2.2.mp id noM) := by
  unfold sameT
  rw [sameV_false, sameF_false]
  simp only [true_and, ← Bool.decide_and]
theorem sameT_iff (t u : T3) : sameT false t u = true ↔ t.1 = u.1 ∧ t.2.2.mp id noM = u.2.2.mp id noM := by
  rw [sameT_bare, decide_eq_true_eq]
  simp
theorem sameT_symm (t u : T3) : sameT false t u = sameT false u t := by
  rw [Bool.eq_iff_iff, sameT_iff, sameT_iff]
  exact ⟨fun h => ⟨h.1.symm, h.2.symm⟩, fun h => ⟨h.1.symm, h.2.symm⟩⟩
theorem sameT_trans {t u x : T3} (h : sameT false t u = true) (k : sameT false u x = true) : sameT false t x = true := by
  rw [sameT_iff] at *
  exact ⟨h.1.trans k.1, h.2.trans k.2⟩
theorem sameV_open {v w : Vd} (h : sameV false v w = true) : sameV true v w = true := by
  rw [sameV_false, decide_eq_true_eq] at h
  subst h
  exact sameV_refl _ _
theorem sameF_open : ∀ {f g : F}, sameF false f g = true → sameF true f g = true
  | .nil, .nil, _ => rfl
  | .nil, .cons .., h => by cases h
  | .cons .., .nil, h => by cases h
  | .cons .., .cons .., h => by
    rw [sameF] at h ⊢
    simp only [Bool.and_eq_true] at h ⊢
    exact ⟨h.1, sameV_open h.2.1, sameF_open h.2.2.1, sameF_open h.2.2.2⟩
/-- Same with known modes is Same with open ones -/
theorem sameT_open {t u : T3} (h : sameT false t u = true) : sameT true t u = true := by
  unfold sameT at h ⊢
  rw [Bool.and_eq_true] at h ⊢
  exact ⟨sameV_open h.1, sameF_open h.2⟩
/-- Same goes by values and children's bare data alone -/
theorem sameF_left {o : Bool} : ∀ {f f' g : F}, sameF false f f' = true → sameF o f g = sameF o f' g
  | .nil, .nil, _, _ => rfl
  | .nil, .cons .., _, h => by cases h
  | .cons .., .nil, _, h => by cases h
  | .cons .., .cons .., .nil, _ => rfl
  | .cons .., .cons .., .cons .., h => by
    rw [sameF] at h
    simp only [Bool.and_eq_true, decide_eq_true_eq] at h
    obtain ⟨rfl, h2, h3, h4⟩ := h
    rw [sameV_false, decide_eq_true_eq] at h2
    subst h2
    rw [sameF, sameF, sameF_left h3, sameF_left h4]
theorem sameF_right {o : Bool} : ∀ {f g g' : F}, sameF false g g' = true → sameF o f g = sameF o f g'
  | _, .nil, .nil, _ => rfl
  | _, .nil, .cons .., h => by cases h
  | _, .cons .., .nil, h => by cases h
  | .nil, .cons .., .cons .., _ => rfl
  | .cons .., .cons .., .cons .., h => by
    rw [sameF] at h
    simp only [Bool.and_eq_true, decide_eq_true_eq] at h
    obtain ⟨rfl, h2, h3, h4⟩ := h
    rw [sameV_false, decide_eq_true_eq] at h2
    subst h2
    rw [sameF, sameF, sameF_right h3, sameF_right h4]
theorem sameT_left {o : Bool} {t t' u : T3} (h : sameT false t t' = true) : sameT o t u = sameT o t' u := by
  unfold sameT at h ⊢
  rw [Bool.and_eq_true, sameV_false, decide_eq_true_eq] at h
  rw [h.1, sameF_left h.2]
theorem sameT_right {o : Bool} {t u u' : T3} (h : sameT false u u' = true) : sameT o t u = sameT o t u' := by
  unfold sameT at h ⊢
  rw [Bool.and_eq_true, sameV_false, decide_eq_true_eq] at h
  rw [h.1, sameF_right h.2]
/-- what is open is like that of which it was made -/
theorem sameV_unk (v : Vd) : sameV true v (unkV v) = true := by
  unfold sameV unkV
  rw [decide_eq_true_eq]
  by_cases h : v.kind = 3
  · rw [if_pos h]
    split
    · rename_i h8
      obtain ⟨a, b, c, d, e⟩ := v
      simp only at h8
      rw [h8.2]
    · rfl
  · rw [if_neg h, if_pos ⟨rfl, rfl⟩]
theorem sameF_unk : ∀ f : F, sameF true f (f.mp unkV id) = true
  | .nil => rfl
  | .cons n v m k r => by rw [F.mp, sameF, sameV_unk, sameF_unk k, sameF_unk r]; simp
theorem sameT_unk (t : T3) : sameT true t (unkV t.1, t.2.1, t.2.2.mp unkV id) = true := by
  unfold sameT
  rw [sameV_unk, sameF_unk]; rfl
end Go.Proofs.Ytjkbhfkeagfhbaa
namespace Go.Proofs.Ytjkbhfkeagfhbaa
open Go.RowKit

theorem unkV_kind (v : Vd) : (unkV v).kind = v.kind := by unfold unkV; split <;> rfl
theorem rightVB_unk {v : Vd} (h : rightVB v = true) : rightVB (unkV v) = true := by
  by_cases h3 : v.kind = 3
  · unfold unkV; rw [if_pos h3]; exact h
  · unfold rightVB at h ⊢
    rw [unkV_kind]
    by_cases h1 : v.kind = 1
    · rw [if_pos h1] at h ⊢
      rw [decide_eq_true_eq] at h ⊢
      unfold unkV
      rw [if_neg h3]
      exact ⟨⟨by show (0 : Int) ≤ 8; decide, by show (8 : Int) ≤ 8; decide⟩, h.2⟩
    · rw [if_neg h1] at h ⊢
      by_cases h2 : v.kind = 2
      · rw [if_pos h2] at h ⊢
        rw [decide_eq_true_eq] at h ⊢
        unfold unkV
        rw [if_neg h3]
        exact ⟨⟨by show (0 : Int) ≤ 8; decide, by show (8 : Int) ≤ 8; decide⟩, h.2⟩
      · rw [if_neg h2, if_neg h3] at h
        cases h
theorem rightVB_of_own {v : Vd} {m : Md} {b : Bool} (h : ownE v m b = 0) : rightVB v = true := by
  unfold ownE at h
  split at h
  · cases h
  · split at h
    · cases h
    · split at h
      · cases h
      · rename_i q
        simpa using q
theorem ownE_unk {v : Vd} {m : Md} {b : Bool} (h : ownE v m b = 0) : ownE (unkV v) m b = 0 := by
  have hr := rightVB_of_own h
  have hu := rightVB_unk hr
  unfold ownE at h ⊢
  rw [unkV_kind, hu]
  rw [hr] at h
  exact h
theorem faultF_unk : ∀ (f : F) (prev : Option ByteArray) (L : List ByteArray), faultF f prev L = none → faultF (f.mp unkV id) prev L = none
  | .nil, _, _, _ => rfl
  | .cons nm v m ks r, prev, L, h => by
    rw [faultF] at h
    rw [F.mp, faultF]
    split at h
    · cases h
    · rename_i h1
      split at h
      · cases h
      · rename_i h2
        split at h
        · cases h
        · rename_i h3
          rw [if_neg h1, F.mp_len, id, if_neg (by rw [ownE_unk (Classical.not_not.1 h2)]; simp), faultF_unk ks none (L ++ [nm]) h3]
          exact faultF_unk r (some nm) L h
theorem checkE_unk {v : Vd} {m : Md} {ks : F} (h : checkE v m ks = 0) : checkE (unkV v) m (ks.mp unkV id) = 0 := by
  obtain ⟨h1, h2⟩ := check_none h
  unfold checkE faultN
  rw [F.mp_len, if_neg (by rw [ownE_unk h1]; simp), faultF_unk ks none [] h2]
  rfl
/-- no link has mode 8 -/
def goodV (v : Vd) : Prop := v.mode = 8 → v.kind ≠ 3
def goodF : F → Prop
  | .nil => True
  | .cons _ v _ k r => goodV v ∧ goodF k ∧ goodF r
theorem goodV_of {v : Vd} (h : rightVB v = true) : goodV v := by
  intro h8 h3
  unfold rightVB at h
  rw [h3, h8] at h
  simp at h
theorem goodF_of : ∀ {f : F} {prev : Option ByteArray} {L : List ByteArray}, faultF f prev L = none → goodF f
  | .nil, _, _, _ => trivial
  | .cons nm v m ks r, prev, L, h => by
    rw [faultF] at h
    split at h
    · cases h
    · split at h
      · cases h
      · rename_i h2
        split at h
        · cases h
        · rename_i h3
          exact ⟨goodV_of (rightVB_of_own (Classical.not_not.1 h2)), goodF_of h3, goodF_of h⟩
theorem good_of {v : Vd} {m : Md} {ks : F} (h : checkE v m ks = 0) : goodV v ∧ goodF ks := by
  obtain ⟨h1, h2⟩ := check_none h
  exact ⟨goodV_of (rightVB_of_own h1), goodF_of h2⟩
/-- likeOpen in plain Lean -/
def likeV (v w : Vd) : Vd := if w.mode = 8 ∧ w.kind ≠ 3 then { v with mode := 8 } else v
theorem likeV_good {v w : Vd} (h : goodV w) : decide (likeV v w = w) = sameV true v w := by
  unfold likeV sameV
  by_cases h8 : w.mode = 8
  · rw [if_pos ⟨h8, h h8⟩, if_pos ⟨rfl, h8⟩]
  · rw [if_neg (fun q => h8 q.1), if_neg (fun q => h8 q.2)]
end Go.Proofs.Ytjkbhfkeagfhbaa
namespace Go.Proofs.Ytjkbhfkeagfhbaa
open Go.RowKit
variable {P : Nat → Prop}

def Var24 (w : World) (g : Nat) (c : Array Value) : Prop := w.heap[g]? = some (.cells c 24 (0, 0))
theorem Var24.lt {w : World} {g : Nat} {c : Array Value} (h : Var24 w g c) : g < w.heap.size := (Array.getElem?_eq_some_iff.1 h).1
theorem Var24.grow {w w' : World} {g : Nat} {c : Array Value} (h : Var24 w g c) (hg : G w w') : Var24 w' g c := (Below.block hg g h.lt).trans h
theorem vx_size (v : Vd) : (vx v).toArray.size = 35 := by simp [vx_len]
theorem run_zero24 (w : World) : (zeroValue 24).run Try.prog w = .ok (.agg (vx Vd.zero).toArray) w := by
  have h : (Try.prog.info? 24).bind (·.zero) = some (.agg (vx Vd.zero).toArray) := by kernel_rfl
  cases hq : Try.prog.info? 24 with
  | none => rw [hq] at h; cases h
  | some i =>
    rw [hq] at h
    simp only [Option.bind_some] at h
    simp [zeroValue, typeInfo, hq, h]
theorem exec_alloc24 {o : Oper} {a : Act} (ho : o.op = .alloc 24) (w : World) : (execOp a.eval o).run Try.prog w = .ok (.value (.pointer (some ⟨w.heap.size, 0, none⟩))) (w.alloc (.cells (vx Vd.zero).toArray 24)) := by
  unfold execOp
  simp only [ho, Instr.alloc, Sem.run_bind, run_zero24, Result.andThen_ok]
  simp [newVar, newRow, newObj, Value.cells]
  rfl
theorem exec_store24 {o : Oper} {a : Act} (x y : Operand) (ho : o.op = .store 24 x y) (g : Nat) (c old : Array Value) (hx : a.eval x = .pointer (some ⟨g, 0, none⟩)) (hy : a.eval y = .agg c) (w : World) (hg : Var24 w g old)
    (hs : c.size = 35) (hs' : old.size = 35) (h1 : c.all (·.oneCell') = true) : (execOp a.eval o).run Try.prog w = .ok .skip (w.setRow g c) := by
  unfold execOp
  simp only [ho, hx, hy, Instr.storeAt, Instr.sureAddr, Sem.run_bind, Sem.run_pure, Result.andThen_ok, run_storeVar_row (P := Try.prog) w g 24 24 old c hg (by rw [size24, hs]) (by rw [hs, hs']) h1]
theorem vx_one (v : Vd) : (vx v).toArray.all (·.oneCell') = true := by
  rw [Array.all_eq_true_iff_forall_mem]
  intro x hx
  simp only [vx, List.mem_toArray, List.mem_cons, List.mem_map] at hx
  rcases hx with rfl | rfl | rfl | ⟨b, _, rfl⟩ <;> rfl
theorem results_cell2 {fn : Func} {p u : Tmp} (h : fn.results = #[.cell p 24, .tmp u]) (tmps : Array Value) (w : World) (g : Nat) (cs : Array Value) (hp : tmps.getD p undef = .pointer (some ⟨g, 0, none⟩)) (hg : Var24 w g cs) (hs : cs.size = 35) :
    (results fn tmps).run Try.prog w = .ok (.tuple #[.agg cs, tmps.getD u undef]) w := by
  have hu : Try.prog.underlying 24 = some (.struct (Try.prog.fieldsOf 24)) := by kernel_rfl
  rw [results_cell_tmp h, hp]
  simp only [asAddr, Sem.run_pure, Result.andThen_ok, run_loadVar_row (P := Try.prog) w g 24 24 cs (0, 0) _ hg hu rfl (by rw [size24, hs])]
/-- At's value -/
def atV (t : T3) (s : ByteArray) : Vd := match subS t s with | none => Vd.zero | some x => x.1
set_option maxRecDepth 100000 in
set_option maxHeartbeats 1000000 in
theorem at_any (p : Nat) (t : T3) (s : ByteArray) (w : World) (ht : AtTF P w p t.1 t.2.1 t.2.2) (hr : t.2.2.rises) (hs : s.size ≤ 1048576) :
    Calls Try.prog 56 #[.pointer (some ⟨p, 0, none⟩), .string s] w fun e w' => e = .returned (.tuple #[.agg (vx (atV t s)).toArray, .bool (subS t s).isSome]) ∧ G w w' := by
  have hG : G w (w.alloc (.cells (vx Vd.zero).toArray 24)) := G.alloc _ _
  have C1 := sub_any p t s _ (ht.grow hG) hr hs
  have hV : Var24 (w.alloc (.cells (vx Vd.zero).toArray 24)) w.heap.size (vx Vd.zero).toArray := World.alloc_heap_new w _
  have HV := hid (⟨hV, hG⟩ : _ ∧ _)
  have hat : atV t s = (match subS t s with | none => Vd.zero | some x => x.1) := rfl
  cases hS : subS t s with
  | none =>
    rw [hS] at C1 hat
    rw [hat]
    clear hat hS ht hr hV hG
    go_enter Try.func56, Try.ntmps56
    go_upto_region 1 with ((with_reducible refine wpList_execW (.pointer (some ⟨w.heap.size, 0, none⟩)) (w.alloc (.cells (vx Vd.zero).toArray 24)) ?_ ?_ ?_); exact exec_alloc24 rfl _; kernel_rfl)
    generalize w.alloc (.cells (vx Vd.zero).toArray 24) = w1 at *
    generalize hB : w.heap.size = B at *
    have HB := hid hB
    clear hB
    go_wp2_with (first
      | (go_at_call 19; refine C1.mono ?_; rintro e w2 ⟨u, rfl, hu, hg2⟩; have hu2 : u = .pointer none := hu; subst hu2; have HV2 := hid (⟨HV.out.1.grow hg2, HV.out.2.trans hg2⟩ : Var24 w2 B (vx Vd.zero).toArray ∧ G w w2); clear hu hg2)
      | ((with_reducible refine wpList_exec (.agg (vx Vd.zero).toArray) ?_ ?_ ?_); exact exec_build 24 _ rfl _ _ _ rfl (run_build _ 24 _ _ (by kernel_rfl)); kernel_rfl)
      | ((with_reducible refine wpList_skipW (w2.setRow B (vx Vd.zero).toArray) ?_ ?_ ?_); exact exec_store24 _ _ rfl B _ (vx Vd.zero).toArray rfl rfl _ HV2.out.1 (vx_size _) (vx_size _) (vx_one _); kernel_rfl))
    refine bodyPost_ret (results_cell2 (p := 4) (u := 5) rfl _ _ B (vx Vd.zero).toArray rfl (setRow_heap _ _ _ _ 24 _ HV2.out.1) (vx_size _)) rfl ⟨rfl, ?_⟩
    have hBw := HB.out
    exact Below.trans (B := w.heap.size) HV2.out.2 ⟨rfl, rfl, rfl, by simp, fun b hb => setRow_other _ B b _ (by omega)⟩
  | some x =>
    rw [hS] at C1 hat
    rw [hat]
    clear hat hS ht hr hV hG
    go_enter Try.func56, Try.ntmps56
    go_upto_region 1 with ((with_reducible refine wpList_execW (.pointer (some ⟨w.heap.size, 0, none⟩)) (w.alloc (.cells (vx Vd.zero).toArray 24)) ?_ ?_ ?_); exact exec_alloc24 rfl _; kernel_rfl)
    generalize w.alloc (.cells (vx Vd.zero).toArray 24) = w1 at *
    generalize hB : w.heap.size = B at *
    have HB := hid hB
    clear hB
    go_wp2_with (first
      | (go_at_call 19; refine C1.mono ?_; rintro e w2 ⟨u, rfl, ⟨p2, hu, h2⟩, hg2⟩; subst hu; have HV2 := hid (⟨HV.out.1.grow hg2, HV.out.2.trans hg2⟩ : Var24 w2 B (vx Vd.zero).toArray ∧ G w w2); obtain ⟨ak, hli, _⟩ := h2.kids; have HL : Hid (Lies w2 p2 0 (vx x.1).toArray) := fun j u hj => hli j u (by rw [tc, List.getElem?_toArray, List.getElem?_append_left (by have := (Array.getElem?_eq_some_iff.1 hj).1; simpa using this)]; simpa using hj); clear h2 hg2 hli)
      | ((with_reducible refine wpList_exec (.agg (vx x.1).toArray) ?_ ?_ ?_); exact exec_load24 _ rfl p2 0 rfl _ (vx_size _) HL.out; kernel_rfl)
      | ((with_reducible refine wpList_skipW (w2.setRow B (vx x.1).toArray) ?_ ?_ ?_); exact exec_store24 _ _ rfl B _ (vx Vd.zero).toArray rfl rfl _ HV2.out.1 (vx_size _) (vx_size _) (vx_one _); kernel_rfl))
    refine bodyPost_ret (results_cell2 (p := 4) (u := 5) rfl _ _ B (vx x.1).toArray rfl (setRow_heap _ _ _ _ 24 _ HV2.out.1) (vx_size _)) rfl ⟨rfl, ?_⟩
    have hBw := HB.out
    exact Below.trans (B := w.heap.size) HV2.out.2 ⟨rfl, rfl, rfl, by simp, fun b hb => setRow_other _ B b _ (by omega)⟩
end Go.Proofs.Ytjkbhfkeagfhbaa
namespace Go.Proofs.Ytjkbhfkeagfhbaa
open Go.RowKit

def bA : ByteArray := ⟨#[97]⟩
def bD : ByteArray := ⟨#[100]⟩
def bX : ByteArray := ⟨#[120]⟩
def v0 : Vd := ⟨1, 7, 0, zeros, by simp [zeros]⟩
def vA : Vd := ⟨2, 6, 3, zeros, by simp [zeros]⟩
def vD : Vd := ⟨1, 5, 0, zeros, by simp [zeros]⟩
def vL : Vd := ⟨3, 0, 1, zeros, by simp [zeros]⟩
def fAD : F := .cons bA vA Md.zero .nil (.cons bD vD Md.zero .nil .nil)
def fDA : F := .cons bD vD Md.zero .nil (.cons bA vA Md.zero .nil .nil)
def fADX : F := .cons bA vA Md.zero .nil (.cons bD vD Md.zero (.cons bX vL Md.zero .nil .nil) .nil)
def t0 : T3 := (v0, Md.zero, fAD)
def tL : T3 := (vL, Md.zero, .nil)
def tX : T3 := (v0, Md.zero, fADX)
def pDX : ByteArray := ⟨#[100, 47, 120]⟩
def pAX : ByteArray := ⟨#[97, 47, 120]⟩
def pE : ByteArray := ⟨#[101]⟩
theorem tl_mk (l : List UInt8) : tl ⟨l.toArray⟩ = l := by simp [tl, ByteArray.toList_eq]
theorem toL (l : List UInt8) : (⟨l.toArray⟩ : ByteArray).toList = l := by simp [ByteArray.toList_eq]
theorem tl_bA : tl bA = [97] := tl_mk [97]
theorem tl_bD : tl bD = [100] := tl_mk [100]
theorem tl_bX : tl bX = [120] := tl_mk [120]
theorem l_bA : bA.toList = [97] := toL [97]
theorem l_bD : bD.toList = [100] := toL [100]
theorem l_bX : bX.toList = [120] := toL [120]
theorem l_pE : pE.toList = [101] := toL [101]
theorem cmpAD : cmp3 bA bD = -1 := by unfold cmp3; rw [l_bA, l_bD]; decide
theorem cmpDA : cmp3 bD bA = 1 := by unfold cmp3; rw [l_bA, l_bD]; decide
theorem ltAD : lt bA bD := by unfold lt; rw [l_bA, l_bD]; decide
theorem rises0 : fAD.rises := ⟨⟨ltAD, trivial⟩, trivial, trivial, trivial, trivial⟩
theorem neDA : bD ≠ bA := (lt_no ltAD).2.symm
theorem risesX : fADX.rises := ⟨⟨ltAD, trivial⟩, trivial, trivial, ⟨trivial, trivial, trivial⟩, trivial⟩
theorem place0 (n : Nat) (hn : n ≤ 64) {b : ByteArray} (hb : nameB (tl b) = true) (p : Option ByteArray) (hp : leP b p = false) : placeE p b n = 0 := by
  unfold placeE
  rw [if_neg (by omega), if_neg (by rw [hb]; decide), if_neg (by rw [hp]; decide)]
theorem nbA : nameB (tl bA) = true := by rw [tl_bA]; decide
theorem nbD : nameB (tl bD) = true := by rw [tl_bD]; decide
theorem leDA : leP bD (some bA) = false := by show leB bD bA = false; unfold leB; rw [l_bA, l_bD]; decide
theorem leAD : leP bA (some bD) = true := by show leB bA bD = true; unfold leB; rw [l_bA, l_bD]; decide
theorem ownA : ownE vA Md.zero (decide (0 < F.nil.len)) = 0 := by decide
theorem ownD : ownE vD Md.zero (decide (0 < F.nil.len)) = 0 := by decide
theorem own0 : ownE v0 Md.zero (decide (0 < fAD.len)) = 0 := by decide
theorem own0' : ownE v0 Md.zero (decide (0 < fDA.len)) = 0 := by decide
theorem check0 : checkE v0 Md.zero fAD = 0 := by
  unfold checkE faultN
  rw [own0]
  simp only [ne_eq, not_true_eq_false, if_false, fAD, faultF, List.length_nil, Nat.zero_add, place0 1 (by decide) nbA none rfl, place0 1 (by decide) nbD (some bA) leDA, ownA, ownD]
  rfl
theorem checkL : checkE vL Md.zero .nil = 0 := by decide
theorem check1 : checkE v0 Md.zero fDA = 42 ∧ checkP v0 Md.zero fDA = bA := by
  have h : faultN v0 Md.zero fDA [] = some ([bA], 42) := by
    unfold faultN
    rw [own0']
    have h1 : placeE (some bD) bA 1 = 42 := by unfold placeE; rw [if_neg (by decide), if_neg (by rw [nbA]; decide), if_pos leAD]
    simp only [ne_eq, not_true_eq_false, if_false, fDA, faultF, List.length_nil, Nat.zero_add, place0 1 (by decide) nbD none rfl, ownD, h1]
    rfl
  unfold checkE checkP
  rw [h]
  refine ⟨rfl, ?_⟩
  show ofB (joinL ([bA].map tl)) = bA
  rw [List.map_cons, List.map_nil, tl_bA]
  rfl
theorem pieces_dx : pieces (tl pDX) = [[100], [120]] := by rw [show tl pDX = [100, 47, 120] from tl_mk _]; decide
theorem pieces_ax : pieces (tl pAX) = [[97], [120]] := by rw [show tl pAX = [97, 47, 120] from tl_mk _]; decide
theorem pieces_e : pieces (tl pE) = [[101]] := by rw [show tl pE = [101] from tl_mk _]; decide
theorem pieces_0 : pieces (tl ⟨#[]⟩) = [] := by rw [show tl ⟨#[]⟩ = [] from tl_mk []]; decide
theorem cut_dx : cutN pDX = [bD, bX] := by unfold cutN; rw [pieces_dx]; rfl
theorem cut_ax : cutN pAX = [bA, bX] := by unfold cutN; rw [pieces_ax]; rfl
theorem cut_e : cutN pE = [pE] := by unfold cutN; rw [pieces_e]; rfl
theorem cut_0 : cutN ⟨#[]⟩ = [] := by unfold cutN; rw [pieces_0]; rfl
theorem split_dx : splitE (tl pDX) 64 = 0 := by unfold splitE; rw [pieces_dx]; decide
theorem split_ax : splitE (tl pAX) 64 = 0 := by unfold splitE; rw [pieces_ax]; decide
theorem split_e : splitE (tl pE) 64 = 0 := by unfold splitE; rw [pieces_e]; decide
theorem split_0 : splitE (tl ⟨#[]⟩) 64 = 0 := by unfold splitE; rw [pieces_0]; decide
theorem getD0 : fAD.get bD = some (vD, Md.zero, .nil) := by rw [fAD, F.get, if_neg neDA, F.get, if_pos rfl]
theorem getA0 : fAD.get bA = some (vA, Md.zero, .nil) := by rw [fAD, F.get, if_pos rfl]
theorem neE : pE ≠ bA ∧ pE ≠ bD := ⟨fun h => by have := congrArg ByteArray.toList h; rw [l_pE, l_bA] at this; simp at this, fun h => by have := congrArg ByteArray.toList h; rw [l_pE, l_bD] at this; simp at this⟩
theorem getE0 : fAD.get pE = none := by rw [fAD, F.get, if_neg neE.1, F.get, if_neg neE.2, F.get]
theorem way_dx : wayE t0 pDX = 0 := by
  unfold wayE
  rw [split_dx, cut_dx]
  have : dn t0 [bD, bX].dropLast = some (vD, Md.zero, .nil) := by show (fAD.get bD).bind (fun s => some s) = _; rw [getD0]; rfl
  simp only [ne_eq, not_true_eq_false, if_false, this]
  rfl
theorem way_ax : wayE t0 pAX = 44 := by
  unfold wayE
  rw [split_ax, cut_ax]
  have : dn t0 [bA, bX].dropLast = some (vA, Md.zero, .nil) := by show (fAD.get bA).bind (fun s => some s) = _; rw [getA0]; rfl
  simp only [ne_eq, not_true_eq_false, if_false, this]
  rfl
theorem way_e : wayE t0 pE = 0 := by
  unfold wayE
  rw [split_e, cut_e]
  rfl
theorem way_0 : wayE t0 ⟨#[]⟩ = 0 := by
  unfold wayE
  rw [split_0, cut_0]
  rfl
theorem put_dx : putE t0 tL pDX = 0 := by unfold putE; rw [way_dx, cut_dx]; rfl
theorem put_ax : putE t0 tL pAX = 44 := by unfold putE; rw [way_ax]; rfl
theorem putT_dx : putT t0 (cutN pDX) tL = tX := by
  rw [cut_dx]
  show (v0, Md.zero, fAD.put bD _ _ _) = tX
  have e : (t0.2.2.get bD).getD tL = (vD, Md.zero, .nil) := by show (fAD.get bD).getD tL = _; rw [getD0]; rfl
  rw [e]
  show (v0, Md.zero, fAD.put bD vD Md.zero (.cons bX vL Md.zero .nil .nil)) = tX
  rw [fAD, F.put, if_neg (by rw [cmpDA]; decide), if_neg (by rw [cmpDA]; decide), F.put, if_pos (cmp3_eq.2 rfl)]
  rfl
theorem sub_dx : subS tX pDX = some tL := by
  unfold subS
  rw [if_pos split_dx, cut_dx]
  show (fADX.get bD).bind _ = _
  have : fADX.get bD = some (vD, Md.zero, .cons bX vL Md.zero .nil .nil) := by rw [fADX, F.get, if_neg neDA, F.get, if_pos rfl]
  rw [this]
  show ((F.cons bX vL Md.zero .nil .nil).get bX).bind _ = _
  rw [F.get, if_pos rfl]
  rfl
theorem sub_no : subS t0 pDX = none := by
  unfold subS
  rw [if_pos split_dx, cut_dx]
  show (fAD.get bD).bind _ = _
  rw [getD0]
  rfl
theorem dn_e : dn t0 (cutN pE) = none := by
  rw [cut_e]
  show (fAD.get pE).bind _ = _
  rw [getE0]
  rfl
end Go.Proofs.Ytjkbhfkeagfhbaa
