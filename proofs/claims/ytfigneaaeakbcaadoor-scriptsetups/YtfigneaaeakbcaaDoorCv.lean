/-
  A CUTTER'S STEPS: say, spoil, leave, digits.
-/
import Derived.Test.YtfigneaaeakbcaaDoorCu
namespace Go.Proofs.YtfigneaaeakbcaaDoor
open Go.RowKit Hm
attribute [local go_sem] Oper.semAt_some

/-- a store, found by what it writes -/
theorem st_at {ops : Array Oper} {rest : List Oper} {o : Oper} {a : Act} {w : World} {Q : Exit → Act → World → Prop} (t : TypeId) (x y : Operand) (w' : World) (hd : o.dst = none) (_ho : o.op = .store t x y) (hw : Region.wanted o (yielded ops a.tmps) = true) (he : (execOp a.eval o).run Tryd.prog w = .ok .skip w') (h : wpList Tryd.prog ops Q rest a w') : wpList Tryd.prog ops Q (o :: rest) a w := by
  refine wpList_skipW w' he hw ?_
  rw [hd]
  exact h
theorem digit_any (c : Nat) (hc : c < 2147483648) (w : World) : Calls Tryd.prog 45 #[.int .i32 (c : Int)] w fun e w' => e = .returned (match dig c with | some d => .tuple #[.int .u8 (d : Int), .bool true] | none => .tuple #[.int .u8 0, .bool false]) ∧ w' = w := by
  obtain ⟨E, hE⟩ : ∃ E : Value, (match dig c with | some d => Value.tuple #[.int .u8 (d : Int), .bool true] | none => .tuple #[.int .u8 0, .bool false]) = E := ⟨_, rfl⟩
  rw [hE]
  unfold dig at hE
  by_cases h1 : 48 ≤ c
  · by_cases h2 : c ≤ 57
    · rw [if_pos ⟨h1, h2⟩] at hE
      subst hE
      have i1 : (48 : Int) ≤ c := by omega
      have i2 : (c : Int) ≤ 57 := by omega
      have i3 : IntKind.i32.wrap ((c : Int) - 48) = ((c - 48 : Nat) : Int) := by simp [IntKind.wrap, IntKind.signed, IntKind.bits]; omega
      have i4 : IntKind.u8.wrap ((c - 48 : Nat) : Int) = ((c - 48 : Nat) : Int) := by simp [IntKind.wrap, IntKind.signed, IntKind.bits]; omega
      go_enter Tryd.func45, Tryd.ntmps45
      go_wp2
      refine bodyPost_ret (results_tmp2 rfl _ _ _) rfl ?_
      simp []
    · have i1 : (48 : Int) ≤ c := by omega
      have i2 : ¬ (c : Int) ≤ 57 := by omega
      rw [if_neg (by omega)] at hE
      by_cases h3 : 97 ≤ c ∧ c ≤ 102
      · rw [if_pos h3] at hE
        subst hE
        have i5 : (97 : Int) ≤ c := by omega
        have i6 : (c : Int) ≤ 102 := by omega
        have i3 : IntKind.i32.wrap ((c : Int) - 97) = ((c - 97 : Nat) : Int) := by simp [IntKind.wrap, IntKind.signed, IntKind.bits]; omega
        have i4 : IntKind.u8.wrap ((c - 97 : Nat) : Int) = ((c - 97 : Nat) : Int) := by simp [IntKind.wrap, IntKind.signed, IntKind.bits]; omega
        have i7 : IntKind.u8.wrap (((c - 97 : Nat) : Int) + 10) = ((c - 87 : Nat) : Int) := by simp [IntKind.wrap, IntKind.signed, IntKind.bits]; omega
        go_enter Tryd.func45, Tryd.ntmps45
        go_wp2
        refine bodyPost_ret (results_tmp2 rfl _ _ _) rfl ?_
        simp []
      · rw [if_neg h3] at hE
        subst hE
        by_cases h4 : 97 ≤ c
        · have i5 : (97 : Int) ≤ c := by omega
          have i6 : ¬ (c : Int) ≤ 102 := by omega
          go_enter Tryd.func45, Tryd.ntmps45
          go_wp2
          refine bodyPost_ret (results_tmp2 rfl _ _ _) rfl ?_
          simp
        · have i5 : ¬ (97 : Int) ≤ c := by omega
          go_enter Tryd.func45, Tryd.ntmps45
          go_wp2
          refine bodyPost_ret (results_tmp2 rfl _ _ _) rfl ?_
          simp
  · have i1 : ¬ (48 : Int) ≤ c := by omega
    have i5 : ¬ (97 : Int) ≤ c := by omega
    rw [if_neg (by omega), if_neg (by omega)] at hE
    subst hE
    go_enter Tryd.func45, Tryd.ntmps45
    go_wp2
    refine bodyPost_ret (results_tmp2 rfl _ _ _) rfl ?_
    simp
theorem spoil_any {b : Nat} {line : ByteArray} {a : Nat} {x : Cs} {w : World} (h : Ct b line a x w) (ha : a + x.f < 1000000000) (hn : x.ws.length < 1000000) :
    Calls Tryd.prog 34 #[.pointer (some ⟨b, 0, none⟩)] w fun e w' => e = .returned (.tuple #[]) ∧ Ct b line a (spoilC a x) w' ∧ Fr b w w' := by
  have C := hid (lay_any h 2 6 ⟨#[]⟩ ha hn)
  rw [show tl ⟨#[]⟩ = [] from by simp [tl, ByteArray.toList_eq]] at C
  go_enter Tryd.func34, Tryd.ntmps34
  go_wp2_with (go_at_call 43; refine C.out.mono ?_; rintro e w1 ⟨rfl, h1, h2⟩; have H1 := hid (⟨h1, h2⟩ : _ ∧ _); clear h1 h2)
  go_end0
  exact ⟨rfl, H1.out.1, H1.out.2⟩
set_option maxRecDepth 100000 in
set_option maxHeartbeats 4000000 in
theorem say_any {b : Nat} {line : ByteArray} {a : Nat} {x : Cs} {w : World} (h : Ct b line a x w) (c : UInt8) (hn : x.s.length < 1000000) :
    Calls Tryd.prog 44 #[.pointer (some ⟨b, 0, none⟩), .int .u8 (c.toNat : Int)] w fun e w' => e = .returned (.tuple #[]) ∧ Ct b line a (sayC c x) w' ∧ Fr b w w' := by
  obtain ⟨wv, sv, h⟩ := h
  obtain ⟨sa, sk, hsv⟩ := h.sy.form
  obtain ⟨v', w2, r1, r2, r3, _⟩ := app_one ek73 73 (bc c) rfl (by simp [bc, Value.oneCell']) h.sy (by have := h.lt; omega) (by simp; omega) w.heap.size rfl
  obtain ⟨pa, pc, hv'⟩ := r2.form
  have hz5 : w.cell? ⟨b, 5, none⟩ = some sv := by rw [cell_heap h.blk]; rfl
  obtain ⟨wg, hwg⟩ : ∃ wg, wg = w.alloc (.cells (bc c) 5) := ⟨_, rfl⟩
  rw [← hwg] at r1
  have hne : sv.ownBlock ≠ some b := fun e => by have := (h.sy.lt b e).1; omega
  have e2 := (r3.block b h.lt (fun e => hne e.symm)).trans h.blk
  have hz25 : w2.cell? ⟨b, 5, none⟩ = some sv := by rw [cell_heap e2]; rfl
  have hf25 : w2.frozen? ⟨b, 5, none⟩ = false := by simp [World.frozen?, e2]
  have hk : Kp (fun g => sv.ownBlock = some g) w w2 := Kp.grown r3
  have hws : OwL 90 3 w2 (b + 1) wv (x.ws.map wc) := h.ws.block fun g eg => hk.block g (h.ws.lt g eg).2 fun q => own_apart h.sy h.ws (by decide) q eg
  obtain ⟨w3, hw3⟩ : ∃ w3, w3 = w2.setCell ⟨b, 5, none⟩ v' := ⟨_, rfl⟩
  have hset := Kp.set w2 b 5 v'
  rw [← hw3] at hset
  have e3 : w3.heap[b]? = some (.cells #[.string line, .int .i64 a, wv, .int .i64 x.k, .int .i64 x.f, v'] 75 (0, 0)) := by rw [hw3, heap_setCell_at _ e2]; rfl
  have h3 : CutS b line a { x with s := x.s ++ [c] } wv v' w3 := by
    refine ⟨e3, hws.block fun g eg => hset.block g (hws.lt g eg).2 ?_, ?_⟩
    · have := (hws.lt g eg).1; omega
    · have : OwL 5 1 w2 (b + 1) v' ((x.s ++ [c]).map bc) := by simpa using r2
      refine this.block fun g eg => hset.block g (this.lt g eg).2 ?_
      have := (this.lt g eg).1; omega
  have f3 : Fr b w w3 := by
    refine Fr.trans (Kp.fr hk (by have := h.lt; omega) fun g eg => ?_) (Kp.fr hset (by have := h.lt; have := r3.size; omega) fun g eg => ?_)
    · obtain ⟨p1, cur, p2⟩ := own_cells h.sy eg
      exact ⟨by omega, fun _ => ⟨_, _, _, p2⟩⟩
    · have eg : g = b := eg
      subst eg
      exact ⟨Nat.le_refl _, fun _ => ⟨_, _, _, e2⟩⟩
  have hz3 : w3.cell? ⟨b, 3, none⟩ = some (.int .i64 (x.k : Int)) := by rw [cell_heap e3]; rfl
  have hf3 : w3.frozen? ⟨b, 3, none⟩ = false := by simp [World.frozen?, e3]
  have HF := hid (⟨h3, f3⟩ : _ ∧ _)
  have HR := hid r1
  have HW3 := hid hw3
  have HWG := hid hwg
  obtain ⟨B, hB⟩ : ∃ B, w.heap.size = B := ⟨_, rfl⟩
  have HB := hid hB
  subst hsv
  subst hv'
  clear h r1 r2 r3 hw3 hwg hne e2 hk hws hset e3 h3 f3 hB
  generalize (List.map bc x.s).length = sl at *
  generalize (List.map bc x.s ++ [bc c]).length = sl2 at *
  go_enter Tryd.func44, Tryd.ntmps44
  go_wp2_with (first
    | ((with_reducible refine pl_val 10 (.slice (some ⟨w.heap.size, 0, none⟩) 1 1) wg ?_ ?_ ?_ ?_); rfl; kernel_rfl; (rw [HWG.out]; exact exec_slice1 ek73 (.tmp 9) rfl (.int .u8 (c.toNat : Int)) (bc c) rfl rfl rfl w _ rfl))
    | ((with_reducible refine pl_val 11 (.slice pa sl2 pc) w2 ?_ ?_ ?_ ?_); rfl; kernel_rfl; exact exec_app (sT := 73) (s := .tmp 8) (x := .tmp 10) rfl (v := .slice sa sl sk) (src := .slice (some ⟨w.heap.size, 0, none⟩) 1 1) rfl rfl HR.out)
    | ((with_reducible refine st_at 73 (.tmp 13) (.tmp 11) w3 ?_ ?_ ?_ ?_ ?_); rfl; rfl; kernel_rfl; (rw [HW3.out]; unfold execOp; simp [hz25, hf25, go_sem])))
  go_end0
  obtain ⟨h1, h2⟩ := HF.out
  have hk := Kp.set w3 b 3 (.int .i64 2)
  exact ⟨rfl, ⟨_, _, h1.set (y := sayC c x) hk rfl rfl (by rw [heap_setCell_at _ h1.blk]; rfl)⟩, h2.trans (h1.frb hk)⟩
end Go.Proofs.YtfigneaaeakbcaaDoor
