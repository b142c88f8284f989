/-
  LINES, as an iterator.
-/
import Derived.Test.YtfigneaaeakbcaaDoorRg
import Derived.Test.YtfigneaaeakbcaaDoorSp
namespace Go.Proofs.YtfigneaaeakbcaaDoor
open Go.RowKit Go.Shelf Hm
attribute [local go_sem] Oper.semAt_some

/-- blocks of texts stay -/
def K9 (W W' : World) : Prop := ∀ (g : Nat) (cs : Array Value) (f : Nat × Nat), W.heap[g]? = some (.cells cs 9 f) → W'.heap[g]? = some (.cells cs 9 f)
/-- lines with their places -/
def plc : Nat → List ByteArray → List (Nat × ByteArray)
  | _, [] => []
  | a, s :: r => (a, s) :: plc (a + s.size + 1) r
def linesB (s : ByteArray) : List ByteArray := (linesR (tl s)).map fun b => ⟨b.toArray⟩
theorem linesB_of {s : ByteArray} {L : List ByteArray} (h : L.map tl = linesR (tl s)) : L = linesB s := by
  unfold linesB
  rw [← h, List.map_map]
  conv => lhs; rw [← List.map_id L]
  exact List.map_congr_left fun t _ => (txt t).symm
theorem plc_words : ∀ (L : List ByteArray) (a : Nat), ((plc a L).map fun x => wds (tl x.2) x.1).flatten = atW a (L.map tl)
  | [], _ => rfl
  | s :: r, a => by rw [plc, List.map_cons, List.map_cons, List.flatten_cons, atW, plc_words r, tl_len]
theorem linesB_tl (s : ByteArray) : (linesB s).map tl = linesR (tl s) := by
  unfold linesB
  rw [List.map_map]
  conv => rhs; rw [← List.map_id (linesR (tl s))]
  exact List.map_congr_left fun t _ => by simp [tl, ByteArray.toList_eq]
theorem plc_sum : ∀ (L : List ByteArray) (a : Nat) (pre : List (Nat × ByteArray)) (x : Nat × ByteArray) (post : List (Nat × ByteArray)), plc a L = pre ++ x :: post → x.1 + x.2.size + 1 ≤ a + wt (L.map tl)
  | [], _, pre, x, post, h => by cases pre <;> cases h
  | s :: r, a, [], x, post, h => by
    rw [plc] at h
    cases h
    simp [wt, tl_len]
    omega
  | s :: r, a, y :: pre, x, post, h => by
    rw [plc, List.cons_append] at h
    injection h with _ h
    have := plc_sum r _ pre x post h
    simp [wt, tl_len] at this ⊢
    omega
theorem len_wt : ∀ L : List ByteArray, L.length ≤ (L.map ((fun x : By => x.length + 1) ∘ tl)).sum
  | [] => Nat.le_refl _
  | s :: L => by have := len_wt L; simp at this ⊢; omega
set_option maxRecDepth 100000 in
theorem lines12_any (s : ByteArray) (w : World) :
    Calls Tryd.prog 12 #[.string s] w fun e w' => e = .returned (.func (.func 19) #[] #[.pointer (some ⟨w.heap.size, 0, none⟩)]) ∧ w' = w.alloc (.cells #[.string s] 9) := by
  have hmf : ∀ (fn : Fn) (first cap : Array Value) (w : World), (Instr.makeFunc fn first cap).run Tryd.prog w = .ok (.func fn first cap) w := fun _ _ _ _ => rfl
  go_enter Tryd.func12, Tryd.ntmps12
  go_wp2
  go_ret
  exact ⟨rfl, rfl⟩
def enc2 (x : Nat × ByteArray) : Array Value := #[.int .i64 (x.1 : Int), .string x.2]
set_option maxRecDepth 100000 in
set_option maxHeartbeats 4000000 in
theorem lines_seq (Bs : Nat) (s : ByteArray) (hs : s.size ≤ 4000) (w : World) (hc : w.heap[Bs]? = some (.cells #[.string s] 9 (0, 0))) :
    SeqAt Fence.wide 2 Tryd.prog 19 #[.pointer (some ⟨Bs, 0, none⟩)] enc2 K9 (fun xs => xs = plc 0 (linesB s)) (fun pre => pre <+: plc 0 (linesB s)) w := by
  intro l J Jx W hb hJ hJx hY h0
  have hwt : wt ((linesB s).map tl) = s.size + 1 := by rw [linesB_tl, linesR_wt, tl_len]
  have hcW : W.heap[Bs]? = some (.cells #[.string s] 9 (0, 0)) := (hb.block Bs (Array.getElem?_eq_some_iff.1 hc).1).trans hc
  have hcz : W.cell? ⟨Bs, 0, none⟩ = some (.string s) := by rw [cell_heap hcW]; rfl
  have C := hid (split10_any s W hs)
  obtain ⟨B, hB⟩ : ∃ B, W.heap.size = B := ⟨_, rfl⟩
  refine callsIn_of_wp Tryd.func19 rfl trivial ?_ rfl
  simp only [Tryd.ntmps19, List.size_toArray, List.length_cons, List.length_nil, Nat.reduceAdd, Nat.reduceSub, Array.replicate_succ, Array.replicate_zero, List.push_toArray, List.append_toArray, List.nil_append, List.cons_append]
  gi_wp2_with (first
    | (gi_at_call 20; refine (callsIn_wide.2 C.out).mono ?_; rintro e w1 ⟨L, hL, rfl, hw1⟩)
    | (refine ⟨trivial, ?_⟩; gi_at_call 20; refine (callsIn_wide.2 C.out).mono ?_; rintro e w1 ⟨L, hL, rfl, hw1⟩))
  have hLB := linesB_of hL
  clear hL
  subst hLB
  rw [← hw1]
  have hJ1 : J [] w1 := by rw [hw1]; exact hJ _ _ _ none h0 ⟨rfl, rfl, rfl, by simp, fun k hk _ => Below.heap_alloc W _ k hk⟩ (fun r e => by cases e)
  have hb1 : w1.heap[B]? = some (.cells ((linesB s).map Value.string).toArray 9 (0, 0)) := by rw [hw1, ← hB]; exact World.alloc_heap_new W _
  generalize hLL : linesB s = L at *
  have HL := hid hLL
  clear hLL
  have HJ1 := hid (⟨hJ1, hb1⟩ : _ ∧ _)
  have HWT := hid hwt
  clear hJ1 hb1 hw1 h0 hcW hcz hc hb C hwt
  gi_loopw [3, 9] (fun x3 x9 wr => ∃ (at_ k : Nat), x3 = .int .i64 (at_ : Int) ∧ x9 = .int .i64 (k : Int) ∧ k ≤ L.length ∧ Hid (∃ ys, J ys wr ∧ wr.heap[B]? = some (.cells (L.map Value.string).toArray 9 (0, 0)) ∧ ys ++ plc at_ (L.drop k) = plc 0 L)) (fun _ x9 _ => L.length - iOf x9)
  case atStart => exact ⟨0, 0, rfl, rfl, Nat.zero_le _, [], HJ1.out.1, HJ1.out.2, by simp⟩
  case round =>
    obtain ⟨at_, k, rfl, rfl, hk, HR⟩ := hrel
    obtain ⟨ys, hJy, hbk, hyp⟩ : ∃ ys, J ys wr ∧ wr.heap[B]? = some (.cells (L.map Value.string).toArray 9 (0, 0)) ∧ ys ++ plc at_ (L.drop k) = plc 0 L := HR.out
    clear HR
    by_cases hk1 : k < L.length
    · have hkI : (k : Int) < (L.length : Int) := by omega
      obtain ⟨s0, hs0⟩ : ∃ s0, L[k]? = some s0 := ⟨L[k], by simp [hk1]⟩
      have hck : wr.cell? ⟨B, k, none⟩ = some (.string s0) := by rw [cell_heap hbk]; simp [hs0]
      have hd : L.drop k = s0 :: L.drop (k + 1) := by
        rw [List.drop_eq_getElem_cons hk1]
        congr 1
        rw [List.getElem?_eq_getElem hk1] at hs0
        exact Option.some.inj hs0
      rw [hd, plc] at hyp
      have hsum := plc_sum L 0 ys (at_, s0) _ hyp.symm
      rw [HWT.out] at hsum
      simp only at hsum
      have hpre : (ys ++ [(at_, s0)]) <+: plc 0 L := by rw [← hyp]; exact ⟨_, by simp; rfl⟩
      obtain ⟨fn, tmps, assign, body, hy, hR⟩ := hY ys (at_, s0) wr hJy hpre
      dsimp only [enc2] at hy
      have hw3 : IntKind.i64.wrap ((at_ : Int) + ((s0.size : Int) + 1)) = ((at_ + s0.size + 1 : Nat) : Int) := by rw [IntKind.wrap_i64]; omega
      have hw4 : IntKind.i64.wrap ((s0.size : Int) + 1) = (s0.size : Int) + 1 := by rw [IntKind.wrap_i64]; omega
      have hw5 : IntKind.i64.wrap ((k : Int) + 1) = ((k + 1 : Nat) : Int) := by
        have : L.length ≤ wt (L.map tl) := by unfold wt; rw [List.map_map]; exact len_wt L
        rw [HWT.out] at this
        rw [IntKind.wrap_i64]; omega
      have HYP := hid (⟨hyp, hbk, hpre⟩ : _ ∧ _ ∧ _)
      have hix : ¬ (L.length : Int) ≤ k := by omega
      clear hyp hbk hpre hJy hd hs0 hsum
      gi_wp2
      refine hR.mono ?_
      rintro e W3 (⟨rfl, hJ3, hk3⟩ | ⟨rfl, hJx3⟩)
      · have hb3 := hk3 _ _ _ HYP.out.2.1
        have H3 := hid (⟨hJ3, hb3⟩ : _ ∧ _)
        clear hJ3 hb3 hk3 hR hy
        gi_wp2
        go_roundw
        case rel =>
          refine ⟨at_ + s0.size + 1, k + 1, by first | rfl | (congr 1; omega), by first | rfl | (congr 1; omega), hk1, _, H3.out.1, H3.out.2, ?_⟩
          rw [← HYP.out.1]; simp
        case measure => simp; omega
      · have HX := hid hJx3
        clear hJx3 hR hy
        gi_wp2
        refine bodyPost_ret (results_none rfl _ _ _) rfl ?_
        exact ⟨⟨_, rfl⟩, .inr ⟨_, by rw [HL.out]; exact HYP.out.2.2, HX.out⟩⟩
    · have hkI : ¬ (k : Int) < (L.length : Int) := by omega
      have he : k = L.length := by omega
      have HF : Hid (ys = plc 0 L ∧ J ys wr) := ⟨by rw [← hyp, he]; simp [plc], hJy⟩
      clear hyp hJy hbk he
      gi_wp2
      go_end0
      exact ⟨⟨_, rfl⟩, .inl (by rw [HL.out, ← HF.out.1]; exact HF.out.2)⟩
end Go.Proofs.YtfigneaaeakbcaaDoor
