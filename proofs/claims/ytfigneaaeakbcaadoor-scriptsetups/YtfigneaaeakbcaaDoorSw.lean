/-
  SETUP, the program's: its lines are gone through.
-/
import Derived.Test.YtfigneaaeakbcaaDoorLn
import Derived.Test.YtfigneaaeakbcaaDoorPw
import Derived.Test.YtfigneaaeakbcaaDoorDa
import Derived.Test.YtfigneaaeakbcaaDoorRj
namespace Go.Proofs.YtfigneaaeakbcaaDoor
open Go.RowKit Hm Go.Shelf
attribute [local go_sem] Oper.semAt_some

theorem backw7 : backB (opsAt Tryd.f5 7) = true := by kernel_rfl
theorem dstw7 : dstB (opsAt Tryd.f5 7) 37 = true := by kernel_rfl
theorem sizew7 : (opsAt Tryd.f5 7).size = 8 := by kernel_rfl
theorem freew74 : freeB (opsAt Tryd.f5 7) 4 = true := by kernel_rfl
theorem freew75 : freeB (opsAt Tryd.f5 7) 5 = true := by kernel_rfl
theorem freew76 : freeB (opsAt Tryd.f5 7) 6 = true := by kernel_rfl
theorem sw7_0 : say (opsAt Tryd.f5 7) 0 = some (some 21, .fieldAddr 52 (.tmp 4) 0, none) := by kernel_rfl
theorem dw7_0 : slotB (opsAt Tryd.f5 7) 0 = some 21 := by kernel_rfl
theorem sw7_1 : say (opsAt Tryd.f5 7) 1 = some (some 22, .load 50 (.tmp 21), none) := by kernel_rfl
theorem dw7_1 : slotB (opsAt Tryd.f5 7) 1 = some 22 := by kernel_rfl
theorem sw7_2 : say (opsAt Tryd.f5 7) 2 = some (some 23, .move (.tmp 6), none) := by kernel_rfl
theorem dw7_2 : slotB (opsAt Tryd.f5 7) 2 = some 23 := by kernel_rfl
theorem sw7_3 : say (opsAt Tryd.f5 7) 3 = some (some 24, .move (.tmp 5), none) := by kernel_rfl
theorem dw7_3 : slotB (opsAt Tryd.f5 7) 3 = some 24 := by kernel_rfl
theorem sw7_4 : say (opsAt Tryd.f5 7) 4 = some (some 25, .call { callee := .value (.func 13), args := #[.tmp 23, .tmp 24], argTypes := #[9, 3] }, none) := by kernel_rfl
theorem dw7_4 : slotB (opsAt Tryd.f5 7) 4 = some 25 := by kernel_rfl
theorem sw7_5 : say (opsAt Tryd.f5 7) 5 = some (some 26, .call { callee := .builtin .append, args := #[.tmp 22, .tmp 25], argTypes := #[50, 50] }, none) := by kernel_rfl
theorem dw7_5 : slotB (opsAt Tryd.f5 7) 5 = some 26 := by kernel_rfl
theorem sw7_6 : say (opsAt Tryd.f5 7) 6 = some (some 27, .fieldAddr 52 (.tmp 4) 0, none) := by kernel_rfl
theorem dw7_6 : slotB (opsAt Tryd.f5 7) 6 = some 27 := by kernel_rfl
theorem sw7_7 : say (opsAt Tryd.f5 7) 7 = some (none, .store 50 (.tmp 27) (.tmp 26), none) := by kernel_rfl
def Vw7 (c wn wk : Nat) (wa : Option Addr) (at_ : Int) (ln : ByteArray) (r : Nat → Value) : Nat → Value
  | 0 => .pointer (some ⟨c, 0, none⟩)
  | 1 => .slice wa wn wk
  | 2 => .string ln
  | 3 => .int .i64 at_
  | 4 => (r 1)
  | 5 => (r 2)
  | 6 => .pointer (some ⟨c, 0, none⟩)
  | 7 => undef
  | _ => undef
set_option maxHeartbeats 8000000 in
set_option maxRecDepth 100000 in
theorem regw7 (l c wn wk : Nat) (wa : Option Addr) (at_ : Int) (ln : ByteArray) (F0 F1 F2 F3 : (Nat → Value) → World → Prop) (B : World → Prop)  (t0 : Array Value) (wr : World) {Q : Exit → Act → World → Prop} (ht : t0.size = 37) (h4 : t0.getD 4 undef = .pointer (some ⟨c, 0, none⟩)) (h5 : t0.getD 5 undef = .int .i64 at_) (h6 : t0.getD 6 undef = .string ln)
    
    (hb0 : ∀ r w, F0 r w → B w) (hb1 : ∀ r w, F1 r w → B w)
    (hc1 : ∀ r w, F0 r w → CallsIn (Fence.wide.inRound l) (1 - 1) Tryd.prog 13 #[.string ln, .int .i64 at_] w fun e w' => ∃ u, e = .returned u ∧ F1 (ups r 1 u) w')
    (ha2 : ∀ r w, F1 r w → ∃ u w', (Builtin.append_ #[50, 50] 50 #[.slice wa wn wk, r 1]).run Tryd.prog w = .ok u w' ∧ F2 (ups r 2 u) w')
    (hw3 : ∀ r w, F2 r w → (∃ o, w.cell? ⟨c, 0, none⟩ = some o) ∧ w.frozen? ⟨c, 0, none⟩ = false ∧ (∃ a n k, (r 2) = .slice a n k) ∧ F3 r (w.setCell ⟨c, 0, none⟩ (r 2)))
    (hl1 : ∀ w, B w → w.cell? ⟨c, 0, none⟩ = some (.slice wa wn wk))
    (hst0 : ∀ r, F0 r wr.drew)
    (hQ : ∀ r w, F3 r w → Q .normal ⟨fold (opsAt Tryd.f5 7) (Vw7 c wn wk wa at_ ln r) t0 8, []⟩ w) : (Code.region 7 (opsAt Tryd.f5 7) true).wpIn (Fence.wide.inRound l) 1 Tryd.prog Q ⟨t0, []⟩ wr := by
  have hB : dstB (opsAt Tryd.f5 7) t0.size = true := by rw [ht]; exact dstw7
  have hBB : ∀ r done w, MC F0 [(4, F1)] r done w → B w := fun r done w h => MC.base hb0 (by simp only [List.mem_cons, List.not_mem_nil, or_false]; rintro x rfl; assumption) h
  refine inv_regionIn (by kernel_rfl) (IE (opsAt Tryd.f5 7) (Vw7 c wn wk wa at_ ln) t0 (MC F0 [(7, F3), (5, F2), (4, F1)] )) backw7 ⟨(fun _ => undef), t0, rfl, ⟨rfl, fun _ _ => rfl, fun _ _ _ _ _ h => by cases h⟩, MC.start (hst0 _)⟩ ?_ ?_
  rotate_left 1
  · rintro done a w ⟨r, t, rfl, hS, hM⟩ hall
    rw [hS.end hB hall, sizew7]
    exact hQ r w (MC.get (hall 7 (by rw [sizew7]; decide)) [] (by simp) hM)
  · rintro jz op done a w ho ⟨r, t, rfl, hS, hM⟩ hnd hdep hcl
    have e4 : t[4]?.getD undef = .pointer (some ⟨c, 0, none⟩) := (hS.old freew74).trans h4
    have e5 : t[5]?.getD undef = .int .i64 at_ := (hS.old freew75).trans h5
    have e6 : t[6]?.getD undef = .string ln := (hS.old freew76).trans h6
    have hlt : jz < 8 := by rw [← sizew7]; exact (Array.getElem?_eq_some_iff.1 ho).1
    match jz, hlt, ho, hnd, hdep with
    | 0, _, ho, hnd, hdep =>
      obtain ⟨hd, hop, hgd⟩ := say_of sw7_0 ho
      refine ie_valI r (fun _ => trivial) hB ho (wanted_none hgd) hd hS (by intro c; rw [hop]; intro h; cases h) (hM.step (by rfl)) ?_
      unfold execOp
      simp only [hop]
      simp [e4, Vw7, go_sem]
    | 1, _, ho, hnd, hdep =>
      obtain ⟨hd, hop, hgd⟩ := say_of sw7_1 ho
      have x21 : t[21]?.getD undef = _ := hS.at dw7_0 (waits (j := 0) (by kernel_rfl) ho hdep)
      simp only [Vw7] at x21
      have ny5 : done 5 = false := not_yet (k := 1) (j := 5) (by kernel_rfl) hcl hnd
      have ny7 : done 7 = false := not_yet (k := 1) (j := 7) (by kernel_rfl) hcl hnd
      have cz := hl1 w (hBB _ _ _ (MC.cut [(7, F3), (5, F2)] (by simp [ny5, ny7]) hM))
      refine ie_valI r (fun _ => trivial) hB ho (wanted_none hgd) hd hS (by intro c; rw [hop]; intro h; cases h) (hM.step (by rfl)) ?_
      unfold execOp
      simp only [hop]
      simp [x21, Vw7, cz, go_sem]
    | 2, _, ho, hnd, hdep =>
      obtain ⟨hd, hop, hgd⟩ := say_of sw7_2 ho
      refine ie_valI r (fun _ => trivial) hB ho (wanted_none hgd) hd hS (by intro c; rw [hop]; intro h; cases h) (hM.step (by rfl)) ?_
      unfold execOp
      simp only [hop]
      simp [e6, Vw7, go_sem]
    | 3, _, ho, hnd, hdep =>
      obtain ⟨hd, hop, hgd⟩ := say_of sw7_3 ho
      refine ie_valI r (fun _ => trivial) hB ho (wanted_none hgd) hd hS (by intro c; rw [hop]; intro h; cases h) (hM.step (by rfl)) ?_
      unfold execOp
      simp only [hop]
      simp [e5, Vw7, go_sem]
    | 4, _, ho, hnd, hdep =>
      obtain ⟨hd, hop, hgd⟩ := say_of sw7_4 ho
      have x23 : t[23]?.getD undef = _ := hS.at dw7_2 (waits (j := 2) (by kernel_rfl) ho hdep)
      simp only [Vw7] at x23
      have x24 : t[24]?.getD undef = _ := hS.at dw7_3 (waits (j := 3) (by kernel_rfl) ho hdep)
      simp only [Vw7] at x24
      have ny5 : done 5 = false := not_yet (k := 4) (j := 5) (by kernel_rfl) hcl hnd
      have ny7 : done 7 = false := not_yet (k := 4) (j := 7) (by kernel_rfl) hcl hnd
      have hF := MC.get0 [(7, F3), (5, F2), (4, F1)] (by simp [hnd, ny5, ny7]) hM
      refine ie_callI r 13 #[.string ln, .int .i64 at_] (fun _ => trivial) (fun h => by cases h) hB ho (wanted_none hgd) hd hS (by intro c; rw [hop]; intro h; cases h) ?_ ?_
      · skip
        unfold execOp
        simp only [hop]
        simp [x23, x24, go_sem]
      · skip
        refine CallsIn.mono (hc1 r w hF) ?_
        rintro e w' ⟨u, rfl, hF'⟩
        refine ⟨ups r 1 u, ?_, fun k hk => ?_, MC.put hF' [(7, F3), (5, F2)] (by simp [ny5, ny7])⟩
        · simp only [Vw7, ups_same]
        · skip
          have q4 : k ≠ 4 := fun e => by rw [e, hnd] at hk; cases hk
          unfold Vw7
          split <;> first | rfl | exact absurd rfl q4
    | 5, _, ho, hnd, hdep =>
      obtain ⟨hd, hop, hgd⟩ := say_of sw7_5 ho
      have x22 : t[22]?.getD undef = _ := hS.at dw7_1 (waits (j := 1) (by kernel_rfl) ho hdep)
      simp only [Vw7] at x22
      have x25 : t[25]?.getD undef = _ := hS.at dw7_4 (waits (j := 4) (by kernel_rfl) ho hdep)
      simp only [Vw7] at x25
      have ny7 : done 7 = false := not_yet (k := 5) (j := 7) (by kernel_rfl) hcl hnd
      have a4 : done 4 = true := waits (j := 4) (by kernel_rfl) ho hdep
      have hF := MC.get a4 [(7, F3), (5, F2)] (by simp [hnd, ny7]) hM
      obtain ⟨u9, w9, hr9, hF9⟩ := ha2 r w hF
      have ht9 : op.type = 50 := by have := congrArg (·.map (·.type)) ho; simpa using this.symm.trans (show _ = some 50 from by kernel_rfl)
      refine ie_valLI r (ups r 2 u9) w9 (fun _ => trivial) hB ho (wanted_none hgd) hd hS (by intro c; rw [hop]; intro h; cases h) (fun k hk => ?_) (MC.put hF9 [(7, F3)] (by simp [ny7])) ?_
      · skip
        have q5 : k ≠ 5 := fun e => by rw [e, hnd] at hk; cases hk
        unfold Vw7
        split <;> first | rfl | exact absurd rfl q5
      · show _ = Result.ok (Next.value (Vw7 c wn wk wa at_ ln (ups r 2 u9) 5)) _
        simp only [Vw7, ups_same]
        exact exec_app (a := ⟨t, []⟩) (v := .slice wa wn wk) (src := r 1) (v' := u9) hop (by show t.getD 22 undef = _; rw [Array.getD_eq_getD_getElem?]; exact x22) (by show t.getD 25 undef = _; rw [Array.getD_eq_getD_getElem?]; exact x25) (by rw [ht9]; exact hr9)
    | 6, _, ho, hnd, hdep =>
      obtain ⟨hd, hop, hgd⟩ := say_of sw7_6 ho
      refine ie_valI r (fun _ => trivial) hB ho (wanted_none hgd) hd hS (by intro c; rw [hop]; intro h; cases h) (hM.step (by rfl)) ?_
      unfold execOp
      simp only [hop]
      simp [e4, Vw7, go_sem]
    | 7, _, ho, hnd, hdep =>
      obtain ⟨hd, hop, hgd⟩ := say_of sw7_7 ho
      have x27 : t[27]?.getD undef = _ := hS.at dw7_6 (waits (j := 6) (by kernel_rfl) ho hdep)
      simp only [Vw7] at x27
      have x26 : t[26]?.getD undef = _ := hS.at dw7_5 (waits (j := 5) (by kernel_rfl) ho hdep)
      simp only [Vw7] at x26
      have a5 : done 5 = true := waits (j := 5) (by kernel_rfl) ho hdep
      have hF := MC.get a5 [(7, F3)] (by simp [hnd]) hM
      obtain ⟨⟨o9, ho9⟩, hf9, ⟨a9, n9, k9, e9⟩, hF9⟩ := hw3 r w hF
      refine ie_storeI (w' := w.setCell ⟨c, 0, none⟩ (r 2)) r (fun _ => trivial) ho (wanted_none hgd) hd hS (by intro c; rw [hop]; intro h; cases h) (MC.put hF9 [] (by simp)) ?_
      unfold execOp
      simp only [hop]
      simp [x27, x26, ho9, hf9, e9, go_sem]
theorem foldw7 (_ c wn wk : Nat) (wa : Option Addr) (at_ : Int) (ln : ByteArray) (r : Nat → Value) (t0 : Array Value) : fold (opsAt Tryd.f5 7) (Vw7 c wn wk wa at_ ln r) t0 8 = (((((((t0.setIfInBounds 21 (.pointer (some ⟨c, 0, none⟩))).setIfInBounds 22 (.slice wa wn wk)).setIfInBounds 23 (.string ln)).setIfInBounds 24 (.int .i64 at_)).setIfInBounds 25 ((r 1))).setIfInBounds 26 ((r 2))).setIfInBounds 27 (.pointer (some ⟨c, 0, none⟩))) := by kernel_rfl

def StP (t : By) (w : World) (E : Ending) (w' : World) : Prop := G w w' ∧ match setupT t with
  | .ok l => E = .returned (.tuple #[.agg (l.map vi).toArray, .nilIface]) ∧ l.length = 7
  | .error y => ∃ v, E = .returned (.tuple #[.agg #[.int .i64 0, .int .i64 0, .int .i64 0, .int .i64 0, .int .i64 0, .int .i64 0, .int .i64 0], v]) ∧ Flt w' v y
/-- the words so far -/
def LI (w : World) (c e : Nat) (ws : List W) (W' : World) : Prop := ∃ u, G w W' ∧ W'.heap[c]? = some (.cells #[u, .int .i64 (e : Int)] 52 (0, 0)) ∧ OwL 90 3 W' (c + 1) u (ws.map wc)
theorem LI.own {w : World} {c e B5 : Nat} (h5 : w.heap.size ≤ B5) : OwnFrom B5 (fun (pre : List (Nat × ByteArray)) W => LI w c e (wpre pre) W) := by
  intro s W W' row ⟨u, h1, h2, h4⟩ hg hr
  have hc : ∀ (b : Nat) (o : Obj), W.heap[b]? = some o → o.isCells = true → W'.heap[b]? = W.heap[b]? := fun b o hb ho => hg.block b (Array.getElem?_eq_some_iff.1 hb).1 fun e => by
    obtain ⟨_, o', ho', hc'⟩ := hr b e.symm
    rw [hb] at ho'
    cases ho'
    rw [ho] at hc'
    cases hc'
  refine ⟨u, ?_, (hc _ _ h2 rfl).trans h2, h4.block fun g eg => ?_⟩
  · exact Below.trans (B := w.heap.size) h1 ⟨hg.os, hg.tape, hg.output, hg.size, fun b hb => hg.block b (by have := h1.size; omega) fun e => by have := (hr b e.symm).1; omega⟩
  · obtain ⟨_, cur, hh⟩ := own_cells h4 eg
    exact hc _ _ hh rfl
theorem zero52 : (Tryd.prog.info? 52).bind (·.zero) = some (.agg #[.slice none 0 0, .int .i64 0]) := by kernel_rfl
theorem siz52 : (Tryd.prog.info? 52).map (·.size) = some 2 := by kernel_rfl
theorem pi_val {F : Fence} {n : Nat} {ops : Array Oper} {rest : List Oper} {o : Oper} {a : Act} {w : World} {Q : Exit → Act → World → Prop} (d : Nat) (v : Value) (w' : World) (hd : o.dst = some d) (hg : o.guard = none)
    (he : (execOp a.eval o).run Tryd.prog w = .ok (.value v) w') (hn : ∀ c, o.op ≠ .defer c) (ha : ∀ f, o.about Tryd.prog w a.eval = some f → F.fn f) (h : wpListIn F n Tryd.prog ops Q rest (a.put (some d) v) w') : wpListIn F n Tryd.prog ops Q (o :: rest) a w := by
  refine wpListIn_execW v w' hg he hn ha ?_
  rw [hd]; exact h
theorem pi_st {F : Fence} {n : Nat} {ops : Array Oper} {rest : List Oper} {o : Oper} {a : Act} {w : World} {Q : Exit → Act → World → Prop} (t : TypeId) (x y : Operand) (w' : World) (hd : o.dst = none) (_ho : o.op = .store t x y) (hg : o.guard = none)
    (he : (execOp a.eval o).run Tryd.prog w = .ok .skip w') (hn : ∀ c, o.op ≠ .defer c) (ha : ∀ f, o.about Tryd.prog w a.eval = some f → F.fn f) (h : wpListIn F n Tryd.prog ops Q rest a w') : wpListIn F n Tryd.prog ops Q (o :: rest) a w := by
  refine wpListIn_skipW w' hg he hn ha ?_
  rw [hd]; exact h
theorem sw_mem {c D1 : Nat} {W W1 W2 W3 : World} {Z : Array Value} {P2 : Prop} (k1 : Kp (fun g => g = c) W W1) (k2 : P2) (k3 : Z.size = 7) (k4 : Z.all (·.oneCell') = true) (hD1 : W1.heap.size = D1) (hW2 : W2 = W1.alloc (.cells #[.int .i64 0, .int .i64 0, .int .i64 0, .int .i64 0, .int .i64 0, .int .i64 0, .int .i64 0] 26)) (hW3 : W3 = W2.setRow D1 Z) :
    Kp (fun g => g = c) W W1 ∧ P2 ∧ Z.size = 7 ∧ Z.all (·.oneCell') = true ∧ W2 = W1.alloc (.cells #[.int .i64 0, .int .i64 0, .int .i64 0, .int .i64 0, .int .i64 0, .int .i64 0, .int .i64 0] 26) ∧ W3 = W2.setRow D1 Z ∧ W1.heap.size = D1 ∧ W3.heap[D1]? = some (.cells Z 26 (0, 0)) ∧ G W1 W3 := by
  have e2 : W2.heap[D1]? = some (.cells #[.int .i64 0, .int .i64 0, .int .i64 0, .int .i64 0, .int .i64 0, .int .i64 0, .int .i64 0] 26 (0, 0)) := by rw [hW2, ← hD1]; exact World.alloc_heap_new W1 _
  have g2 : G W1 W2 := by rw [hW2]; exact (Below.refl _ _).alloc (Nat.le_refl _) _
  refine ⟨k1, k2, k3, k4, hW2, hW3, hD1, by rw [hW3]; exact setRow_heap _ _ _ _ _ _ e2, g_new g2 (b := D1) ?_ (by omega)⟩
  rw [hW3]; exact ⟨rfl, rfl, rfl, by simp, fun b _ hn => setRow_other _ D1 b _ hn⟩
theorem sw_mem2 {w1 : World} {c B D1 : Nat} {W W1 W2 W3 W4 : World} {Z ZB : Array Value} (e1 : w1.heap[B]? = some (.cells #[.int .i64 0, .int .i64 0, .int .i64 0, .int .i64 0, .int .i64 0, .int .i64 0, .int .i64 0] 26 (0, 0))) (h1 : G w1 W) (hc : B + 1 = c) (k1 : Kp (fun g => g = c) W W1) (hD1 : W1.heap.size = D1) (hW2 : W2 = W1.alloc (.cells #[.int .i64 0, .int .i64 0, .int .i64 0, .int .i64 0, .int .i64 0, .int .i64 0, .int .i64 0] 26)) (hW3 : W3 = W2.setRow D1 Z) (hW4 : W4 = W3.setRow B ZB) :
    W2.heap[D1]? = some (.cells #[.int .i64 0, .int .i64 0, .int .i64 0, .int .i64 0, .int .i64 0, .int .i64 0, .int .i64 0] 26 (0, 0)) ∧ W4 = W3.setRow B ZB ∧ W3.heap[B]? = some (.cells #[.int .i64 0, .int .i64 0, .int .i64 0, .int .i64 0, .int .i64 0, .int .i64 0, .int .i64 0] 26 (0, 0)) ∧ Kp (fun g => g = B) W3 W4 ∧ W4.heap[B]? = some (.cells ZB 26 (0, 0)) := by
  have hBl := (Array.getElem?_eq_some_iff.1 e1).1
  have eW := (h1.block B hBl).trans e1
  have eW1 := (k1.block B (Array.getElem?_eq_some_iff.1 eW).1 (by omega)).trans eW
  have hB1 := (Array.getElem?_eq_some_iff.1 eW1).1
  have e2 : W2.heap[D1]? = some (.cells #[.int .i64 0, .int .i64 0, .int .i64 0, .int .i64 0, .int .i64 0, .int .i64 0, .int .i64 0] 26 (0, 0)) := by rw [hW2, ← hD1]; exact World.alloc_heap_new W1 _
  have eW2 : W2.heap[B]? = some (.cells #[.int .i64 0, .int .i64 0, .int .i64 0, .int .i64 0, .int .i64 0, .int .i64 0, .int .i64 0] 26 (0, 0)) := by rw [hW2, Below.heap_alloc _ _ _ hB1]; exact eW1
  have eW3 : W3.heap[B]? = some (.cells #[.int .i64 0, .int .i64 0, .int .i64 0, .int .i64 0, .int .i64 0, .int .i64 0, .int .i64 0] 26 (0, 0)) := by rw [hW3, setRow_other _ D1 B _ (by omega)]; exact eW2
  exact ⟨e2, hW4, eW3, by rw [hW4]; exact ⟨rfl, rfl, rfl, by simp, fun b _ hn => setRow_other _ B b _ hn⟩, by rw [hW4]; exact setRow_heap _ _ _ _ _ _ eW3⟩
set_option maxRecDepth 100000 in
set_option maxHeartbeats 16000000 in
theorem psetup_any (s : ByteArray) (w : World) (hs : s.size ≤ 70000) (hV : ∀ W, G w W → Vs W) : Calls Tryd.prog 5 #[.string s] w (StP (tl s) w) := by
  have hlen := tl_len s
  have CF := hid (fun (a r : Nat) (W : World) => fault_any a r W)
  obtain ⟨w1, hw1⟩ : ∃ w1, w1 = w.alloc (.cells #[.int .i64 0, .int .i64 0, .int .i64 0, .int .i64 0, .int .i64 0, .int .i64 0, .int .i64 0] 26) := ⟨_, rfl⟩
  have g1 : G w w1 := by rw [hw1]; exact (Below.refl _ _).alloc (Nat.le_refl _) _
  obtain ⟨B, hB⟩ : ∃ B, w.heap.size = B := ⟨_, rfl⟩
  have e1 : w1.heap[B]? = some (.cells #[.int .i64 0, .int .i64 0, .int .i64 0, .int .i64 0, .int .i64 0, .int .i64 0, .int .i64 0] 26 (0, 0)) := by rw [hw1, ← hB]; exact World.alloc_heap_new w _
  have s1 : w1.heap.size = B + 1 := by rw [hw1, ← hB]; simp
  have A1 := hid (⟨hw1, hB, g1, e1, s1⟩ : _ ∧ _ ∧ _ ∧ _ ∧ _)
  have HV := hid hV
  clear hw1 hB g1 e1 s1 hV
  by_cases hbig : 2000 < s.size
  · have hb : (2000 : Int) < (s.size : Int) := by omega
    have ht : Hid (setupT (tl s) = .error (0, 202)) := by show _ = _; unfold setupT; rw [if_pos (by omega)]
    go_enter Tryd.func5, Tryd.ntmps5
    go_wp2_with (first
      | ((with_reducible refine pl_val 2 (.pointer (some ⟨B, 0, none⟩)) w1 ?_ ?_ ?_ ?_); rfl; kernel_rfl; (rw [A1.out.1]; exact exec_allocT 26 _ rfl zero26 w B A1.out.2.1))
      | (go_at_call 11; refine (CF.out 0 202 w1).mono ?_; rintro E w3 ⟨v3, rfl, f1, f2⟩; have H3 := hid (⟨f1, f2⟩ : _ ∧ _); clear f1 f2)
      | ((with_reducible refine pl_store 26 (.tmp 2) (.tmp 12) B #[.int .i64 0, .int .i64 0, .int .i64 0, .int .i64 0, .int .i64 0, .int .i64 0, .int .i64 0] #[.int .i64 0, .int .i64 0, .int .i64 0, .int .i64 0, .int .i64 0, .int .i64 0, .int .i64 0] ?_ ?_ ?_ ?_ ?_ ?_ ?_ ?_ ?_ ?_); rfl; rfl; kernel_rfl; rfl; rfl; exact ((H3.out.2.block B (by have := A1.out; omega)).trans A1.out.2.2.2.1); exact siz26; exact rfl; exact (by simp [Value.oneCell']); intro w4 k4 v4 s4; have H4 := hid (⟨k4, v4, s4⟩ : _ ∧ _ ∧ _); clear k4 v4 s4))
    refine bodyPost_ret (results_s (p := 2) (u := 3) rfl _ _ B #[.int .i64 0, .int .i64 0, .int .i64 0, .int .i64 0, .int .i64 0, .int .i64 0, .int .i64 0] rfl H4.out.2.1 rfl) rfl ?_
    obtain ⟨f1, f2⟩ := H3.out
    obtain ⟨q1, q2, q3⟩ := H4.out
    obtain ⟨_, hB, g1, e1, s1⟩ := A1.out
    refine ⟨g_new (g1.tr f2) q1 (by omega), ?_⟩
    rw [ht.out]
    exact ⟨v3, rfl, f1.kp q1 (fun g cs e hc => by have e : g = B := e; rw [e, (f2.block B (by omega)).trans e1] at hc; cases hc)⟩
  · have hb : ¬ (2000 : Int) < (s.size : Int) := by omega
    have ht : Hid (setupT (tl s) = setupW (atW 0 (linesR (tl s))) s.size) := by show _ = _; unfold setupT; rw [if_neg (by omega), hlen]
    obtain ⟨c, hc⟩ : ∃ c, B + 1 = c := ⟨_, rfl⟩
    obtain ⟨w2, hw2⟩ : ∃ w2, w2 = w1.alloc (.cells #[.slice none 0 0, .int .i64 0] 52) := ⟨_, rfl⟩
    obtain ⟨w3, hw3⟩ : ∃ w3, w3 = w2.setRow c #[.slice none 0 0, .int .i64 (s.size : Int)] := ⟨_, rfl⟩
    have hs1 : w1.heap.size = c := by rw [A1.out.2.2.2.2, hc]
    have e2 : w2.heap[c]? = some (.cells #[.slice none 0 0, .int .i64 0] 52 (0, 0)) := by rw [hw2, ← hs1]; exact World.alloc_heap_new w1 _
    have g2 : G w1 w2 := by rw [hw2]; exact (Below.refl _ _).alloc (Nat.le_refl _) _
    have k3 : Kp (fun g => g = c) w2 w3 := by rw [hw3]; exact ⟨rfl, rfl, rfl, by simp, fun b _ hn => setRow_other _ c b _ hn⟩
    have e3 : w3.heap[c]? = some (.cells #[.slice none 0 0, .int .i64 (s.size : Int)] 52 (0, 0)) := by rw [hw3]; exact setRow_heap _ _ _ _ _ _ e2
    have g3 : G w1 w3 := g_new g2 k3 (by omega)
    have s3 : w3.heap.size = c + 1 := by rw [hw3, hw2, ← hs1]; simp
    have A3 := hid (⟨hw2, hw3, hs1, e2, g3, e3, s3⟩ : _ ∧ _ ∧ _ ∧ _ ∧ _ ∧ _ ∧ _)
    have HC := hid hc
    clear hw2 hw3 hs1 e2 g2 k3 e3 g3 s3 hc
    have CL := hid (lines12_any s w3)
    refine (callsIn_wide (n := 3)).1 ?_
    refine callsIn_of_wp_marks Tryd.func5 rfl trivial (Go.wpIn_mono (Q := RetM Tryd.f5 _) ?_ RetM.post) rfl
    simp only [Tryd.ntmps5, List.size_toArray, List.length_cons, List.length_nil, Nat.reduceAdd, Nat.reduceSub, Array.replicate_succ, Array.replicate_zero, List.push_toArray, List.append_toArray, List.nil_append, List.cons_append]
    gi_wp2_with (first
      | ((with_reducible refine pi_val 2 (.pointer (some ⟨B, 0, none⟩)) w1 ?_ ?_ ?_ ?_ ?_ ?_); rfl; rfl; (rw [A1.out.1]; exact exec_allocT 26 _ rfl zero26 w B A1.out.2.1); (intro c h; cases h); exact fun _ _ => trivial)
      | ((with_reducible refine pi_val 4 (.pointer (some ⟨c, 0, none⟩)) w2 ?_ ?_ ?_ ?_ ?_ ?_); rfl; rfl; (rw [A3.out.1]; exact exec_allocT 52 _ rfl zero52 w1 c A3.out.2.2.1); (intro c h; cases h); exact fun _ _ => trivial)
      | ((with_reducible refine pi_st 52 (.tmp 4) (.tmp 16) w3 ?_ ?_ ?_ ?_ ?_ ?_ ?_); rfl; rfl; rfl; (rw [A3.out.2.1]; exact exec_storeT 52 (.tmp 4) (.tmp 16) rfl c #[.slice none 0 0, .int .i64 (s.size : Int)] _ rfl rfl w2 A3.out.2.2.2.1 siz52 rfl (by simp [Value.oneCell'])); (intro c h; cases h); exact fun _ _ => trivial)
      | (gi_at_call 12; refine (callsIn_wide.2 CL.out).mono ?_; rintro E w4 ⟨rfl, hw4⟩)
      | (refine ⟨trivial, ?_⟩; gi_at_call 12; refine (callsIn_wide.2 CL.out).mono ?_; rintro E w4 ⟨rfl, hw4⟩))
    rw [A3.out.2.2.2.2.2.2]
    rw [← hw4]
    have g34 : G w3 w4 := by rw [hw4]; exact (Below.refl _ _).alloc (Nat.le_refl _) _
    have e4 : w4.heap[c + 1]? = some (.cells #[.string s] 9 (0, 0)) := by rw [hw4, ← A3.out.2.2.2.2.2.2]; exact World.alloc_heap_new w3 _
    have gw4 : G w w4 := (A1.out.2.2.1.tr A3.out.2.2.2.2.1).tr g34
    have hLI : LI w1 c s.size (wpre []) w4 := ⟨.slice none 0 0, A3.out.2.2.2.2.1.tr g34, (g34.block c (by have := A3.out.2.2.2.2.2.2; omega)).trans A3.out.2.2.2.2.2.1, OwL.nil _ _ _ _⟩
    have hwt : wt ((linesB s).map tl) = s.size + 1 := by rw [linesB_tl, linesR_wt, tl_len]
    have hcw : w.heap.size ≤ c := by have := A1.out.2.1; have := HC.out; omega
    have HWT := hid hwt
    have H4 := hid (⟨e4, gw4⟩ : _ ∧ _)
    have HS14 := hid (A3.out.2.2.2.2.1.tr g34).size
    clear hw4 g34 e4 gw4 hwt
    refine wpIn_range_at rfl (by omega) (gf := 19) (lb := #[.pointer (some ⟨c + 1, 0, none⟩)]) rfl trivial (enters_of Tryd.func19 (by kernel_rfl) rfl) (encs := enc2)
      (lines_seq (c + 1) s (by omega) w4 H4.out.1) (fun h k g cs f e => k g cs f (h g cs f e)) (fun W l o o' hl ho h1 _ g cs f e => ?kb) (Below.refl _ _) (fun _ => rfl)
      (fun pre W => LI w1 c s.size (wpre pre) W) (fun _ _ => False) (LI.own HS14.out) (fun _ _ _ _ hs _ _ => hs) hLI
      (fun x => { tmps := #[.string s, undef, .pointer (some ⟨B, 0, none⟩), .nilIface, .pointer (some ⟨c, 0, none⟩), .int .i64 (x.1 : Int), .string x.2, undef, undef, .string s, .int .i64 (s.size : Int), .bool false, undef, undef, .string s, .int .i64 (s.size : Int), .agg #[.slice none 0 0, .int .i64 (s.size : Int)], .string s, .func (.func 19) #[] #[.pointer (some ⟨c + 1, 0, none⟩)], .int .i64 (x.1 : Int), .string x.2, undef, undef, undef, undef, undef, undef, undef, undef, undef, undef, undef, undef, undef, undef, undef, undef], defers := [] }) ?assign ?body ?done ?stop
    case kb =>
      rw [World.putObj_heap_other (fun q => by rw [q, ho] at e; cases e; cases h1)]
      exact e
    case assign =>
      intro l x W K hK
      unfold enc2
      gi_wp2
      exact hK
    case stop =>
      rintro D pre W _ _ h _
      exact h.elim
    case body =>
      rintro l pre x W ⟨u, h1, h2, h3⟩ hsp
      obtain ⟨at_, ln⟩ := x
      have hx : at_ + ln.size + 1 ≤ s.size + 1 := by
        obtain ⟨t, ht2⟩ := hsp
        have := plc_sum (linesB s) 0 pre (at_, ln) t (by rw [← ht2]; simp)
        rw [HWT.out] at this
        simpa using this
      have hnw : (wpre pre).length + (wds (tl ln) at_).length ≤ s.size + 1 := by
        have q1 := wpre_pre hsp
        have q2 := wpre_len (linesB s) 0
        rw [HWT.out] at q2
        rw [wpre_snoc, List.length_append] at q1
        simp only at q1
        omega
      obtain ⟨ua, uk, hu⟩ := h3.form
      subst hu
      generalize hL : (List.map wc (wpre pre)).length = un at *
      refine wpIn_block ?_
      have HH := hid (⟨h1, h2, h3⟩ : _ ∧ _ ∧ _)
      clear h1 h2 h3 hLI
      refine regw7 l c un uk ua (at_ : Int) ln (fun _ V => G W V)
        (fun r V => G W V ∧ OwL 90 3 V W.heap.size (r 1) ((wds (tl ln) at_).map wc))
        (fun r V => ∃ V0, G W V0 ∧ OwL 90 3 V (c + 1) (r 2) ((wpre pre ++ wds (tl ln) at_).map wc) ∧ V0.grownBy V (Value.slice ua un uk).ownBlock)
        (fun _ V => KeepsOthers W V ∧ K9 W V ∧ LI w1 c s.size (wpre (pre ++ [(at_, ln)])) V)
        (fun V => V.cell? ⟨c, 0, none⟩ = some (.slice ua un uk)) _ W rfl rfl rfl rfl ?b0 ?b1 ?c1 ?c2 ?c3 ?l1 ?st ?fin
      case b0 =>
        intro _ V q
        have e := (q.block c (Array.getElem?_eq_some_iff.1 HH.out.2.1).1).trans HH.out.2.1
        rw [cell_heap e]; rfl
      case b1 =>
        rintro _ V ⟨q, _⟩
        have e := (q.block c (Array.getElem?_eq_some_iff.1 HH.out.2.1).1).trans HH.out.2.1
        rw [cell_heap e]; rfl
      case c1 =>
        intro r V q
        refine ((callsIn_wide.2 (cut_any ln at_ V (by omega) (by omega))).inRound l).mono ?_
        rintro E V' ⟨v, rfl, o1, q2⟩
        exact ⟨v, rfl, q.tr q2, by rw [ups_same]; exact o1.mono q.size⟩
      case c2 =>
        rintro r V ⟨q, o1⟩
        have h3 := HH.out.2.2.up q
        obtain ⟨v', V', r1, r2, r3, _⟩ := app_run ek50 50 h3 o1.has (fun y hy => by obtain ⟨z, _, rfl⟩ := List.mem_map.1 hy; exact ⟨rfl, wc_one z⟩) (by have := (Array.getElem?_eq_some_iff.1 HH.out.2.1).1; have := q.size; omega) (by simp; omega)
        refine ⟨v', V', r1, V, q, ?_, r3⟩
        rw [ups_same, List.map_append]
        exact r2
      case c3 =>
        rintro r V ⟨V0, q, o2, gr⟩
        obtain ⟨h1, h2, h3⟩ := HH.out
        have h30 := h3.up q
        have hcl := (Array.getElem?_eq_some_iff.1 h2).1
        have hne : (Value.slice ua un uk).ownBlock ≠ some c := fun e => by have := (h3.lt c e).1; omega
        have e0 := (q.block c hcl).trans h2
        have eV := (gr.block c (by have := q.size; omega) (fun e => hne e.symm)).trans e0
        obtain ⟨pa, pc, hp⟩ := o2.form
        have kset := Kp.set V c 0 (r 2)
        have kgr : Kp (fun g => (Value.slice ua un uk).ownBlock = some g) V0 V := Kp.grown gr
        refine ⟨⟨_, by rw [cell_heap eV]; rfl⟩, by simp [World.frozen?, eV], ⟨_, _, _, hp⟩, ?_, ?_, r 2, ?_, ?_, ?_⟩
        · refine ⟨by have := q.size; have := gr.size; simp; omega, fun b o hb ho => ?_⟩
          have hbl := (Array.getElem?_eq_some_iff.1 hb).1
          rw [kset.block b (by have := q.size; have := gr.size; omega) (fun e => ?_), kgr.block b (by have := q.size; omega) (fun e => ?_), q.block b hbl]
          · exact hb
          · obtain ⟨_, cur, hh⟩ := own_cells h3 e
            rw [hb] at hh; cases hh; cases ho
          · have e : b = c := e
            rw [e, h2] at hb; cases hb; cases ho
        · intro g cs f hg
          have hgl := (Array.getElem?_eq_some_iff.1 hg).1
          rw [kset.block g (by have := q.size; have := gr.size; omega) (fun e => ?_), kgr.block g (by have := q.size; omega) (fun e => ?_), q.block g hgl]
          · exact hg
          · obtain ⟨_, cur, hh⟩ := own_cells h3 e
            rw [hg] at hh; cases hh
          · have e : g = c := e
            rw [e, h2] at hg; cases hg
        · have kk : Kp (fun g => g = c ∨ (Value.slice ua un uk).ownBlock = some g) W (V.setCell ⟨c, 0, none⟩ (r 2)) := ((Kp.of q).snd (kgr.mono fun g _ e => Or.inr e)).snd (kset.mono fun g _ e => Or.inl e)
          have hs1 := A3.out.2.2.1
          exact Below.trans (B := w1.heap.size) h1 (kk.below h1.size (fun g e => by
            rcases e with e | e
            · omega
            · have := (h3.lt g e).1
              omega))
        · rw [heap_setCell_at _ eV]; rfl
        · rw [wpre_snoc]
          refine o2.block fun g eg => kset.block g (o2.lt g eg).2 ?_
          have := (o2.lt g eg).1; omega
      case l1 => exact fun V q => q
      case st => exact fun _ => G.drew W
      case fin =>
        rintro r V ⟨q1, q2, q3⟩
        exact .inl ⟨rfl, q1, q2, q3⟩
    case done =>
      rintro D xs W hD rfl hI hK
      rw [wpre_all] at hI
      obtain ⟨u, h1, h2, h3⟩ := hI
      have hCr : Cr c (atW 0 (linesR (tl s))) s.size W := by
        obtain ⟨ua, uk, hu⟩ := h3.form
        subst hu
        rw [List.length_map] at h2
        refine ⟨ua, uk, h2, fun hn => ?_⟩
        obtain ⟨hl, ⟨e1, e2⟩ | ⟨g, cap, cur, hv, hg, hh, hcap, _⟩⟩ := h3.own
        · exact absurd (List.length_eq_zero_iff.1 (by simpa using e2)) hn
        · injection hv with a1 a2 a3
          subst a1; subst a3
          refine ⟨g, 0, rfl, by omega, ⟨cur, _, hh⟩, by simpa using hcap, fun i x hi => ?_⟩
          rcases h3.has with ⟨q, _⟩ | ⟨g', o', cap', hq, _, hat⟩
          · cases q
          · injection hq with b1 _ _
            injection b1 with b1
            injection b1 with b1 b2 _
            subst b1; subst b2
            exact hat i x hi
      have hwsx : ∀ x ∈ atW 0 (linesR (tl s)), x.text.length ≤ 100000 := fun x hx => by
        have := atW_tx _ 0 x hx
        rw [linesR_wt, tl_len] at this
        omega
      have CS := setup_any c _ s.size W hCr (fun W' kk => HV.out W' (A1.out.2.2.1.tr (Below.trans (B := w1.heap.size) h1 (Below.mono kk (Nat.le_of_eq A3.out.2.2.1))))) hwsx
      generalize hwsE : atW 0 (linesR (tl s)) = WS at *
      have HF := hid (⟨h1, h2, hK⟩ : _ ∧ _ ∧ _)
      clear h1 h2 h3 hK hLI hCr hwsx
      cases hsw : setupW WS s.size with
      | error y =>
        have CS : Hid (Calls Tryd.prog 14 #[.pointer (some ⟨c, 0, none⟩)] W fun E W1 => ∃ Z N, E = .returned (.tuple #[.agg Z, .iface 58 (.pointer (some ⟨N, 0, none⟩))]) ∧ Kp (fun g => g = c) W W1 ∧ Flt W1 (.iface 58 (.pointer (some ⟨N, 0, none⟩))) y ∧ Z.size = 7 ∧ Z.all (·.oneCell') = true) := CS.mono (by
          rintro E W1 ⟨k1, k2⟩
          rw [hsw] at k2
          obtain ⟨Z, v, rfl, ⟨N, rfl, hN⟩, k3, k4⟩ := k2
          exact ⟨Z, N, rfl, k1, ⟨N, rfl, hN⟩, k3, k4⟩)
        have HSW := hid hsw
        clear hsw
        gi_wp2_with (first
          | (gi_at_call 14; refine (callsIn_wide.2 CS.out).mono ?_; rintro E W1 ⟨Z, N, rfl, k1, k2, k3, k4⟩; obtain ⟨D1, hD1⟩ : ∃ D1, W1.heap.size = D1 := ⟨_, rfl⟩; obtain ⟨W2, hW2⟩ : ∃ W2, W2 = W1.alloc (.cells #[.int .i64 0, .int .i64 0, .int .i64 0, .int .i64 0, .int .i64 0, .int .i64 0, .int .i64 0] 26) := ⟨_, rfl⟩; obtain ⟨W3, hW3⟩ : ∃ W3, W3 = W2.setRow D1 Z := ⟨_, rfl⟩; obtain ⟨W4, hW4⟩ : ∃ W4, W4 = W3.setRow B #[.int .i64 0, .int .i64 0, .int .i64 0, .int .i64 0, .int .i64 0, .int .i64 0, .int .i64 0] := ⟨_, rfl⟩; have H8 := hid (sw_mem k1 k2 k3 k4 hD1 hW2 hW3); have A8 := hid (sw_mem2 A1.out.2.2.2.1 HF.out.1 HC.out k1 hD1 hW2 hW3 hW4); clear k1 k2 k3 k4 hD1 hW2 hW3 hW4)
          | (refine ⟨trivial, ?_⟩; gi_at_call 14; refine (callsIn_wide.2 CS.out).mono ?_; rintro E W1 ⟨Z, N, rfl, k1, k2, k3, k4⟩; obtain ⟨D1, hD1⟩ : ∃ D1, W1.heap.size = D1 := ⟨_, rfl⟩; obtain ⟨W2, hW2⟩ : ∃ W2, W2 = W1.alloc (.cells #[.int .i64 0, .int .i64 0, .int .i64 0, .int .i64 0, .int .i64 0, .int .i64 0, .int .i64 0] 26) := ⟨_, rfl⟩; obtain ⟨W3, hW3⟩ : ∃ W3, W3 = W2.setRow D1 Z := ⟨_, rfl⟩; obtain ⟨W4, hW4⟩ : ∃ W4, W4 = W3.setRow B #[.int .i64 0, .int .i64 0, .int .i64 0, .int .i64 0, .int .i64 0, .int .i64 0, .int .i64 0] := ⟨_, rfl⟩; have H8 := hid (sw_mem k1 k2 k3 k4 hD1 hW2 hW3); have A8 := hid (sw_mem2 A1.out.2.2.2.1 HF.out.1 HC.out k1 hD1 hW2 hW3 hW4); clear k1 k2 k3 k4 hD1 hW2 hW3 hW4)
          | ((with_reducible refine pi_val 7 (.pointer (some ⟨D1, 0, none⟩)) W2 ?_ ?_ ?_ ?_ ?_ ?_); rfl; rfl; (rw [H8.out.2.2.2.2.1]; exact exec_allocT 26 _ rfl zero26 W1 D1 H8.out.2.2.2.2.2.2.1); (intro c h; cases h); exact fun _ _ => trivial)
          | ((with_reducible refine pi_st 26 (.tmp 7) (.tmp 30) W3 ?_ ?_ ?_ ?_ ?_ ?_ ?_); rfl; rfl; rfl; (rw [H8.out.2.2.2.2.2.1]; exact exec_storeT 26 (.tmp 7) (.tmp 30) rfl D1 Z #[.int .i64 0, .int .i64 0, .int .i64 0, .int .i64 0, .int .i64 0, .int .i64 0, .int .i64 0] rfl rfl W2 A8.out.1 (by rw [siz26, H8.out.2.2.1]) H8.out.2.2.1.symm H8.out.2.2.2.1); (intro c h; cases h); exact fun _ _ => trivial)
          | ((with_reducible refine pi_st 26 (.tmp 2) (.tmp 34) W4 ?_ ?_ ?_ ?_ ?_ ?_ ?_); rfl; rfl; rfl; (rw [A8.out.2.1]; exact exec_storeT 26 (.tmp 2) (.tmp 34) rfl B #[.int .i64 0, .int .i64 0, .int .i64 0, .int .i64 0, .int .i64 0, .int .i64 0, .int .i64 0] #[.int .i64 0, .int .i64 0, .int .i64 0, .int .i64 0, .int .i64 0, .int .i64 0, .int .i64 0] rfl rfl W3 A8.out.2.2.1 siz26 rfl (by simp [Value.oneCell'])); (intro c h; cases h); exact fun _ _ => trivial))
        obtain ⟨_, _, e3B, k4, e4B⟩ := A8.out
        obtain ⟨k1, k2, k3, k4', hW2, hW3, hD1, e3, g3⟩ := H8.out
        obtain ⟨h1, h2, hK⟩ := HF.out
        have hKW : W4.heap[D]? = some (.deferred (some [])) := by
          have hDl := (Array.getElem?_eq_some_iff.1 hK).1
          have d1 := (k1.block D hDl (fun e => by have e : D = c := e; rw [e, h2] at hK; cases hK)).trans hK
          have d3 := (g3.block D (Array.getElem?_eq_some_iff.1 d1).1).trans d1
          exact (k4.block D (Array.getElem?_eq_some_iff.1 d3).1 (fun e => by have e : D = B := e; rw [e, e3B] at d3; cases d3)).trans d3
        refine ⟨by simp, .inl ⟨_, _, rfl, run_takeDeferred hKW, ?_⟩⟩
        have hDB : D ≠ B := fun e => by rw [e, e4B] at hKW; cases hKW
        refine ⟨_, results_s (fn := Tryd.f5) (p := 2) (u := 3) rfl _ _ B #[.int .i64 0, .int .i64 0, .int .i64 0, .int .i64 0, .int .i64 0, .int .i64 0, .int .i64 0] rfl ((World.putObj_heap_other (Ne.symm hDB)).trans e4B) rfl, ?_⟩
        have hBw : w.heap.size ≤ B := by have := A1.out.2.1; omega
        have gfin : G w W4 := by
          have k14 : Kp (fun g => g = c ∨ g = B) W W4 := ((k1.mono fun g _ e => Or.inl e).snd (Kp.of g3)).snd (k4.mono fun g _ e => Or.inr e)
          have hG := A1.out.2.2.1.tr h1
          exact Below.trans (B := w.heap.size) hG (k14.below hG.size (fun g e => by
            rcases e with e | e
            · omega
            · omega))
        have hDw : w.heap.size ≤ D := by have := H4.out.2.size; omega
        refine ⟨Below.trans (B := w.heap.size) gfin ⟨rfl, rfl, rfl, by simp, fun b hb => World.putObj_heap_other (fun e => by omega)⟩, ?_⟩
        rw [ht.out, HSW.out]
        refine ⟨_, rfl, ?_⟩
        have f4 : Flt W4 (.iface 58 (.pointer (some ⟨N, 0, none⟩))) y := (k2.up g3).kp k4 (fun g cs e hc => by have e : g = B := e; rw [e, e3B] at hc; cases hc)
        obtain ⟨N', hv, hN⟩ := f4
        exact ⟨N', hv, (World.putObj_heap_other (fun e => by rw [← e, hN] at hKW; cases hKW)).trans hN⟩
      | ok l =>
        have CS : Hid (Calls Tryd.prog 14 #[.pointer (some ⟨c, 0, none⟩)] W fun E W1 => ∃ Z, E = .returned (.tuple #[.agg Z, .nilIface]) ∧ Kp (fun g => g = c) W W1 ∧ Z = (l.map vi).toArray ∧ Z.size = 7 ∧ Z.all (·.oneCell') = true) := CS.mono (by
          rintro E W1 ⟨k1, k2⟩
          rw [hsw] at k2
          refine ⟨_, k2.1, k1, rfl, by simpa using k2.2, ?_⟩
          rw [Array.all_eq_true_iff_forall_mem]
          intro x hx
          obtain ⟨n, _, rfl⟩ := List.mem_map.1 (by simpa using hx)
          rfl)
        have HSW := hid hsw
        clear hsw
        gi_wp2_with (first
          | (gi_at_call 14; refine (callsIn_wide.2 CS.out).mono ?_; rintro E W1 ⟨Z, rfl, k1, k2, k3, k4⟩; obtain ⟨D1, hD1⟩ : ∃ D1, W1.heap.size = D1 := ⟨_, rfl⟩; obtain ⟨W2, hW2⟩ : ∃ W2, W2 = W1.alloc (.cells #[.int .i64 0, .int .i64 0, .int .i64 0, .int .i64 0, .int .i64 0, .int .i64 0, .int .i64 0] 26) := ⟨_, rfl⟩; obtain ⟨W3, hW3⟩ : ∃ W3, W3 = W2.setRow D1 Z := ⟨_, rfl⟩; obtain ⟨W4, hW4⟩ : ∃ W4, W4 = W3.setRow B Z := ⟨_, rfl⟩; have H8 := hid (sw_mem k1 k2 k3 k4 hD1 hW2 hW3); have A8 := hid (sw_mem2 A1.out.2.2.2.1 HF.out.1 HC.out k1 hD1 hW2 hW3 hW4); clear k1 k2 k3 k4 hD1 hW2 hW3 hW4)
          | (refine ⟨trivial, ?_⟩; gi_at_call 14; refine (callsIn_wide.2 CS.out).mono ?_; rintro E W1 ⟨Z, rfl, k1, k2, k3, k4⟩; obtain ⟨D1, hD1⟩ : ∃ D1, W1.heap.size = D1 := ⟨_, rfl⟩; obtain ⟨W2, hW2⟩ : ∃ W2, W2 = W1.alloc (.cells #[.int .i64 0, .int .i64 0, .int .i64 0, .int .i64 0, .int .i64 0, .int .i64 0, .int .i64 0] 26) := ⟨_, rfl⟩; obtain ⟨W3, hW3⟩ : ∃ W3, W3 = W2.setRow D1 Z := ⟨_, rfl⟩; obtain ⟨W4, hW4⟩ : ∃ W4, W4 = W3.setRow B Z := ⟨_, rfl⟩; have H8 := hid (sw_mem k1 k2 k3 k4 hD1 hW2 hW3); have A8 := hid (sw_mem2 A1.out.2.2.2.1 HF.out.1 HC.out k1 hD1 hW2 hW3 hW4); clear k1 k2 k3 k4 hD1 hW2 hW3 hW4)
          | ((with_reducible refine pi_val 7 (.pointer (some ⟨D1, 0, none⟩)) W2 ?_ ?_ ?_ ?_ ?_ ?_); rfl; rfl; (rw [H8.out.2.2.2.2.1]; exact exec_allocT 26 _ rfl zero26 W1 D1 H8.out.2.2.2.2.2.2.1); (intro c h; cases h); exact fun _ _ => trivial)
          | ((with_reducible refine pi_st 26 (.tmp 7) (.tmp 30) W3 ?_ ?_ ?_ ?_ ?_ ?_ ?_); rfl; rfl; rfl; (rw [H8.out.2.2.2.2.2.1]; exact exec_storeT 26 (.tmp 7) (.tmp 30) rfl D1 Z #[.int .i64 0, .int .i64 0, .int .i64 0, .int .i64 0, .int .i64 0, .int .i64 0, .int .i64 0] rfl rfl W2 A8.out.1 (by rw [siz26, H8.out.2.2.1]) H8.out.2.2.1.symm H8.out.2.2.2.1); (intro c h; cases h); exact fun _ _ => trivial)
          | ((with_reducible refine pi_val 36 (.agg Z) W3 ?_ ?_ ?_ ?_ ?_ ?_); rfl; rfl; exact exec_load 26 (.tmp 7) rfl D1 0 rfl Z _ (Lies.of_heap H8.out.2.2.2.2.2.2.2.1) Tryd.underlying26 rfl (by rw [siz26, H8.out.2.2.1]); (intro c h; cases h); exact fun _ _ => trivial)
          | ((with_reducible refine pi_st 26 (.tmp 2) (.tmp 36) W4 ?_ ?_ ?_ ?_ ?_ ?_ ?_); rfl; rfl; rfl; (rw [A8.out.2.1]; exact exec_storeT 26 (.tmp 2) (.tmp 36) rfl B Z #[.int .i64 0, .int .i64 0, .int .i64 0, .int .i64 0, .int .i64 0, .int .i64 0, .int .i64 0] rfl rfl W3 A8.out.2.2.1 (by rw [siz26, H8.out.2.2.1]) H8.out.2.2.1.symm H8.out.2.2.2.1); (intro c h; cases h); exact fun _ _ => trivial))
        obtain ⟨_, _, e3B, k4, e4B⟩ := A8.out
        obtain ⟨k1, k2, k3, k4', hW2, hW3, hD1, e3, g3⟩ := H8.out
        obtain ⟨h1, h2, hK⟩ := HF.out
        have hKW : W4.heap[D]? = some (.deferred (some [])) := by
          have hDl := (Array.getElem?_eq_some_iff.1 hK).1
          have d1 := (k1.block D hDl (fun e => by have e : D = c := e; rw [e, h2] at hK; cases hK)).trans hK
          have d3 := (g3.block D (Array.getElem?_eq_some_iff.1 d1).1).trans d1
          exact (k4.block D (Array.getElem?_eq_some_iff.1 d3).1 (fun e => by have e : D = B := e; rw [e, e3B] at d3; cases d3)).trans d3
        refine ⟨by simp, .inl ⟨_, _, rfl, run_takeDeferred hKW, ?_⟩⟩
        have hDB : D ≠ B := fun e => by rw [e, e4B] at hKW; cases hKW
        refine ⟨_, results_s (fn := Tryd.f5) (p := 2) (u := 3) rfl _ _ B Z rfl ((World.putObj_heap_other (Ne.symm hDB)).trans e4B) k3, ?_⟩
        have hBw : w.heap.size ≤ B := by have := A1.out.2.1; omega
        have gfin : G w W4 := by
          have k14 : Kp (fun g => g = c ∨ g = B) W W4 := ((k1.mono fun g _ e => Or.inl e).snd (Kp.of g3)).snd (k4.mono fun g _ e => Or.inr e)
          have hG := A1.out.2.2.1.tr h1
          exact Below.trans (B := w.heap.size) hG (k14.below hG.size (fun g e => by
            rcases e with e | e
            · omega
            · omega))
        have hDw : w.heap.size ≤ D := by have := H4.out.2.size; omega
        refine ⟨Below.trans (B := w.heap.size) gfin ⟨rfl, rfl, rfl, by simp, fun b hb => World.putObj_heap_other (fun e => by omega)⟩, ?_⟩
        rw [ht.out, HSW.out]
        subst k2
        exact ⟨rfl, by simpa using k3⟩
end Go.Proofs.YtfigneaaeakbcaaDoor
