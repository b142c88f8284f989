import Derived.Test.YtbjjbgaomoihaaaGreatDoorEach
import Derived.Test.YtbjjbgaomoihaaaGreatDoorCopy
import Derived.Test.YtbjjbgaomoihaaaGreatDoorBBkNew
set_option maxRecDepth 100000
set_option maxHeartbeats 1000000
namespace Go.Proofs.YtbjjbgaomoihaaaGreatDoor
open Go.RowKit Go.Shelf
attribute [local go_sem] Oper.semAt_some
theorem K.items_len : ∀ k : K, k.items.length = k.flat.len
  | .nil => rfl
  | .node _ _ _ _ _ _ ah be => by rw [K.items, K.flat, F.app_len, F.len, List.length_append, List.length_cons, K.items_len ah, K.items_len be]
theorem childrenF_any (p : Nat) (w : World) :
    Calls Tryz.prog 25 #[.pointer (some ⟨p, 0, none⟩)] w fun e w' => e = .returned (.func (.func 56) #[] #[.pointer (some ⟨w.heap.size, 0, none⟩)]) ∧ w' = w.alloc (.cells #[.pointer (some ⟨p, 0, none⟩)] 32) := by
  have hmf : ∀ (fn : Fn) (first cap : Array Value) (w : World), (Instr.makeFunc fn first cap).run Tryz.prog w = .ok (.func fn first cap) w := fun _ _ _ _ => rfl
  go_enter Tryz.func25, Tryz.ntmps25
  go_wp2
  go_ret
  exact ⟨rfl, rfl⟩
theorem children1_in (n : Nat) (w0 : World) (S l Bt p : Nat) (v : Vd) (m : Md) (k : K) (J Jx : List (KidIn w0 S) → World → Prop) (hJD : ∀ pre W, J pre W → J pre W.drew)
    (hY : ∀ pre (x : KidIn w0 S) W, J pre W → pre.length < k.items.length → YieldAt Fence.wide (n - 1) Tryz.prog l #[.string x.1.nm, .pointer (some ⟨x.1.p, 0, none⟩)] W fun e W' =>
      (e = .returned (.bool true) ∧ J (pre ++ [x]) W' ∧ Below w0.heap.size W W') ∨ (e = .returned (.bool false) ∧ Jx (pre ++ [x]) W'))
    (W : World) (hBt : W.cell? ⟨Bt, 0, none⟩ = some (.pointer (some ⟨p, 0, none⟩))) (hT : AtT w0 p v m k) (hS : k.flat.size ≤ S) (hG : G w0 W) (h0 : J [] W) :
    CallsIn Fence.wide n Tryz.prog 56 #[.func (.yield l) #[] #[], .pointer (some ⟨Bt, 0, none⟩)] W fun e W' => (∃ v, e = .returned v) ∧
      ((∃ ys : List (KidIn w0 S), kids ys = k.items ∧ J ys W') ∨ (∃ pre : List (KidIn w0 S), kids pre <+: k.items ∧ Jx pre W')) := by
  obtain ⟨pk, h1, h2⟩ := hT
  have c39 := hG.cell (lies_cell h1 39 _ (tc_kids ..))
  have hp := each_in w0 S l k.items.length J Jx hJD (fun m pre x W hj hl => yieldAny rfl m (hY pre x W hj hl)) k (n - 1) pk [] W h2 hS hG h0 (by simp)
  obtain ⟨a, rfl⟩ := h2.form
  clear h1 h2 hY
  refine callsIn_of_wp Tryz.func56 rfl trivial ?_ rfl
  simp only [Tryz.ntmps56, List.size_toArray, List.length_cons, List.length_nil, Nat.reduceAdd, Nat.reduceSub, Array.replicate_succ, Array.replicate_zero, List.push_toArray, List.append_toArray, List.nil_append, List.cons_append]
  gi_wp2_with (refine ⟨trivial, fun h => (by cases h), ?_⟩; gi_at_call 57; refine hp.mono ?_; clear hp; rintro e W1 (⟨rfl, ys, hys, hJ1, _⟩ | ⟨rfl, q, hq, hx⟩))
  · go_end0
    exact ⟨⟨_, rfl⟩, .inl ⟨ys, hys, by simpa using hJ1⟩⟩
  · go_end0
    exact ⟨⟨_, rfl⟩, .inr ⟨q, hq, by simpa using hx⟩⟩
theorem children_stops (n : Nat) (w0 : World) (S Bt p : Nat) (v : Vd) (m : Md) (k : K) (w : World) (hBt : Bt < w.heap.size) (hc : w.cell? ⟨Bt, 0, none⟩ = some (.pointer (some ⟨p, 0, none⟩))) (hT : AtT w0 p v m k) (hS : k.flat.size ≤ S) (hG : G w0 w) :
    SeqStopsK Fence.wide n Tryz.prog 56 #[.pointer (some ⟨Bt, 0, none⟩)] (fun x : KidIn w0 S => #[Value.string x.1.nm, .pointer (some ⟨x.1.p, 0, none⟩)]) (Below w0.heap.size) (fun ys => kids ys = k.items) (fun pre => kids pre <+: k.items) k.items.length w := fun l J Jx W hW hJ _ hY h0 =>
  children1_in n w0 S l Bt p v m k J Jx (fun pre A h => hJ _ _ _ none h ⟨rfl, rfl, rfl, Nat.le_refl _, fun _ _ _ => rfl⟩ (fun r e => by cases e)) hY W ((hW.cell (p := ⟨Bt, 0, none⟩) hBt).trans hc) hT hS (hG.trans hW) h0
end Go.Proofs.YtbjjbgaomoihaaaGreatDoor
namespace Go.Proofs.YtbjjbgaomoihaaaGreatDoor
open Go.RowKit Go.Shelf
theorem build30 (v : Vd) (m : Md) (w : World) : (Instr.build 30 #[(1, .agg (vx v).toArray), (2, .agg (mx m).toArray)]).run Tryz.prog w = .ok (.agg (nc ⟨#[]⟩ v m (.slice none 0 0))) w := by
  refine run_build w 30 _ _ ?_
  have hz : ∃ z : List Value, (Tryz.prog.info? 30).bind (·.zero) = some (.agg (List.toArray (.string ⟨#[]⟩ :: (z ++ [.slice none 0 0])))) ∧ z.length = 39 := ⟨vx Vd.zero ++ mx Md.zero, by kernel_rfl, by kernel_rfl⟩
  obtain ⟨z, hz, hl⟩ := hz
  have hp : (Tryz.prog.fieldsOf 30).toList.mapM (fun f => (Tryz.prog.info? f.type).map fun i => (f.offset, i.size)) = some [(0, 1), (1, 35), (36, 4), (40, 1)] := by kernel_rfl
  have hu2 : Tryz.prog.underlying 30 = some (.struct (Tryz.prog.fieldsOf 30)) := by kernel_rfl
  unfold Program.built
  cases hi : Tryz.prog.info? 30 with
  | none => rw [hi] at hz; cases hz
  | some it =>
    rw [hi] at hz
    simp only [Option.bind_some] at hz
    simp only [hu2, hz, hp]
    show Instr.fill _ (List.toArray _) _ = _
    have hx := vx_len v
    have hm := mx_len m
    rw [fill_cons _ _ 1 1 35 _ (vx v) _ rfl rfl hx (by simp; omega), fill_cons _ _ 2 36 4 _ (mx m) _ rfl rfl hm (by simp [over, hx]; omega), Instr.fill]
    simp only [over, nc, hx, hm]
    refine congrArg some (congrArg List.toArray ?_)
    simp only [List.take_succ_cons, List.take_zero, List.cons_append, List.nil_append, List.drop_succ_cons, Nat.reduceAdd]
    have t1 : ∀ r : List Value, (vx v ++ r).take 35 = vx v := fun r => by
      rw [List.take_append_of_le_length (by omega), List.take_of_length_le (by omega)]
    have t2 : ((vx v ++ (z ++ [Value.slice none 0 0]).drop 35).drop 39) = [Value.slice none 0 0] := by
      rw [List.drop_append, hx, List.drop_of_length_le (by omega), List.drop_drop, List.nil_append, List.drop_append, hl, List.drop_of_length_le (by omega)]
      rfl
    rw [t1, t2]
    simp
theorem exec_build30 {o : Oper} {a : Act} (parts : Array (Nat × Operand)) (ho : o.op = .build 30 parts) (v : Vd) (m : Md)
    (hp : (parts.map fun (p : Nat × Operand) => (p.1, a.eval p.2)) = #[(1, .agg (vx v).toArray), (2, .agg (mx m).toArray)]) (w : World) : (execOp a.eval o).run Tryz.prog w = .ok (.value (.agg (nc ⟨#[]⟩ v m (.slice none 0 0)))) w := by
  unfold execOp
  simp only [ho]
  have : (parts.map fun (x : Nat × Operand) => match x with | (i, x) => (i, a.eval x)) = #[(1, .agg (vx v).toArray), (2, .agg (mx m).toArray)] := hp
  rw [this]
  simp only [Sem.run_bind, build30 v m w, Result.andThen_ok, Sem.run_pure]
theorem owns_setCells {base e size g n cap : Nat} : ∀ (vs : List Value) (o : Nat) (w : World) (xs : List Value), w.ownsRow base e size (.slice (some ⟨g, 0, none⟩) n cap) n xs → o + vs.length ≤ xs.length →
    (w.setCells g o vs).ownsRow base e size (.slice (some ⟨g, 0, none⟩) n cap) n (over xs o vs) ∧ w.grownBy (w.setCells g o vs) (some g)
  | [], o, w, xs, h, _ => ⟨by simpa [over, World.setCells] using h, ⟨rfl, rfl, rfl, Nat.le_refl _, fun _ _ _ => rfl⟩⟩
  | v :: r, o, w, xs, h, hl => by
    simp only [List.length_cons] at hl
    obtain ⟨h1, h2⟩ := h.stored o v
    obtain ⟨h3, h4⟩ := owns_setCells r (o + 1) _ _ h1 (by simp; omega)
    refine ⟨?_, h2.trans h4⟩
    have : over (xs.set o v) (o + 1) r = over xs o (v :: r) := by
      unfold over
      rw [set_over _ _ _ (by omega)]
      have h1 : (xs.take o).length = o := by simp; omega
      have e1 : (xs.take o ++ v :: xs.drop (o + 1)).take (o + 1) = xs.take o ++ [v] := by
        rw [List.take_append, h1, show o + 1 - o = 1 by omega, List.take_of_length_le (by omega)]
        rfl
      have e2 : (xs.take o ++ v :: xs.drop (o + 1)).drop (o + 1 + r.length) = xs.drop (o + (r.length + 1)) := by
        rw [List.drop_append, h1, List.drop_of_length_le (l := xs.take o) (by omega), show o + 1 + r.length - o = r.length + 1 by omega, List.drop_succ_cons, List.drop_drop]
        simp only [List.nil_append]
        congr 1
        omega
      rw [e1, e2]
      simp
    rw [this] at h3
    exact h3
theorem owns_there {w : World} {base e size g n cap : Nat} {xs : List Value} (h : w.ownsRow base e size (.slice (some ⟨g, 0, none⟩) n cap) n xs) (o k : Nat) (hk : o + k ≤ xs.length) : w.there g o k := fun j hj => by
  refine ⟨?_, h.frozenAt _⟩
  have := h.cells (g := g) rfl (o + j) (xs[o + j]'(by omega)) (by simp)
  rw [Addr.add_mid, Nat.zero_add] at this
  rw [this]; rfl
theorem exec_store30m {o : Oper} {a : Act} (x y : Operand) (ho : o.op = .store 30 x y) (g f : Nat) (c : Array Value) (hx : a.eval x = .pointer (some ⟨g, f, none⟩)) (hy : a.eval y = .agg c) (w : World) (ht : w.there g f 41)
    (hs : c.size = 41) (h1 : c.all (·.oneCell') = true) : (execOp a.eval o).run Tryz.prog w = .ok .skip (w.setCells g f c.toList) := by
  unfold execOp
  simp only [ho, hx, hy, Sem.run_bind, Sem.run_pure, Result.andThen_ok, run_storeAt_mid (P := Tryz.prog) w g f 30 c (by rw [hs]; exact ht) (by rw [size30, hs]) h1]
theorem exec_append30 {o : Oper} {a : Act} (s x : Operand) (ho : o.op = .call { callee := .builtin .append, args := #[s, x], argTypes := #[28, 28] }) (base k : Nat) (v : Value) (xs : List Value) (w : World) (hs : a.eval s = v) (hown : w.ownsRow base 30 41 v k xs)
    (ad : Addr) (c : Array Value) (hx : a.eval x = .slice (some ad) 1 1) (hc : c.size = 41) (hl : ∀ j u, c[j]? = some u → w.cell? (ad.add j) = some u) (h1 : c.all (·.oneCell') = true) (hk : k ≤ 100000) (hb : base ≤ w.heap.size) :
    ∃ g cap w', (execOp a.eval o).run Tryz.prog w = .ok (.value (.slice (some ⟨g, 0, none⟩) (k + 1) cap)) w' ∧ w'.ownsRow base 30 41 (.slice (some ⟨g, 0, none⟩) (k + 1) cap) (k + 1) (xs ++ c.toList) ∧ w.grownBy w' v.ownBlock ∧ (v.ownBlock = some g ∨ g = w.heap.size) := by
  obtain ⟨i0, hi, hz0, hz1, hz2⟩ := info_parts info30
  obtain ⟨v', w', hr, h2, h3, _, h5⟩ := run_append_own_at (P := Tryz.prog) w base 28 o.type 30 i0 (.agg z30) 41 128 Tryz.underlying28 hi hz0 hz1 hz2 z30_size (by decide) v k xs hown ad 1 1 c.toList (by simpa using hc) (fun j u hj => hl j u (by simpa using hj)) (fun u hu => (Array.all_eq_true_iff_forall_mem.1 h1) u (by simpa using hu)) (by unfold maxLen; omega) (by omega) hb
  obtain ⟨g, cap, rfl⟩ := row_form h2
  refine ⟨g, cap, w', ?_, h2, h3, ?_⟩
  · unfold execOp
    simp only [ho, resolve, invoke, builtin, Sem.run_bind, Sem.run_pure, Result.andThen_ok, List.map_toArray, List.map_cons, List.map_nil, hs, hx, hr]
  · rcases h5 with h5 | h5
    · exact .inl h5.symm
    · exact .inr (by simpa [Value.ownBlock] using h5)
section
variable {ops : Array Oper} {Q : Exit → Act → World → Prop} {n l : Nat}
theorem wp_region_R {id : Nat} {a : Act} {w : World} (h : ∀ ops' Q', ops' = ops → Q' = Q → wpAnyIn (Fence.wide.inRound l) n Tryz.prog .any ops' Q' ops.size (Array.replicate ops.size false) a w.drew) : (Code.region id ops true).wpIn (Fence.wide.inRound l) n Tryz.prog Q a w :=
  wpIn_region_any (by kernel_rfl) (h ops Q rfl rfl)
theorem valueR (i d : Nat) (v : Value) (w' : World) {oi : Oper} {fuel : Nat} {listed : Array Bool} {a : Act} {w : World} {rs : List Nat} (hi : ops[i]? = some oi) (hd : oi.dst = some d) (hw : Region.wanted oi (yielded ops a.tmps) = true) (hn : ∀ c, oi.op ≠ .defer c)
    (hx : (execOp a.eval oi).run Tryz.prog w = .ok (.value v) w') (h : wpAnyIn (Fence.wide.inRound l) n Tryz.prog .any ops Q fuel (listed.setIfInBounds i true) (a.put (some d) v) w')
    (hs : AllReadyIn (Fence.wide.inRound l) n Tryz.prog .any ops Q fuel listed a w rs) : AllReadyIn (Fence.wide.inRound l) n Tryz.prog .any ops Q fuel listed a w (i :: rs) := by
  refine AllReadyIn.cons hi (fun K hK => ?_) hs
  rw [if_pos hw]
  refine ⟨fun _ _ => trivial, ?_⟩
  rw [Oper.semAt_plain _ _ _ hn, hx, Oper.uponIn_value, hd]
  exact hK _ _ h
theorem skipR (i : Nat) (w' : World) {oi : Oper} {fuel : Nat} {listed : Array Bool} {a : Act} {w : World} {rs : List Nat} (hi : ops[i]? = some oi) (hd : oi.dst = none) (hw : Region.wanted oi (yielded ops a.tmps) = true) (hn : ∀ c, oi.op ≠ .defer c)
    (hx : (execOp a.eval oi).run Tryz.prog w = .ok .skip w') (h : wpAnyIn (Fence.wide.inRound l) n Tryz.prog .any ops Q fuel (listed.setIfInBounds i true) a w')
    (hs : AllReadyIn (Fence.wide.inRound l) n Tryz.prog .any ops Q fuel listed a w rs) : AllReadyIn (Fence.wide.inRound l) n Tryz.prog .any ops Q fuel listed a w (i :: rs) := by
  refine AllReadyIn.cons hi (fun K hK => ?_) hs
  rw [if_pos hw]
  refine ⟨fun _ _ => trivial, ?_⟩
  rw [Oper.semAt_plain _ _ _ hn, hx, Oper.uponIn_skip, hd]
  exact hK _ _ h
end
theorem wpListIn_execW {F : Fence} {n : Nat} {ops : Array Oper} {rest : List Oper} {o : Oper} {a : Act} {w : World} {Q : Exit → Act → World → Prop} (v : Value) (w' : World) (hg : o.guard = none)
    (he : (execOp a.eval o).run Tryz.prog w = .ok (.value v) w') (hn : ∀ c, o.op ≠ .defer c) (ha : ∀ f, o.about Tryz.prog w a.eval = some f → F.fn f) (h : wpListIn F n Tryz.prog ops Q rest (a.put o.dst v) w') : wpListIn F n Tryz.prog ops Q (o :: rest) a w := by
  refine wpListIn_plain hg fun K hK => ?_
  refine ⟨ha, ?_⟩
  rw [Oper.semAt_plain _ _ _ hn, he, Oper.uponIn_value]
  exact hK _ _ h
theorem wpListIn_skipW {F : Fence} {n : Nat} {ops : Array Oper} {rest : List Oper} {o : Oper} {a : Act} {w : World} {Q : Exit → Act → World → Prop} (w' : World) (hg : o.guard = none)
    (he : (execOp a.eval o).run Tryz.prog w = .ok .skip w') (hn : ∀ c, o.op ≠ .defer c) (ha : ∀ f, o.about Tryz.prog w a.eval = some f → F.fn f) (h : wpListIn F n Tryz.prog ops Q rest (a.put o.dst undef) w') : wpListIn F n Tryz.prog ops Q (o :: rest) a w := by
  refine wpListIn_plain hg fun K hK => ?_
  refine ⟨ha, ?_⟩
  rw [Oper.semAt_plain _ _ _ hn, he, Oper.uponIn_skip]
  exact hK _ _ h
section
variable {ops : Array Oper} {Q : Exit → Act → World → Prop} {n : Nat}
theorem storeI (i : Nat) (w' : World) {oi : Oper} {fuel : Nat} {listed : Array Bool} {a : Act} {w : World} {rs : List Nat} (hi : ops[i]? = some oi) (hd : oi.dst = none) (hw : Region.wanted oi (yielded ops a.tmps) = true)
    (hx : (execOp a.eval oi).run Tryz.prog w = .ok .skip w') (h : wpAnyIn Fence.wide n Tryz.prog .any ops Q fuel (listed.setIfInBounds i true) a w')
    (hs : AllReadyIn Fence.wide n Tryz.prog .any ops Q fuel listed a w rs) : AllReadyIn Fence.wide n Tryz.prog .any ops Q fuel listed a w (i :: rs) := by
  refine AllReadyIn.cons hi (fun K hK => ?_) hs
  rw [if_pos hw]
  refine ⟨fun _ _ => trivial, ?_⟩
  rw [show (Fence.wide).round = none from rfl, Oper.semAt_none, hx, Oper.uponIn_skip, hd]
  exact hK _ _ h
end
def NewC (w w' : World) (b : Nat) : Prop := w.heap.size ≤ b ∧ ∃ o : Obj, w'.heap[b]? = some o ∧ o.isCells = true
def kidsF : List Kid → F
  | [] => .nil
  | x :: r => .cons x.nm x.v x.m x.k.flat (kidsF r)
theorem kidsF_app : ∀ a b : List Kid, kidsF (a ++ b) = (kidsF a).app (kidsF b)
  | [], _ => rfl
  | x :: a, b => by rw [List.cons_append, kidsF, kidsF, F.app, kidsF_app a b]
theorem kidsF_items : ∀ k : K, kidsF k.items = k.flat
  | .nil => rfl
  | .node _ _ _ _ _ _ ah be => by rw [K.items, kidsF_app, kidsF_items ah, kidsF, kidsF_items be, K.flat]
def NI (w : World) (B : Nat) (v : Vd) (m : Md) (fs : F) (k : Nat) (W : World) : Prop := ∃ u xs T, G w W ∧ Var W B z30 ∧ Var W (B + 1) (nc ⟨#[]⟩ v m u) ∧ W.ownsRow (B + 2) 30 41 u k xs ∧ RCells W T fs xs ∧
  ∀ b, T b → B + 2 ≤ b ∧ (∃ o : Obj, W.heap[b]? = some o ∧ o.isCells = true) ∧ some b ≠ u.ownBlock
theorem NI.own {w : World} {B B5 S : Nat} {w0 : World} {v : Vd} {m : Md} (hB : w.heap.size = B) (h5 : B ≤ B5) : OwnFrom B5 (fun (pre : List (KidIn w0 S)) W => NI w B v m (kidsF (kids pre)) pre.length W) := by
  intro s W W' row ⟨u, xs, T, h1, h2, h3, h4, h6, h7⟩ hg hr
  have hc : ∀ (b : Nat) (o : Obj), W.heap[b]? = some o → o.isCells = true → W'.heap[b]? = W.heap[b]? := fun b o hb ho => hg.block b (Array.getElem?_eq_some_iff.1 hb).1 fun e => by
    obtain ⟨_, o', ho', hc'⟩ := hr b e.symm
    rw [hb] at ho'
    cases ho'
    rw [ho] at hc'
    cases hc'
  refine ⟨u, xs, T, ?_, (hc _ _ h2 rfl).trans h2, (hc _ _ h3 rfl).trans h3, ?_, h6.keep fun b hb => ?_, fun b hb => ?_⟩
  · exact Below.trans (B := w.heap.size) h1 ⟨hg.os, hg.tape, hg.output, hg.size, fun b hb => hg.block b (by have := h1.size; omega) fun e => by have := (hr b e.symm).1; omega⟩
  · obtain ⟨hl, h | ⟨g, cap, cur, hv, hb, hh, hr'⟩⟩ := h4
    · exact ⟨hl, .inl h⟩
    · exact ⟨hl, .inr ⟨g, cap, cur, hv, hb, (hc _ _ hh rfl).trans hh, hr'⟩⟩
  · obtain ⟨_, ⟨o, ho, hoc⟩, _⟩ := h7 b hb
    exact ⟨hc b o ho hoc, hb⟩
  · obtain ⟨h8, ⟨o, ho, hoc⟩, h9⟩ := h7 b hb
    exact ⟨h8, ⟨o, (hc b o ho hoc).trans ho, hoc⟩, h9⟩
structure Left (Wa Wz : World) (B g k : Nat) (v : Vd) (m : Md) (u' : Value) (ys : List Value) : Prop where
  os : Wz.os = Wa.os
  tape : Wz.tape = Wa.tape
  output : Wz.output = Wa.output
  size : Wz.heap.size = Wa.heap.size
  block : ∀ b, b ≠ B + 1 → b ≠ g → Wz.heap[b]? = Wa.heap[b]?
  var : Var Wz (B + 1) (nc ⟨#[]⟩ v m u')
  row : Wz.ownsRow (B + 2) 30 41 u' (k + 1) ys
theorem NI.step {w W W3 Wa Wz : World} {B g k cap : Nat} {v : Vd} {m : Md} {fs : F} {u : Value} {xs : List Value} {T : Nat → Prop} {x : Kid} {kv : Value}
    (hB : w.heap.size = B) (h1 : G w W) (h2 : Var W B z30) (h3 : Var W (B + 1) (nc ⟨#[]⟩ v m u)) (h4 : W.ownsRow (B + 2) 30 41 u k xs) (h6 : RCells W T fs xs) (h7 : ∀ b, T b → B + 2 ≤ b ∧ (∃ o : Obj, W.heap[b]? = some o ∧ o.isCells = true) ∧ some b ≠ u.ownBlock)
    (hg3 : G W W3) (hk : HasSP W3 (NewC W W3) kv x.k.flat) (hga : W3.grownBy Wa u.ownBlock) (hat : u.ownBlock = some g ∨ W3.heap.size ≤ g)
    (hL : Left Wa Wz B g k v m (.slice (some ⟨g, 0, none⟩) (k + 1) cap) (xs ++ (nc x.nm x.v x.m kv).toList)) :
    KeepsOthers W Wz ∧ Below B W Wz ∧ NI w B v m (fs.app (.cons x.nm x.v x.m x.k.flat .nil)) (k + 1) Wz := by
  have hs1 := h1.size
  have hs3 := hg3.size
  have hsa := hga.size
  have hlt := World.ownsRow.lt h4
  have hB1 := h3.lt
  have hgB : B + 2 ≤ g := by
    rcases hat with e | e
    · exact (hlt g e).1
    · have := hB1; omega
  have hsame : ∀ b, b < W3.heap.size → b ≠ B + 1 → some b ≠ u.ownBlock → Wz.heap[b]? = W3.heap[b]? := fun b hb hn hu => by
    rw [hL.block b hn (fun e => by
      rcases hat with q | q
      · exact hu (by rw [e, q])
      · omega)]
    exact hga.block b hb hu
  have hold : ∀ b, b < W.heap.size → b ≠ B + 1 → some b ≠ u.ownBlock → Wz.heap[b]? = W.heap[b]? := fun b hb hn hu => (hsame b (by omega) hn hu).trans (Below.block hg3 b hb)
  have hbel : Below B W Wz := ⟨by rw [hL.os, hga.os]; exact hg3.os, by rw [hL.tape, hga.tape]; exact hg3.tape, by rw [hL.output, hga.output]; exact hg3.output, by rw [hL.size]; omega, fun b hb => hold b (by omega) (by omega) fun e => by have := (hlt b e.symm).1; omega⟩
  have hnu : ∀ b, b < B + 2 → some b ≠ u.ownBlock := fun b hb e => by have := (hlt b e.symm).1; omega
  refine ⟨⟨hbel.size, fun b o hb ho => ?_⟩, hbel, _, _, fun b => T b ∨ NewC W W3 b, Below.trans (B := w.heap.size) h1 (by rw [hB]; exact hbel), (hold B h2.lt (by omega) (hnu B (by omega))).trans h2, hL.var, hL.row, ?_, ?_⟩
  · rw [hold b (Array.getElem?_eq_some_iff.1 hb).1 (fun e => ?_) (fun e => ?_)]
    · exact hb
    · subst e
      have h3' : W.heap[B + 1]? = some (.cells (nc ⟨#[]⟩ v m u) 30 (0, 0)) := h3
      rw [h3'] at hb
      cases hb
      cases ho
    · obtain ⟨_, q | ⟨g', cap', cur, hv, _, hh, _⟩⟩ := h4
      · rw [q.1] at e; cases e
      · rw [hv] at e
        obtain rfl : b = g' := by simpa [Value.ownBlock] using e
        rw [hh] at hb
        cases hb
        cases ho
  · refine RCells.snoc (hk.keep fun b hb => ⟨?_, .inr hb⟩) (h6.keep fun b hb => ⟨?_, .inl hb⟩)
    · obtain ⟨h8, o, ho, hoc⟩ := hb
      exact hsame b (Array.getElem?_eq_some_iff.1 ho).1 (by omega) fun e => by have := (hlt b e.symm).2; omega
    · obtain ⟨h8, ⟨o, ho, hoc⟩, h9⟩ := h7 b hb
      exact hold b (Array.getElem?_eq_some_iff.1 ho).1 (by omega) h9
  · rintro b (hb | hb)
    · obtain ⟨h8, ⟨o, ho, hoc⟩, h9⟩ := h7 b hb
      have hbl := (Array.getElem?_eq_some_iff.1 ho).1
      refine ⟨h8, ⟨o, (hold b hbl (by omega) h9).trans ho, hoc⟩, fun e => ?_⟩
      obtain rfl : b = g := by simpa [Value.ownBlock] using e
      rcases hat with q | q
      · exact h9 q.symm
      · omega
    · obtain ⟨h8, o, ho, hoc⟩ := hb
      have hbl := (Array.getElem?_eq_some_iff.1 ho).1
      have hu : some b ≠ u.ownBlock := fun e => by have := (hlt b e.symm).2; omega
      refine ⟨by omega, ⟨o, (hsame b hbl (by omega) hu).trans ho, hoc⟩, fun e => ?_⟩
      obtain rfl : b = g := by simpa [Value.ownBlock] using e
      rcases hat with q | q
      · exact hu q.symm
      · omega
theorem setCells_block (g : Nat) : ∀ (vs : List Value) (o : Nat) (w : World) (b : Nat), b ≠ g → (w.setCells g o vs).heap[b]? = w.heap[b]?
  | [], _, _, _, _ => rfl
  | _ :: r, o, _, b, h => (setCells_block g r (o + 1) _ b h).trans (Below.heap_setCell _ _ _ _ h)
theorem setCells_size (g : Nat) : ∀ (vs : List Value) (o : Nat) (w : World), (w.setCells g o vs).heap.size = w.heap.size
  | [], _, _ => rfl
  | _ :: r, o, w => (setCells_size g r (o + 1) _).trans (by simp)
theorem over_end (xs zs cs : List Value) (o : Nat) (h1 : xs.length = o) (h2 : zs.length = cs.length) : over (xs ++ zs) o cs = xs ++ cs := by
  unfold over
  rw [List.take_append_of_le_length (by omega), List.take_of_length_le (by omega), List.drop_of_length_le (by simp; omega), List.append_nil]
theorem owns_other {w w' : World} {base e size g n cap : Nat} {xs : List Value} (h : w.ownsRow base e size (.slice (some ⟨g, 0, none⟩) n cap) n xs) (hb : w'.heap[g]? = w.heap[g]?) : w'.ownsRow base e size (.slice (some ⟨g, 0, none⟩) n cap) n xs := by
  obtain ⟨hl, q | ⟨g', cap', cur, hv, h1, hh, hr⟩⟩ := h
  · cases q.1
  · injection hv with e1 e2 e3
    injection e1 with e1
    injection e1 with e1
    subst e1 e3
    exact ⟨hl, .inr ⟨g, cap, cur, rfl, h1, hb.trans hh, hr⟩⟩
theorem left_a {Wa : World} {B g k cap : Nat} {v : Vd} {m : Md} {u : Value} {xs : List Value} {cn : Array Value} (ho : Wa.ownsRow (B + 2) 30 41 (.slice (some ⟨g, 0, none⟩) (k + 1) cap) (k + 1) (xs ++ z30.toList)) (hx : xs.length = k * 41) (hv : Var Wa (B + 1) (nc ⟨#[]⟩ v m u)) (hg : B + 2 ≤ g) (hc : cn.size = 41) :
    Left Wa ((Wa.setCells g (k * 41) cn.toList).setCell ⟨B + 1, 40, none⟩ (.slice (some ⟨g, 0, none⟩) (k + 1) cap)) B g k v m (.slice (some ⟨g, 0, none⟩) (k + 1) cap) (xs ++ cn.toList) := by
  obtain ⟨r1, r2⟩ := owns_setCells cn.toList (k * 41) Wa _ ho (by simp [z30_size, hx, hc])
  rw [over_end _ _ _ _ hx (by simp [z30_size, hc])] at r1
  refine ⟨r2.os, r2.tape, r2.output, ?_, fun b h1 h2 => ?_, ?_, owns_other r1 (Below.heap_setCell _ _ _ _ (by show g ≠ B + 1; omega))⟩
  · rw [World.size_setCell, setCells_size]
  · exact (Below.heap_setCell _ _ _ _ h1).trans (setCells_block g _ _ _ _ h2)
  · have h := Var.setCell (w := Wa.setCells g (k * 41) cn.toList) ((setCells_block g _ _ _ _ (by omega)).trans hv) 40 (.slice (some ⟨g, 0, none⟩) (k + 1) cap)
    rw [nc_kset] at h
    exact h
theorem left_b {Wa : World} {B g k cap : Nat} {v : Vd} {m : Md} {u : Value} {xs : List Value} {cn : Array Value} (ho : Wa.ownsRow (B + 2) 30 41 (.slice (some ⟨g, 0, none⟩) (k + 1) cap) (k + 1) (xs ++ z30.toList)) (hx : xs.length = k * 41) (hv : Var Wa (B + 1) (nc ⟨#[]⟩ v m u)) (hg : B + 2 ≤ g) (hc : cn.size = 41) :
    Left Wa ((Wa.setCell ⟨B + 1, 40, none⟩ (.slice (some ⟨g, 0, none⟩) (k + 1) cap)).setCells g (k * 41) cn.toList) B g k v m (.slice (some ⟨g, 0, none⟩) (k + 1) cap) (xs ++ cn.toList) := by
  have ho2 : (Wa.setCell ⟨B + 1, 40, none⟩ (.slice (some ⟨g, 0, none⟩) (k + 1) cap)).ownsRow (B + 2) 30 41 (.slice (some ⟨g, 0, none⟩) (k + 1) cap) (k + 1) (xs ++ z30.toList) := owns_other ho (Below.heap_setCell _ _ _ _ (by show g ≠ B + 1; omega))
  obtain ⟨r1, r2⟩ := owns_setCells cn.toList (k * 41) _ _ ho2 (by simp [z30_size, hx, hc])
  rw [over_end _ _ _ _ hx (by simp [z30_size, hc])] at r1
  refine ⟨r2.os, r2.tape, r2.output, ?_, fun b h1 h2 => ?_, ?_, r1⟩
  · rw [setCells_size, World.size_setCell]
  · exact (setCells_block g _ _ _ _ h2).trans (Below.heap_setCell _ _ _ _ h1)
  · have h := hv.setCell 40 (.slice (some ⟨g, 0, none⟩) (k + 1) cap)
    rw [nc_kset] at h
    exact (setCells_block g _ _ _ _ (by omega)).trans h
theorem NI.start {w Wz W4 : World} {B p N : Nat} {v : Vd} {m : Md} (hB : w.heap.size = B) (hG : G w Wz) (hV0 : Var Wz B z30) (hV1 : Var Wz (B + 1) (nc ⟨#[]⟩ v m (.slice none 0 0))) (how : W4.ownsRow (B + 2) 30 41 (.slice (some ⟨B + 2, 0, none⟩) 0 N) 0 []) (hgr : Wz.grownBy W4 none) :
    NI w B v m .nil 0 ((W4.setCell ⟨B + 1, 40, none⟩ (.slice (some ⟨B + 2, 0, none⟩) 0 N)).alloc (.cells #[.pointer (some ⟨p, 0, none⟩)] 32)) := by
  have hs := hG.size
  have hsg := hgr.size
  have hl1 := hV1.lt
  have hlt := (World.ownsRow.lt how (B + 2) rfl).2
  have e1 : Var W4 (B + 1) (nc ⟨#[]⟩ v m (.slice none 0 0)) := (hgr.block _ hl1 (by simp)).trans hV1
  have e0 : Var W4 B z30 := (hgr.block _ (by omega) (by simp)).trans hV0
  have hG4 : G w W4 := Below.trans (B := w.heap.size) hG ⟨hgr.os, hgr.tape, hgr.output, hgr.size, fun b hb => hgr.block b (by omega) (by simp)⟩
  refine ⟨_, [], fun _ => False, ?_, ?_, ?_, World.ownsRow.alloc (owns_other how (Below.heap_setCell _ _ _ _ (by show B + 2 ≠ B + 1; omega))) _, rfl, fun b hb => hb.elim⟩
  · refine Below.trans (B := w.heap.size) hG4 (Below.trans (b := W4.setCell ⟨B + 1, 40, none⟩ (.slice (some ⟨B + 2, 0, none⟩) 0 N)) ⟨rfl, rfl, rfl, by simp, fun b hb => Below.heap_setCell _ _ _ _ (by show b ≠ B + 1; omega)⟩ ((Below.refl _ _).alloc (by simp; omega) _))
  · exact (Below.heap_alloc _ _ _ (by simp; omega)).trans ((Below.heap_setCell _ _ _ _ (by show B ≠ B + 1; omega)).trans e0)
  · have h := e1.setCell 40 (.slice (some ⟨B + 2, 0, none⟩) 0 N)
    rw [nc_kset] at h
    exact (Below.heap_alloc _ _ _ (by simp; omega)).trans h
theorem owns_form {w : World} {base e size n : Nat} {u : Value} {xs : List Value} (h : w.ownsRow base e size u n xs) : ∃ ao uc, u = .slice ao n uc := by
  obtain ⟨_, q | ⟨g, cap, cur, hv, _⟩⟩ := h
  · obtain ⟨rfl, rfl⟩ := q; exact ⟨_, _, rfl⟩
  · exact ⟨_, _, hv⟩
theorem round_world {W W2 V : World} {D : Nat} {c2 : Array Value} {v : Vd} {m : Md} {f : F} (hD : W2.heap.size = D) (hn : HasNP W2 (NewC W W2) c2 ⟨#[]⟩ v m f) (hg : G W W2) (hv : G W2 V ∧ Var V D c2 ∧ V.heap.size = D + 1) (nm : ByteArray) :
    ∃ kv, G W (V.setCell ⟨D, 0, none⟩ (.string nm)).drew ∧ Var (V.setCell ⟨D, 0, none⟩ (.string nm)).drew D (nc nm v m kv) ∧ HasSP (V.setCell ⟨D, 0, none⟩ (.string nm)).drew (NewC W (V.setCell ⟨D, 0, none⟩ (.string nm)).drew) kv f ∧ (V.setCell ⟨D, 0, none⟩ (.string nm)).drew.heap.size = D + 1 := by
  obtain ⟨kv, rfl, hk⟩ := hn
  have hb : ∀ b, b < D → (V.setCell ⟨D, 0, none⟩ (.string nm)).drew.heap[b]? = W2.heap[b]? := fun b hb => (Below.heap_setCell _ _ _ _ (by show b ≠ D; omega)).trans (Below.block hv.1 b (by omega))
  have hs := hg.size
  refine ⟨kv, ?_, ?_, hk.keep fun b hb' => ?_, ?_⟩
  · exact Below.trans (B := W.heap.size) hg ⟨hv.1.os, hv.1.tape, hv.1.output, by have := hv.1.size; show _ ≤ (V.setCell ⟨D, 0, none⟩ (.string nm)).heap.size; rw [World.size_setCell]; exact this, fun b h => hb b (by omega)⟩
  · have h := hv.2.1.setCell 0 (.string nm)
    rw [nc_nset] at h
    exact h
  · obtain ⟨h8, o, ho, hoc⟩ := hb'
    have hlt := (Array.getElem?_eq_some_iff.1 ho).1
    exact ⟨hb b (by omega), h8, o, (hb b (by omega)).trans ho, hoc⟩
  · show (V.setCell ⟨D, 0, none⟩ (.string nm)).heap.size = D + 1
    rw [World.size_setCell]
    exact hv.2.2
theorem exec_slice1e {o : Oper} {a : Act} (x : Operand) (ho : o.op = .buildSlice 28 1 #[(0, x)]) (c : Array Value) (hx : a.eval x = .agg c) (hs : c.size = 41) (w : World) (b : Nat) (hb : w.heap.size = b) :
    (execOp a.eval o).run Tryz.prog w = .ok (.value (.slice (some ⟨b, 0, none⟩) 1 1)) (w.alloc (.cells c 30)) := by
  subst hb; exact exec_slice1 x ho c hx hs w
end Go.Proofs.YtbjjbgaomoihaaaGreatDoor
namespace Go.Proofs.YtbjjbgaomoihaaaGreatDoor
open Go.RowKit
structure Kw (S : Nat → Prop) (w w' : World) : Prop where
  os : w'.os = w.os
  tape : w'.tape = w.tape
  output : w'.output = w.output
  size : w.heap.size ≤ w'.heap.size
  block : ∀ b, b < w.heap.size → ¬ S b → w'.heap[b]? = w.heap[b]?
theorem Kw.trans {S S' : Nat → Prop} {w w1 w2 : World} (h : Kw S w w1) (k : Kw S' w1 w2) (hs : ∀ b, b < w.heap.size → S' b → S b) : Kw S w w2 :=
  ⟨k.os.trans h.os, k.tape.trans h.tape, k.output.trans h.output, Nat.le_trans h.size k.size, fun b hb hn => (k.block b (Nat.lt_of_lt_of_le hb h.size) fun e => hn (hs b hb e)).trans (h.block b hb hn)⟩
theorem Kw.mono {S S' : Nat → Prop} {w w1 : World} (h : Kw S w w1) (hs : ∀ b, b < w.heap.size → S b → S' b) : Kw S' w w1 := ⟨h.os, h.tape, h.output, h.size, fun b hb hn => h.block b hb fun e => hn (hs b hb e)⟩
theorem Kw.of {S : Nat → Prop} {w w1 : World} (h : G w w1) : Kw S w w1 := ⟨h.os, h.tape, h.output, h.size, fun b hb _ => h.block b hb⟩
theorem Kw.refl (S : Nat → Prop) (w : World) : Kw S w w := Kw.of (G.refl w)
theorem Kw.below {S : Nat → Prop} {B : Nat} {w w1 : World} (h : Kw S w w1) (hB : B ≤ w.heap.size) (hs : ∀ b, S b → B ≤ b) : Below B w w1 := ⟨h.os, h.tape, h.output, h.size, fun b hb => h.block b (by omega) fun e => by have := hs b e; omega⟩
theorem Kw.grown {w w1 : World} {row : Option Nat} (h : w.grownBy w1 row) : Kw (fun b => row = some b) w w1 := ⟨h.os, h.tape, h.output, h.size, fun b hb hn => h.block b hb fun e => hn e.symm⟩
theorem Kw.set (w : World) (b o : Nat) (u : Value) : Kw (fun c => c = b) w (w.setCell ⟨b, o, none⟩ u) := ⟨rfl, rfl, rfl, by simp, fun c _ hn => Below.heap_setCell w ⟨b, o, none⟩ u c hn⟩
theorem Kw.lies {S : Nat → Prop} {w w1 : World} (h : Kw S w w1) {g o : Nat} {c : Array Value} (hl : Lies w g o c) (hg : ¬ S g) : Lies w1 g o c := fun j u hj => by
  have h1 := hl j u hj
  rw [World.cell?_of_block (w := w) (h.block g (World.block_lt_of_cell? w _ h1) hg)]
  exact h1
def Cls (w : World) (b : Nat) : Prop := ∃ o : Obj, w.heap[b]? = some o ∧ o.isCells = true
theorem Cls.lt {w : World} {b : Nat} (h : Cls w b) : b < w.heap.size := by obtain ⟨o, h, _⟩ := h; exact (Array.getElem?_eq_some_iff.1 h).1
theorem Cls.of {w w' : World} {b : Nat} (h : Cls w b) (e : w'.heap[b]? = w.heap[b]?) : Cls w' b := by obtain ⟨o, h1, h2⟩ := h; exact ⟨o, e.trans h1, h2⟩
theorem row_cls {w : World} {lo e size n : Nat} {v : Value} {xs : List Value} (h : w.ownsRow lo e size v n xs) {b : Nat} (hb : v.ownBlock = some b) : Cls w b ∧ lo ≤ b := by
  obtain ⟨_, q | ⟨g, cap, cur, hv, hl, hh, _⟩⟩ := h
  · rw [q.1] at hb; cases hb
  · rw [hv] at hb
    obtain rfl : g = b := by simpa [Value.ownBlock] using hb
    exact ⟨⟨_, hh, rfl⟩, hl⟩
theorem owns_low {w : World} {lo lo' e size n : Nat} {v : Value} {xs : List Value} (h : w.ownsRow lo e size v n xs) (hl : lo' ≤ lo) : w.ownsRow lo' e size v n xs :=
  ⟨h.1, h.2.imp id fun ⟨g, cap, cur, h1, h2, h3⟩ => ⟨g, cap, cur, h1, Nat.le_trans hl h2, h3⟩⟩
theorem row_same {w : World} {lo e size n lo' e' size' n' : Nat} {v v' : Value} {xs xs' : List Value} (h : w.ownsRow lo e size v n xs) (k : w.ownsRow lo' e' size' v' n' xs') (he : e ≠ e') {b : Nat} (hb : v.ownBlock = some b) : v'.ownBlock ≠ some b := fun hb' => by
  obtain ⟨_, q | ⟨g, cap, cur, hv, hl, hh, _⟩⟩ := h
  · rw [q.1] at hb; cases hb
  · obtain ⟨_, q | ⟨g', cap', cur', hv', hl', hh', _⟩⟩ := k
    · rw [q.1] at hb'; cases hb'
    · rw [hv] at hb
      rw [hv'] at hb'
      obtain rfl : g = b := by simpa [Value.ownBlock] using hb
      obtain rfl : g' = g := by simpa [Value.ownBlock] using hb'
      rw [hh] at hh'
      injection hh' with hh'
      injection hh' with _ e1
      exact he e1
theorem owns_same {w w' : World} {lo e size n : Nat} {u : Value} {xs : List Value} (h : w.ownsRow lo e size u n xs) (hb : ∀ g, u.ownBlock = some g → w'.heap[g]? = w.heap[g]?) : w'.ownsRow lo e size u n xs := by
  obtain ⟨h0, h1⟩ := h
  exact ⟨h0, h1.imp id fun ⟨g, cp, cur, e1, e2, e3, e4⟩ => ⟨g, cp, cur, e1, e2, (hb g (by rw [e1]; rfl)).trans e3, e4⟩⟩
structure Mt (lo Mb K nb : Nat) (pre : List ByteArray) (M : Nat → Prop) (W : World) (pv : Value) (B : Nat → Prop) : Prop where
  met : W.heap[Mb]? = some (.cells #[pv, .pointer (some ⟨K, 0, none⟩), .bool true] 58 (0, 0))
  own : OwnsT W lo pv pre
  book : Bk.BookOk W lo K nb B
  low : lo ≤ Mb
  nb : ¬ B Mb
  np : pv.ownBlock ≠ some Mb
  pb : ∀ b, pv.ownBlock = some b → ¬ B b
  mm : ∀ b, M b ↔ (b = Mb ∨ pv.ownBlock = some b ∨ B b)
  tb : Bk.Tb lo W
section
variable {lo Mb K nb : Nat} {pre : List ByteArray} {M : Nat → Prop} {W W' : World} {pv : Value} {B : Nat → Prop}
theorem Mt.cls (h : Mt lo Mb K nb pre M W pv B) {b : Nat} (hb : M b) : Cls W b ∧ lo ≤ b := by
  rcases (h.mm b).1 hb with rfl | e | e
  · exact ⟨⟨_, h.met, rfl⟩, h.low⟩
  · exact row_cls h.own e
  · obtain ⟨cs, ty, fr, h1⟩ := h.book.pln e
    exact ⟨⟨_, h1, rfl⟩, h.book.ge b e⟩
theorem Mt.lt (h : Mt lo Mb K nb pre M W pv B) {b : Nat} (hb : M b) : b < W.heap.size := (h.cls hb).1.lt
theorem Mt.keep {S : Nat → Prop} (h : Mt lo Mb K nb pre M W pv B) (hk : Kw S W W') (hS : ∀ b, S b → ¬ M b) (hl : ∀ b, S b → lo ≤ b) : Mt lo Mb K nb pre M W' pv B := by
  have hb : ∀ b, M b → W'.heap[b]? = W.heap[b]? := fun b hb => hk.block b (h.lt hb) fun e => hS b e hb
  have hMb := h.lt ((h.mm Mb).2 (.inl rfl))
  refine ⟨(hb Mb ((h.mm Mb).2 (.inl rfl))).trans h.met, ?_, ?_, h.low, h.nb, h.np, h.pb, h.mm, h.tb.on (hk.below (by have := h.low; omega) hl)⟩
  · exact owns_same h.own fun g hg => hb g ((h.mm g).2 (.inr (.inl hg)))
  · exact h.book.keep hk.size (fun b e => hb b ((h.mm b).2 (.inr (.inr e)))) hk.os hk.tape hk.output
theorem Mt.well (h : Mt lo Mb K nb pre M W pv B) : Mt lo Mb K nb pre M (W.setCell ⟨Mb, 2, none⟩ (.bool true)) pv B ∧ Kw M W (W.setCell ⟨Mb, 2, none⟩ (.bool true)) := by
  have hk := (Kw.set W Mb 2 (.bool true)).mono (S' := M) fun b _ e => (h.mm b).2 (.inl e)
  have e : (W.setCell ⟨Mb, 2, none⟩ (.bool true)).heap[Mb]? = some (.cells #[pv, .pointer (some ⟨K, 0, none⟩), .bool true] 58 (0, 0)) := by
    have h1 := h.met
    unfold World.setCell
    simp only []
    rw [Array.getElem?_modify]
    simp [h1]
  have hb : ∀ b, (W.setCell ⟨Mb, 2, none⟩ (.bool true)).heap[b]? = W.heap[b]? := fun b => by
    by_cases q : b = Mb
    · rw [q, e, h.met]
    · exact Below.heap_setCell _ _ _ _ q
  have := h.low
  have hMb := h.lt ((h.mm Mb).2 (.inl rfl))
  exact ⟨⟨e, owns_same h.own fun g _ => hb g, h.book.keep hk.size (fun b _ => hb b) rfl rfl rfl, h.low, h.nb, h.np, h.pb, h.mm, h.tb.on ⟨rfl, rfl, rfl, hk.size, fun b _ => hb b⟩⟩, hk⟩
theorem Mt.path {w1 : World} {pv' : Value} {q : ByteArray} {o : Obj} (h : Mt lo Mb K nb pre M W pv B) (hlo : lo ≤ W.heap.size) (ho : OwnsT w1 lo pv' (pre ++ [q])) (hg : (W.alloc o).grownBy w1 pv.ownBlock) (hat : pv'.ownBlock = pv.ownBlock ∨ pv'.ownBlock = some (W.alloc o).heap.size) :
    Mt lo Mb K nb (pre ++ [q]) (fun b => b = Mb ∨ pv'.ownBlock = some b ∨ B b) (w1.setCell ⟨Mb, 0, none⟩ pv') pv' B ∧ Kw M W (w1.setCell ⟨Mb, 0, none⟩ pv') ∧ (∀ b, (b = Mb ∨ pv'.ownBlock = some b ∨ B b) → M b ∨ W.heap.size ≤ b) := by
  have hMb := h.lt ((h.mm Mb).2 (.inl rfl))
  have hs := hg.size
  rw [World.size_alloc] at hs
  have hk : Kw M W (w1.setCell ⟨Mb, 0, none⟩ pv') := by
    have k1 : Kw M W w1 := (Kw.of (S := M) (G.alloc W o)).trans ((Kw.grown hg).mono (S' := M) fun b _ e => (h.mm b).2 (.inr (.inl e))) fun _ _ e => e
    exact k1.trans ((Kw.set w1 Mb 0 pv').mono (S' := M) fun b _ e => (h.mm b).2 (.inl e)) fun _ _ e => e
  have hpv : ∀ b, pv'.ownBlock = some b → pv.ownBlock = some b ∨ b = W.heap.size + 1 := fun b hb => by
    rcases hat with e | e
    · exact .inl (e ▸ hb)
    · rw [e, World.size_alloc] at hb
      injection hb with hb
      exact .inr hb.symm
  have hold : ∀ b, b < W.heap.size → b ≠ Mb → pv.ownBlock ≠ some b → (w1.setCell ⟨Mb, 0, none⟩ pv').heap[b]? = W.heap[b]? := fun b hb h1 h2 =>
    (Below.heap_setCell _ _ _ _ h1).trans ((hg.block b (by rw [World.size_alloc]; omega) (fun e => h2 e.symm)).trans (Below.heap_alloc W o b hb))
  have hlow := h.low
  refine ⟨⟨?_, owns_same ho fun g hg' => Below.heap_setCell _ _ _ _ fun e => ?_, h.book.keep hk.size (fun b e => hold b (h.lt ((h.mm b).2 (.inr (.inr e)))) (fun q => h.nb (q ▸ e)) (fun q => h.pb b q e)) hk.os hk.tape hk.output, h.low, h.nb, fun e => ?_, fun b hb hB => ?_, fun b => Iff.rfl, h.tb.on (hk.below (by omega) fun b hb => (h.cls hb).2)⟩, hk, ?_⟩
  · have h1 : w1.heap[Mb]? = some (.cells #[pv, .pointer (some ⟨K, 0, none⟩), .bool true] 58 (0, 0)) := (hg.block Mb (by rw [World.size_alloc]; omega) (fun e => h.np e.symm)).trans ((Below.heap_alloc W o Mb hMb).trans h.met)
    unfold World.setCell
    simp only []
    rw [Array.getElem?_modify]
    simp [h1]
  · rcases hpv g hg' with q | q
    · rw [show g = Mb from e] at q; exact h.np q
    · have : g = Mb := e
      omega
  · rcases hpv Mb e with q | q
    · exact h.np q
    · omega
  · rcases hpv b hb with q | q
    · exact h.pb b q hB
    · have := h.lt ((h.mm b).2 (.inr (.inr hB))); omega
  · rintro b (e | e | e)
    · exact .inl ((h.mm b).2 (.inl e))
    · rcases hpv b e with q | q
      · exact .inl ((h.mm b).2 (.inr (.inl q)))
      · exact .inr (by omega)
    · exact .inl ((h.mm b).2 (.inr (.inr e)))
theorem Mt.up (h : Mt lo Mb K nb pre M W pv B) (hg : G W W') : Mt lo Mb K nb pre M W' pv B := h.keep (S := fun _ => False) (Kw.of hg) (fun _ e => e.elim) (fun _ e => e.elim)
theorem Mt.others (h : Mt lo Mb K nb pre M W pv B) (hk : Kw M W W') : KeepsOthers W W' := ⟨hk.size, fun b o hb ho => (hk.block b (Array.getElem?_eq_some_iff.1 hb).1 fun e => by
  obtain ⟨⟨o', h1, h2⟩, _⟩ := h.cls e
  rw [hb] at h1
  injection h1 with h1
  subst h1
  rw [ho] at h2
  cases h2).trans hb⟩
end
end Go.Proofs.YtbjjbgaomoihaaaGreatDoor
