/-
  What Tree.Node's regions want: laws of its operations, and of drawn regions in a round.
-/
import Derived.Test.YtglnpmdigghibaaCopy
import Derived.Test.YtglnpmdigghibaaStops
namespace Go.Proofs.Ytglnpmdigghibaa
open Go.RowKit Go.Shelf

set_option maxRecDepth 100000 in
/-- a thing of its value and its marks -/
theorem build30 (v : Vd) (m : Md) (w : World) : (Instr.build 30 #[(1, .agg (vx v).toArray), (2, .agg (mx m).toArray)]).run Try.prog w = .ok (.agg (nc ⟨#[]⟩ v m (.slice none 0 0))) w := by
  refine run_build w 30 _ _ ?_
  have hz : ∃ z : List Value, (Try.prog.info? 30).bind (·.zero) = some (.agg (List.toArray (.string ⟨#[]⟩ :: (z ++ [.slice none 0 0])))) ∧ z.length = 39 := ⟨vx Vd.zero ++ mx Md.zero, by kernel_rfl, by kernel_rfl⟩
  obtain ⟨z, hz, hl⟩ := hz
  have hp : (Try.prog.fieldsOf 30).toList.mapM (fun f => (Try.prog.info? f.type).map fun i => (f.offset, i.size)) = some [(0, 1), (1, 35), (36, 4), (40, 1)] := by kernel_rfl
  have hu2 : Try.prog.underlying 30 = some (.struct (Try.prog.fieldsOf 30)) := by kernel_rfl
  unfold Program.built
  cases hi : Try.prog.info? 30 with
  | none => rw [hi] at hz; cases hz
  | some it =>
    rw [hi] at hz
    simp only [Option.bind_some] at hz
    simp only [hu2, hz, hp]
    show Instr.fill _ (List.toArray _) _ = _
    have hx := vx_len v
    have hm := mx_len m
    rw [fill_cons _ _ 1 1 35 _ (vx v) _ rfl rfl hx (by simp; omega), fill_cons _ _ 2 36 4 _ (mx m) _ rfl rfl hm (by simp [over, hx]; omega), Instr.fill]
    simp only [over, nc, hx, hm]
    refine congrArg some (congrArg List.toArray ?_)
    simp only [List.take_succ_cons, List.take_zero, List.cons_append, List.nil_append, List.drop_succ_cons, Nat.reduceAdd]
    have t1 : ∀ r : List Value, (vx v ++ r).take 35 = vx v := fun r => by
      rw [List.take_append_of_le_length (by omega), List.take_of_length_le (by omega)]
    have t2 : ((vx v ++ (z ++ [Value.slice none 0 0]).drop 35).drop 39) = [Value.slice none 0 0] := by
      rw [List.drop_append, hx, List.drop_of_length_le (by omega), List.drop_drop, List.nil_append, List.drop_append, hl, List.drop_of_length_le (by omega)]
      rfl
    rw [t1, t2]
    simp
theorem exec_build30 {o : Oper} {a : Act} (parts : Array (Nat × Operand)) (ho : o.op = .build 30 parts) (v : Vd) (m : Md)
    (hp : (parts.map fun (p : Nat × Operand) => (p.1, a.eval p.2)) = #[(1, .agg (vx v).toArray), (2, .agg (mx m).toArray)]) (w : World) : (execOp a.eval o).run Try.prog w = .ok (.value (.agg (nc ⟨#[]⟩ v m (.slice none 0 0)))) w := by
  unfold execOp
  simp only [ho]
  have : (parts.map fun (x : Nat × Operand) => match x with | (i, x) => (i, a.eval x)) = #[(1, .agg (vx v).toArray), (2, .agg (mx m).toArray)] := hp
  rw [this]
  simp only [Sem.run_bind, build30 v m w, Result.andThen_ok, Sem.run_pure]

/-- a store of many cells into a row of one's own -/
theorem owns_setCells {base e size g n cap : Nat} : ∀ (vs : List Value) (o : Nat) (w : World) (xs : List Value), w.ownsRow base e size (.slice (some ⟨g, 0, none⟩) n cap) n xs → o + vs.length ≤ xs.length →
    (w.setCells g o vs).ownsRow base e size (.slice (some ⟨g, 0, none⟩) n cap) n (over xs o vs) ∧ w.grownBy (w.setCells g o vs) (some g)
  | [], o, w, xs, h, _ => ⟨by simpa [over, World.setCells] using h, ⟨rfl, rfl, rfl, Nat.le_refl _, fun _ _ _ => rfl⟩⟩
  | v :: r, o, w, xs, h, hl => by
    simp only [List.length_cons] at hl
    obtain ⟨h1, h2⟩ := h.stored o v
    obtain ⟨h3, h4⟩ := owns_setCells r (o + 1) _ _ h1 (by simp; omega)
    refine ⟨?_, h2.trans h4⟩
    have : over (xs.set o v) (o + 1) r = over xs o (v :: r) := by
      unfold over
      rw [set_over _ _ _ (by omega)]
      have h1 : (xs.take o).length = o := by simp; omega
      have e1 : (xs.take o ++ v :: xs.drop (o + 1)).take (o + 1) = xs.take o ++ [v] := by
        rw [List.take_append, h1, show o + 1 - o = 1 by omega, List.take_of_length_le (by omega)]
        rfl
      have e2 : (xs.take o ++ v :: xs.drop (o + 1)).drop (o + 1 + r.length) = xs.drop (o + (r.length + 1)) := by
        rw [List.drop_append, h1, List.drop_of_length_le (l := xs.take o) (by omega), show o + 1 + r.length - o = r.length + 1 by omega, List.drop_succ_cons, List.drop_drop]
        simp only [List.nil_append]
        congr 1
        omega
      rw [e1, e2]
      simp
    rw [this] at h3
    exact h3
theorem owns_there {w : World} {base e size g n cap : Nat} {xs : List Value} (h : w.ownsRow base e size (.slice (some ⟨g, 0, none⟩) n cap) n xs) (o k : Nat) (hk : o + k ≤ xs.length) : w.there g o k := fun j hj => by
  refine ⟨?_, h.frozenAt _⟩
  have := h.cells (g := g) rfl (o + j) (xs[o + j]'(by omega)) (by simp)
  rw [Addr.add_mid, Nat.zero_add] at this
  rw [this]; rfl
theorem exec_store30m {o : Oper} {a : Act} (x y : Operand) (ho : o.op = .store 30 x y) (g f : Nat) (c : Array Value) (hx : a.eval x = .pointer (some ⟨g, f, none⟩)) (hy : a.eval y = .agg c) (w : World) (ht : w.there g f 41)
    (hs : c.size = 41) (h1 : c.all (·.oneCell') = true) : (execOp a.eval o).run Try.prog w = .ok .skip (w.setCells g f c.toList) := by
  unfold execOp
  simp only [ho, hx, hy, Sem.run_bind, Sem.run_pure, Result.andThen_ok, run_storeAt_mid (P := Try.prog) w g f 30 c (by rw [hs]; exact ht) (by rw [size30, hs]) h1]

/-- append of one thing, as an operation -/
theorem exec_append30 {o : Oper} {a : Act} (s x : Operand) (ho : o.op = .call { callee := .builtin .append, args := #[s, x], argTypes := #[28, 28] }) (base k : Nat) (v : Value) (xs : List Value) (w : World) (hs : a.eval s = v) (hown : w.ownsRow base 30 41 v k xs)
    (ad : Addr) (c : Array Value) (hx : a.eval x = .slice (some ad) 1 1) (hc : c.size = 41) (hl : ∀ j u, c[j]? = some u → w.cell? (ad.add j) = some u) (h1 : c.all (·.oneCell') = true) (hk : k ≤ 100000) (hb : base ≤ w.heap.size) :
    ∃ g cap w', (execOp a.eval o).run Try.prog w = .ok (.value (.slice (some ⟨g, 0, none⟩) (k + 1) cap)) w' ∧ w'.ownsRow base 30 41 (.slice (some ⟨g, 0, none⟩) (k + 1) cap) (k + 1) (xs ++ c.toList) ∧ w.grownBy w' v.ownBlock ∧ (v.ownBlock = some g ∨ g = w.heap.size) := by
  obtain ⟨i0, hi, hz0, hz1, hz2⟩ := info_parts info30
  obtain ⟨v', w', hr, h2, h3, _, h5⟩ := run_append_own_at (P := Try.prog) w base 28 o.type 30 i0 (.agg z30) 41 128 Try.underlying28 hi hz0 hz1 hz2 z30_size (by decide) v k xs hown ad 1 1 c.toList (by simpa using hc) (fun j u hj => hl j u (by simpa using hj)) (fun u hu => (Array.all_eq_true_iff_forall_mem.1 h1) u (by simpa using hu)) (by unfold maxLen; omega) (by omega) hb
  obtain ⟨g, cap, rfl⟩ := row_form h2
  refine ⟨g, cap, w', ?_, h2, h3, ?_⟩
  · unfold execOp
    simp only [ho, resolve, invoke, builtin, Sem.run_bind, Sem.run_pure, Result.andThen_ok, List.map_toArray, List.map_cons, List.map_nil, hs, hx, hr]
  · rcases h5 with h5 | h5
    · exact .inl h5.symm
    · exact .inr (by simpa [Value.ownBlock] using h5)

section
variable {ops : Array Oper} {Q : Exit → Act → World → Prop} {n l : Nat}
/-- a region in a round, its operations and its aim by letters -/
theorem wp_region_R {id : Nat} {a : Act} {w : World} (h : ∀ ops' Q', ops' = ops → Q' = Q → wpAnyIn (Fence.wide.inRound l) n Try.prog .any ops' Q' ops.size (Array.replicate ops.size false) a w.drew) : (Code.region id ops true).wpIn (Fence.wide.inRound l) n Try.prog Q a w :=
  wpIn_region_any (by kernel_rfl) (h ops Q rfl rfl)
theorem valueR (i d : Nat) (v : Value) (w' : World) {oi : Oper} {fuel : Nat} {listed : Array Bool} {a : Act} {w : World} {rs : List Nat} (hi : ops[i]? = some oi) (hd : oi.dst = some d) (hw : Region.wanted oi (yielded ops a.tmps) = true) (hn : ∀ c, oi.op ≠ .defer c)
    (hx : (execOp a.eval oi).run Try.prog w = .ok (.value v) w') (h : wpAnyIn (Fence.wide.inRound l) n Try.prog .any ops Q fuel (listed.setIfInBounds i true) (a.put (some d) v) w')
    (hs : AllReadyIn (Fence.wide.inRound l) n Try.prog .any ops Q fuel listed a w rs) : AllReadyIn (Fence.wide.inRound l) n Try.prog .any ops Q fuel listed a w (i :: rs) := by
  refine AllReadyIn.cons hi (fun K hK => ?_) hs
  rw [if_pos hw]
  refine ⟨fun _ _ => trivial, ?_⟩
  rw [Oper.semAt_plain _ _ _ hn, hx, Oper.uponIn_value, hd]
  exact hK _ _ h
theorem skipR (i : Nat) (w' : World) {oi : Oper} {fuel : Nat} {listed : Array Bool} {a : Act} {w : World} {rs : List Nat} (hi : ops[i]? = some oi) (hd : oi.dst = none) (hw : Region.wanted oi (yielded ops a.tmps) = true) (hn : ∀ c, oi.op ≠ .defer c)
    (hx : (execOp a.eval oi).run Try.prog w = .ok .skip w') (h : wpAnyIn (Fence.wide.inRound l) n Try.prog .any ops Q fuel (listed.setIfInBounds i true) a w')
    (hs : AllReadyIn (Fence.wide.inRound l) n Try.prog .any ops Q fuel listed a w rs) : AllReadyIn (Fence.wide.inRound l) n Try.prog .any ops Q fuel listed a w (i :: rs) := by
  refine AllReadyIn.cons hi (fun K hK => ?_) hs
  rw [if_pos hw]
  refine ⟨fun _ _ => trivial, ?_⟩
  rw [Oper.semAt_plain _ _ _ hn, hx, Oper.uponIn_skip, hd]
  exact hK _ _ h
end

theorem wpListIn_execW {F : Fence} {n : Nat} {ops : Array Oper} {rest : List Oper} {o : Oper} {a : Act} {w : World} {Q : Exit → Act → World → Prop} (v : Value) (w' : World) (hg : o.guard = none)
    (he : (execOp a.eval o).run Try.prog w = .ok (.value v) w') (hn : ∀ c, o.op ≠ .defer c) (ha : ∀ f, o.about Try.prog w a.eval = some f → F.fn f) (h : wpListIn F n Try.prog ops Q rest (a.put o.dst v) w') : wpListIn F n Try.prog ops Q (o :: rest) a w := by
  refine wpListIn_plain hg fun K hK => ?_
  refine ⟨ha, ?_⟩
  rw [Oper.semAt_plain _ _ _ hn, he, Oper.uponIn_value]
  exact hK _ _ h
theorem wpListIn_skipW {F : Fence} {n : Nat} {ops : Array Oper} {rest : List Oper} {o : Oper} {a : Act} {w : World} {Q : Exit → Act → World → Prop} (w' : World) (hg : o.guard = none)
    (he : (execOp a.eval o).run Try.prog w = .ok .skip w') (hn : ∀ c, o.op ≠ .defer c) (ha : ∀ f, o.about Try.prog w a.eval = some f → F.fn f) (h : wpListIn F n Try.prog ops Q rest (a.put o.dst undef) w') : wpListIn F n Try.prog ops Q (o :: rest) a w := by
  refine wpListIn_plain hg fun K hK => ?_
  refine ⟨ha, ?_⟩
  rw [Oper.semAt_plain _ _ _ hn, he, Oper.uponIn_skip]
  exact hK _ _ h
section
variable {ops : Array Oper} {Q : Exit → Act → World → Prop} {n : Nat}
theorem storeI (i : Nat) (w' : World) {oi : Oper} {fuel : Nat} {listed : Array Bool} {a : Act} {w : World} {rs : List Nat} (hi : ops[i]? = some oi) (hd : oi.dst = none) (hw : Region.wanted oi (yielded ops a.tmps) = true)
    (hx : (execOp a.eval oi).run Try.prog w = .ok .skip w') (h : wpAnyIn Fence.wide n Try.prog .any ops Q fuel (listed.setIfInBounds i true) a w')
    (hs : AllReadyIn Fence.wide n Try.prog .any ops Q fuel listed a w rs) : AllReadyIn Fence.wide n Try.prog .any ops Q fuel listed a w (i :: rs) := by
  refine AllReadyIn.cons hi (fun K hK => ?_) hs
  rw [if_pos hw]
  refine ⟨fun _ _ => trivial, ?_⟩
  rw [show (Fence.wide).round = none from rfl, Oper.semAt_none, hx, Oper.uponIn_skip, hd]
  exact hK _ _ h
end
end Go.Proofs.Ytglnpmdigghibaa
