/-
  twineref4.Copy by contract, once more: the row is one's own. And raw data with other values and marks.
-/
import Derived.Test.YtjkbhfkeagfhbaaEach
import Derived.Test.YtjkbhfkeagfhbaaInW
import Derived.Test.YtjkbhfkeagfhbaaBuild
namespace Go.Proofs.Ytjkbhfkeagfhbaa
open Go.RowKit Go.Shelf
attribute [local go_sem] Oper.semAt_some

theorem K.items_len : ∀ k : K, k.items.length = k.flat.len
  | .nil => rfl
  | .node _ _ _ _ _ _ ah be => by rw [K.items, K.flat, F.app_len, F.len, List.length_append, List.length_cons, K.items_len ah, K.items_len be]

set_option maxRecDepth 100000 in
set_option maxHeartbeats 1000000 in
theorem childrenF_any (p : Nat) (w : World) :
    Calls Try.prog 66 #[.pointer (some ⟨p, 0, none⟩)] w fun e w' => e = .returned (.func (.func 92) #[] #[.pointer (some ⟨w.heap.size, 0, none⟩)]) ∧ w' = w.alloc (.cells #[.pointer (some ⟨p, 0, none⟩)] 55) := by
  have hmf : ∀ (fn : Fn) (first cap : Array Value) (w : World), (Instr.makeFunc fn first cap).run Try.prog w = .ok (.func fn first cap) w := fun _ _ _ _ => rfl
  go_enter Try.func66, Try.ntmps66
  go_wp2
  go_ret
  exact ⟨rfl, rfl⟩

set_option maxRecDepth 100000 in
set_option maxHeartbeats 1000000 in
theorem children1_in (n : Nat) (w0 : World) (S l Bt p : Nat) (v : Vd) (m : Md) (k : K) (J Jx : List (KidIn w0 S) → World → Prop) (hJD : ∀ pre W, J pre W → J pre W.drew)
    (hY : ∀ pre (x : KidIn w0 S) W, J pre W → pre.length < k.items.length → YieldAt Fence.wide (n - 1) Try.prog l #[.string x.1.nm, .pointer (some ⟨x.1.p, 0, none⟩)] W fun e W' =>
      (e = .returned (.bool true) ∧ J (pre ++ [x]) W' ∧ Below w0.heap.size W W') ∨ (e = .returned (.bool false) ∧ Jx (pre ++ [x]) W'))
    (W : World) (hBt : W.cell? ⟨Bt, 0, none⟩ = some (.pointer (some ⟨p, 0, none⟩))) (hT : AtT w0 p v m k) (hS : k.flat.size ≤ S) (hG : G w0 W) (h0 : J [] W) :
    CallsIn Fence.wide n Try.prog 92 #[.func (.yield l) #[] #[], .pointer (some ⟨Bt, 0, none⟩)] W fun e W' => (∃ v, e = .returned v) ∧
      ((∃ ys : List (KidIn w0 S), kids ys = k.items ∧ J ys W') ∨ (∃ pre : List (KidIn w0 S), kids pre <+: k.items ∧ Jx pre W')) := by
  obtain ⟨pk, h1, h2⟩ := hT
  have c39 := hG.cell (lies_cell h1 39 _ (tc_kids ..))
  have hp := each_in w0 S l k.items.length J Jx hJD (fun m pre x W hj hl => yieldAny rfl m (hY pre x W hj hl)) k (n - 1) pk [] W h2 hS hG h0 (by simp)
  obtain ⟨a, rfl⟩ := h2.form
  clear h1 h2 hY
  refine callsIn_of_wp Try.func92 rfl trivial ?_ rfl
  simp only [Try.ntmps92, List.size_toArray, List.length_cons, List.length_nil, Nat.reduceAdd, Nat.reduceSub, Array.replicate_succ, Array.replicate_zero, List.push_toArray, List.append_toArray, List.nil_append, List.cons_append]
  gi_wp2_with (refine ⟨trivial, fun h => (by cases h), ?_⟩; gi_at_call 93; refine hp.mono ?_; clear hp; rintro e W1 (⟨rfl, ys, hys, hJ1, _⟩ | ⟨rfl, q, hq, hx⟩))
  · go_end0
    exact ⟨⟨_, rfl⟩, .inl ⟨ys, hys, by simpa using hJ1⟩⟩
  · go_end0
    exact ⟨⟨_, rfl⟩, .inr ⟨q, hq, by simpa using hx⟩⟩

theorem children_stops (n : Nat) (w0 : World) (S Bt p : Nat) (v : Vd) (m : Md) (k : K) (w : World) (hBt : Bt < w.heap.size) (hc : w.cell? ⟨Bt, 0, none⟩ = some (.pointer (some ⟨p, 0, none⟩))) (hT : AtT w0 p v m k) (hS : k.flat.size ≤ S) (hG : G w0 w) :
    SeqStopsK Fence.wide n Try.prog 92 #[.pointer (some ⟨Bt, 0, none⟩)] (fun x : KidIn w0 S => #[Value.string x.1.nm, .pointer (some ⟨x.1.p, 0, none⟩)]) (Below w0.heap.size) (fun ys => kids ys = k.items) (fun pre => kids pre <+: k.items) k.items.length w := fun l J Jx W hW hJ _ hY h0 =>
  children1_in n w0 S l Bt p v m k J Jx (fun pre A h => hJ _ _ _ none h ⟨rfl, rfl, rfl, Nat.le_refl _, fun _ _ _ => rfl⟩ (fun r e => by cases e)) hY W ((hW.cell (p := ⟨Bt, 0, none⟩) hBt).trans hc) hT hS (hG.trans hW) h0
end Go.Proofs.Ytjkbhfkeagfhbaa
namespace Go.Proofs.Ytjkbhfkeagfhbaa
open Go.RowKit Go.Shelf

set_option maxRecDepth 100000 in
/-- a thing of its value and its marks -/
theorem build30 (v : Vd) (m : Md) (w : World) : (Instr.build 30 #[(1, .agg (vx v).toArray), (2, .agg (mx m).toArray)]).run Try.prog w = .ok (.agg (nc ⟨#[]⟩ v m (.slice none 0 0))) w := by
  refine run_build w 30 _ _ ?_
  have hz : ∃ z : List Value, (Try.prog.info? 30).bind (·.zero) = some (.agg (List.toArray (.string ⟨#[]⟩ :: (z ++ [.slice none 0 0])))) ∧ z.length = 39 := ⟨vx Vd.zero ++ mx Md.zero, by kernel_rfl, by kernel_rfl⟩
  obtain ⟨z, hz, hl⟩ := hz
  have hp : (Try.prog.fieldsOf 30).toList.mapM (fun f => (Try.prog.info? f.type).map fun i => (f.offset, i.size)) = some [(0, 1), (1, 35), (36, 4), (40, 1)] := by kernel_rfl
  have hu2 : Try.prog.underlying 30 = some (.struct (Try.prog.fieldsOf 30)) := by kernel_rfl
  unfold Program.built
  cases hi : Try.prog.info? 30 with
  | none => rw [hi] at hz; cases hz
  | some it =>
    rw [hi] at hz
    simp only [Option.bind_some] at hz
    simp only [hu2, hz, hp]
    show Instr.fill _ (List.toArray _) _ = _
    have hx := vx_len v
    have hm := mx_len m
    rw [fill_cons _ _ 1 1 35 _ (vx v) _ rfl rfl hx (by simp; omega), fill_cons _ _ 2 36 4 _ (mx m) _ rfl rfl hm (by simp [over, hx]; omega), Instr.fill]
    simp only [over, nc, hx, hm]
    refine congrArg some (congrArg List.toArray ?_)
    simp only [List.take_succ_cons, List.take_zero, List.cons_append, List.nil_append, List.drop_succ_cons, Nat.reduceAdd]
    have t1 : ∀ r : List Value, (vx v ++ r).take 35 = vx v := fun r => by
      rw [List.take_append_of_le_length (by omega), List.take_of_length_le (by omega)]
    have t2 : ((vx v ++ (z ++ [Value.slice none 0 0]).drop 35).drop 39) = [Value.slice none 0 0] := by
      rw [List.drop_append, hx, List.drop_of_length_le (by omega), List.drop_drop, List.nil_append, List.drop_append, hl, List.drop_of_length_le (by omega)]
      rfl
    rw [t1, t2]
    simp
theorem exec_build30 {o : Oper} {a : Act} (parts : Array (Nat × Operand)) (ho : o.op = .build 30 parts) (v : Vd) (m : Md)
    (hp : (parts.map fun (p : Nat × Operand) => (p.1, a.eval p.2)) = #[(1, .agg (vx v).toArray), (2, .agg (mx m).toArray)]) (w : World) : (execOp a.eval o).run Try.prog w = .ok (.value (.agg (nc ⟨#[]⟩ v m (.slice none 0 0)))) w := by
  unfold execOp
  simp only [ho]
  have : (parts.map fun (x : Nat × Operand) => match x with | (i, x) => (i, a.eval x)) = #[(1, .agg (vx v).toArray), (2, .agg (mx m).toArray)] := hp
  rw [this]
  simp only [Sem.run_bind, build30 v m w, Result.andThen_ok, Sem.run_pure]

/-- a store of many cells into a row of one's own -/
theorem owns_setCells {base e size g n cap : Nat} : ∀ (vs : List Value) (o : Nat) (w : World) (xs : List Value), w.ownsRow base e size (.slice (some ⟨g, 0, none⟩) n cap) n xs → o + vs.length ≤ xs.length →
    (w.setCells g o vs).ownsRow base e size (.slice (some ⟨g, 0, none⟩) n cap) n (over xs o vs) ∧ w.grownBy (w.setCells g o vs) (some g)
  | [], o, w, xs, h, _ => ⟨by simpa [over, World.setCells] using h, ⟨rfl, rfl, rfl, Nat.le_refl _, fun _ _ _ => rfl⟩⟩
  | v :: r, o, w, xs, h, hl => by
    simp only [List.length_cons] at hl
    obtain ⟨h1, h2⟩ := h.stored o v
    obtain ⟨h3, h4⟩ := owns_setCells r (o + 1) _ _ h1 (by simp; omega)
    refine ⟨?_, h2.trans h4⟩
    have : over (xs.set o v) (o + 1) r = over xs o (v :: r) := by
      unfold over
      rw [set_over _ _ _ (by omega)]
      have h1 : (xs.take o).length = o := by simp; omega
      have e1 : (xs.take o ++ v :: xs.drop (o + 1)).take (o + 1) = xs.take o ++ [v] := by
        rw [List.take_append, h1, show o + 1 - o = 1 by omega, List.take_of_length_le (by omega)]
        rfl
      have e2 : (xs.take o ++ v :: xs.drop (o + 1)).drop (o + 1 + r.length) = xs.drop (o + (r.length + 1)) := by
        rw [List.drop_append, h1, List.drop_of_length_le (l := xs.take o) (by omega), show o + 1 + r.length - o = r.length + 1 by omega, List.drop_succ_cons, List.drop_drop]
        simp only [List.nil_append]
        congr 1
        omega
      rw [e1, e2]
      simp
    rw [this] at h3
    exact h3
theorem owns_there {w : World} {base e size g n cap : Nat} {xs : List Value} (h : w.ownsRow base e size (.slice (some ⟨g, 0, none⟩) n cap) n xs) (o k : Nat) (hk : o + k ≤ xs.length) : w.there g o k := fun j hj => by
  refine ⟨?_, h.frozenAt _⟩
  have := h.cells (g := g) rfl (o + j) (xs[o + j]'(by omega)) (by simp)
  rw [Addr.add_mid, Nat.zero_add] at this
  rw [this]; rfl
theorem exec_store30m {o : Oper} {a : Act} (x y : Operand) (ho : o.op = .store 30 x y) (g f : Nat) (c : Array Value) (hx : a.eval x = .pointer (some ⟨g, f, none⟩)) (hy : a.eval y = .agg c) (w : World) (ht : w.there g f 41)
    (hs : c.size = 41) (h1 : c.all (·.oneCell') = true) : (execOp a.eval o).run Try.prog w = .ok .skip (w.setCells g f c.toList) := by
  unfold execOp
  simp only [ho, hx, hy, Sem.run_bind, Sem.run_pure, Result.andThen_ok, run_storeAt_mid (P := Try.prog) w g f 30 c (by rw [hs]; exact ht) (by rw [size30, hs]) h1]

/-- append of one thing, as an operation -/
theorem exec_append30 {o : Oper} {a : Act} (s x : Operand) (ho : o.op = .call { callee := .builtin .append, args := #[s, x], argTypes := #[28, 28] }) (base k : Nat) (v : Value) (xs : List Value) (w : World) (hs : a.eval s = v) (hown : w.ownsRow base 30 41 v k xs)
    (ad : Addr) (c : Array Value) (hx : a.eval x = .slice (some ad) 1 1) (hc : c.size = 41) (hl : ∀ j u, c[j]? = some u → w.cell? (ad.add j) = some u) (h1 : c.all (·.oneCell') = true) (hk : k ≤ 100000) (hb : base ≤ w.heap.size) :
    ∃ g cap w', (execOp a.eval o).run Try.prog w = .ok (.value (.slice (some ⟨g, 0, none⟩) (k + 1) cap)) w' ∧ w'.ownsRow base 30 41 (.slice (some ⟨g, 0, none⟩) (k + 1) cap) (k + 1) (xs ++ c.toList) ∧ w.grownBy w' v.ownBlock ∧ (v.ownBlock = some g ∨ g = w.heap.size) := by
  obtain ⟨i0, hi, hz0, hz1, hz2⟩ := info_parts info30
  obtain ⟨v', w', hr, h2, h3, _, h5⟩ := run_append_own_at (P := Try.prog) w base 28 o.type 30 i0 (.agg z30) 41 128 Try.underlying28 hi hz0 hz1 hz2 z30_size (by decide) v k xs hown ad 1 1 c.toList (by simpa using hc) (fun j u hj => hl j u (by simpa using hj)) (fun u hu => (Array.all_eq_true_iff_forall_mem.1 h1) u (by simpa using hu)) (by unfold maxLen; omega) (by omega) hb
  obtain ⟨g, cap, rfl⟩ := row_form h2
  refine ⟨g, cap, w', ?_, h2, h3, ?_⟩
  · unfold execOp
    simp only [ho, resolve, invoke, builtin, Sem.run_bind, Sem.run_pure, Result.andThen_ok, List.map_toArray, List.map_cons, List.map_nil, hs, hx, hr]
  · rcases h5 with h5 | h5
    · exact .inl h5.symm
    · exact .inr (by simpa [Value.ownBlock] using h5)

section
variable {ops : Array Oper} {Q : Exit → Act → World → Prop} {n l : Nat}
/-- a region in a round, its operations and its aim by letters -/
theorem wp_region_R {id : Nat} {a : Act} {w : World} (h : ∀ ops' Q', ops' = ops → Q' = Q → wpAnyIn (Fence.wide.inRound l) n Try.prog .any ops' Q' ops.size (Array.replicate ops.size false) a w.drew) : (Code.region id ops true).wpIn (Fence.wide.inRound l) n Try.prog Q a w :=
  wpIn_region_any (by kernel_rfl) (h ops Q rfl rfl)
theorem valueR (i d : Nat) (v : Value) (w' : World) {oi : Oper} {fuel : Nat} {listed : Array Bool} {a : Act} {w : World} {rs : List Nat} (hi : ops[i]? = some oi) (hd : oi.dst = some d) (hw : Region.wanted oi (yielded ops a.tmps) = true) (hn : ∀ c, oi.op ≠ .defer c)
    (hx : (execOp a.eval oi).run Try.prog w = .ok (.value v) w') (h : wpAnyIn (Fence.wide.inRound l) n Try.prog .any ops Q fuel (listed.setIfInBounds i true) (a.put (some d) v) w')
    (hs : AllReadyIn (Fence.wide.inRound l) n Try.prog .any ops Q fuel listed a w rs) : AllReadyIn (Fence.wide.inRound l) n Try.prog .any ops Q fuel listed a w (i :: rs) := by
  refine AllReadyIn.cons hi (fun K hK => ?_) hs
  rw [if_pos hw]
  refine ⟨fun _ _ => trivial, ?_⟩
  rw [Oper.semAt_plain _ _ _ hn, hx, Oper.uponIn_value, hd]
  exact hK _ _ h
theorem skipR (i : Nat) (w' : World) {oi : Oper} {fuel : Nat} {listed : Array Bool} {a : Act} {w : World} {rs : List Nat} (hi : ops[i]? = some oi) (hd : oi.dst = none) (hw : Region.wanted oi (yielded ops a.tmps) = true) (hn : ∀ c, oi.op ≠ .defer c)
    (hx : (execOp a.eval oi).run Try.prog w = .ok .skip w') (h : wpAnyIn (Fence.wide.inRound l) n Try.prog .any ops Q fuel (listed.setIfInBounds i true) a w')
    (hs : AllReadyIn (Fence.wide.inRound l) n Try.prog .any ops Q fuel listed a w rs) : AllReadyIn (Fence.wide.inRound l) n Try.prog .any ops Q fuel listed a w (i :: rs) := by
  refine AllReadyIn.cons hi (fun K hK => ?_) hs
  rw [if_pos hw]
  refine ⟨fun _ _ => trivial, ?_⟩
  rw [Oper.semAt_plain _ _ _ hn, hx, Oper.uponIn_skip, hd]
  exact hK _ _ h
end

theorem wpListIn_execW {F : Fence} {n : Nat} {ops : Array Oper} {rest : List Oper} {o : Oper} {a : Act} {w : World} {Q : Exit → Act → World → Prop} (v : Value) (w' : World) (hg : o.guard = none)
    (he : (execOp a.eval o).run Try.prog w = .ok (.value v) w') (hn : ∀ c, o.op ≠ .defer c) (ha : ∀ f, o.about Try.prog w a.eval = some f → F.fn f) (h : wpListIn F n Try.prog ops Q rest (a.put o.dst v) w') : wpListIn F n Try.prog ops Q (o :: rest) a w := by
  refine wpListIn_plain hg fun K hK => ?_
  refine ⟨ha, ?_⟩
  rw [Oper.semAt_plain _ _ _ hn, he, Oper.uponIn_value]
  exact hK _ _ h
theorem wpListIn_skipW {F : Fence} {n : Nat} {ops : Array Oper} {rest : List Oper} {o : Oper} {a : Act} {w : World} {Q : Exit → Act → World → Prop} (w' : World) (hg : o.guard = none)
    (he : (execOp a.eval o).run Try.prog w = .ok .skip w') (hn : ∀ c, o.op ≠ .defer c) (ha : ∀ f, o.about Try.prog w a.eval = some f → F.fn f) (h : wpListIn F n Try.prog ops Q rest (a.put o.dst undef) w') : wpListIn F n Try.prog ops Q (o :: rest) a w := by
  refine wpListIn_plain hg fun K hK => ?_
  refine ⟨ha, ?_⟩
  rw [Oper.semAt_plain _ _ _ hn, he, Oper.uponIn_skip]
  exact hK _ _ h
section
variable {ops : Array Oper} {Q : Exit → Act → World → Prop} {n : Nat}
theorem storeI (i : Nat) (w' : World) {oi : Oper} {fuel : Nat} {listed : Array Bool} {a : Act} {w : World} {rs : List Nat} (hi : ops[i]? = some oi) (hd : oi.dst = none) (hw : Region.wanted oi (yielded ops a.tmps) = true)
    (hx : (execOp a.eval oi).run Try.prog w = .ok .skip w') (h : wpAnyIn Fence.wide n Try.prog .any ops Q fuel (listed.setIfInBounds i true) a w')
    (hs : AllReadyIn Fence.wide n Try.prog .any ops Q fuel listed a w rs) : AllReadyIn Fence.wide n Try.prog .any ops Q fuel listed a w (i :: rs) := by
  refine AllReadyIn.cons hi (fun K hK => ?_) hs
  rw [if_pos hw]
  refine ⟨fun _ _ => trivial, ?_⟩
  rw [show (Fence.wide).round = none from rfl, Oper.semAt_none, hx, Oper.uponIn_skip, hd]
  exact hK _ _ h
end
end Go.Proofs.Ytjkbhfkeagfhbaa
namespace Go.Proofs.Ytjkbhfkeagfhbaa
open Go.RowKit

/-- raw data whose row is one's own -/
def HasNO (w0 w : World) (c : Array Value) (nm : ByteArray) (v : Vd) (m : Md) (ks : F) : Prop :=
  ∃ (u : Value) (xs : List Value) (T : Nat → Prop), c = nc nm v m u ∧ w.ownsRow w0.heap.size 30 41 u ks.len xs ∧ RCells w T ks xs ∧ ∀ b, T b → w0.heap.size ≤ b ∧ b < w.heap.size ∧ some b ≠ u.ownBlock
set_option maxRecDepth 100000 in
set_option maxHeartbeats 2000000 in
theorem copyO_any (ks : F) (nm : ByteArray) (v : Vd) (m : Md) (c : Array Value) (w : World) : HasN w c nm v m ks → ks.weight ≤ 100000 →
    Calls Try.prog 15 #[.agg c] w fun e w' => ∃ c', e = .returned (.agg c') ∧ HasNO w w' c' nm v m ks ∧ G w w' := by
  intro ⟨kv, hc, hS⟩ hw
  obtain ⟨a, cap, rfl, _⟩ := hS.form
  obtain ⟨N, hN⟩ : ∃ N, ks.len = N := ⟨_, rfl⟩
  have hN2 : N ≤ 100000 := by have := ks.len_le_size; have := F.size_le_weight ks; omega
  obtain ⟨i0, hi, hz0, hz1, hz2⟩ := info_parts info30
  rw [hN] at hc
  have hsz : c.size = 41 := by rw [hc]; exact nc_size ..
  have hV0 := Var.new w c
  have hV1 := hV0.grow (G.alloc (w.alloc (.cells c 30)) (.cells z30 30))
  have hV2 := Var.new (w.alloc (.cells c 30)) z30
  rw [World.size_alloc] at hV2
  have c40 := lies_cell hV1.lies 40 (.slice a N cap) (by rw [hc]; exact nc_kids ..)
  have HCI : Hid (CI w w.heap.size c ks ((w.alloc (.cells c 30)).alloc (.cells z30 30)) 0 (.slice none 0 0)) := ⟨(G.alloc _ _).trans (G.alloc _ _), hV1, hV2, by simp, [], fun _ => False, World.ownsRow_nil _ _ _ _, by rw [F.take_zero]; rfl, fun b hb => hb.elim⟩
  have HS : Hid (HasS w (.slice a ks.len cap) ks ∧ ks.len = N ∧ ks.weight ≤ 100000) := ⟨hS, hN, hw⟩
  have HC : Hid (c = nc nm v m (.slice a N cap)) := hc
  have HIH : Hid (∀ ks : F, CopyOk ks) := fun ks => copy_any _ ks (Nat.lt_succ_self _)
  clear hc hS hN hw hV0 hV1 hV2
  go_enter Try.func15, Try.ntmps15
  go_upto_region 1 with (with_reducible refine wpList_execW (.pointer (some ⟨(w.alloc (.cells c 30)).heap.size, 0, none⟩)) ((w.alloc (.cells c 30)).alloc (.cells z30 30)) ?_ ?_ ?_; exact exec_alloc30 rfl _; kernel_rfl)
  try simp only [Act.put, List.setIfInBounds_toArray, List.set_cons_zero, List.set_cons_succ, World.size_alloc]
  generalize (w.alloc (.cells c 30)).alloc (.cells z30 30) = w1 at *
  obtain ⟨B, hB⟩ : ∃ B, w.heap.size = B := ⟨_, rfl⟩
  rw [hB] at c40 HCI ⊢
  have HB : Hid (w.heap.size = B) := hB
  clear hB
  go_wp2_with fail
  go_loopw [3, 4] (fun u i wr => ∃ k : Nat, i = .int .i64 k ∧ k ≤ N ∧ (∃ ao uc, u = .slice ao k uc) ∧ wr.cell? ⟨B, 40, none⟩ = some (.slice a N cap) ∧ Hid (CI w B c ks wr k u)) (fun _ i _ => N - iOf i)
  case atStart => exact ⟨0, rfl, Nat.zero_le _, ⟨none, 0, rfl⟩, c40, HCI.out⟩
  case round =>
    clear c40 HCI
    obtain ⟨k, rfl, hk, ⟨ao, uc, rfl⟩, q40, HI⟩ := hrel
    by_cases hlt : k < N
    · have hltI : (k : Int) < (N : Int) := by omega
      obtain ⟨g2, o2, cp, nm1, v1, m1, ks1, c1, hv1, hd1, hN1, hc1⟩ := HS.out.1.at (k := k) (by rw [HS.out.2.1]; exact hlt)
      obtain rfl : a = some ⟨g2, o2, none⟩ := by injection hv1
      clear hv1
      have hksz := F.kids_size hd1
      have hwt : ks1.weight ≤ 100000 := by
        have h1 := HS.out.2.2
        have h2 := congrArg F.weight (F.app_take_drop ks k)
        rw [F.app_weight, hd1, F.weight] at h2
        omega
      have HL1 : Hid (Lies wr g2 (o2 + k * 41) c1 ∧ c1.size = 41) := ⟨HI.out.1.lies hc1, by obtain ⟨_, rfl, _⟩ := hN1; exact nc_size ..⟩
      have CC := HIH.out ks1 nm1 v1 m1 c1 wr (hN1.below HI.out.1) hwt
      have HD : Hid (ks.drop k = .cons nm1 v1 m1 ks1 (ks.drop (k + 1))) := hd1
      clear hd1 hN1 hc1 hksz hwt
      obtain ⟨h1, h2, h3, h4, xs, T, hrow, hcs, hT⟩ := HI.out
      have HI2 : Hid ((G w wr ∧ Var wr B c ∧ Var wr (B + 1) z30 ∧ B + 2 ≤ wr.heap.size) ∧ wr.ownsRow (B + 2) 30 41 (.slice ao k uc) k xs ∧ RCells wr T (ks.take k) xs ∧ ∀ b, T b → B + 2 ≤ b ∧ b < wr.heap.size ∧ some b ≠ (Value.slice ao k uc).ownBlock) := ⟨⟨h1, h2, h3, h4⟩, hrow, hcs, hT⟩
      clear h1 h2 h3 h4 hrow hcs hT HI
      go_wp2_with (first
        | (with_reducible refine wpList_exec (.agg c1) ?_ ?_ ?_; exact exec_load30 _ rfl g2 (o2 + k * 41) rfl c1 HL1.out.2 HL1.out.1; kernel_rfl)
        | (go_at_call 15; refine CC.mono ?_; rintro e w2 ⟨c2, rfl, hn2, hg2⟩; have HN2 : Hid (HasNP w2 (New wr w2) c2 nm1 v1 m1 ks1 ∧ G wr w2) := ⟨hn2, hg2⟩; have HZ2 : Hid (c2.size = 41 ∧ c2.all (·.oneCell') = true) := by { obtain ⟨kv2, rfl, hk2⟩ := hn2; obtain ⟨a2, cap2, rfl, _⟩ := hk2; exact ⟨nc_size .., nc_one _ _ _ _ rfl⟩ }; have OW : Hid ((w2.alloc (.cells c2 30)).ownsRow (B + 2) 30 41 (.slice ao k uc) k xs) := World.ownsRow.alloc (owns_growR HI2.out.2.1 hg2) _; have hsz2 : B + 2 ≤ w2.heap.size := Nat.le_trans HI2.out.1.2.2.2 hg2.size; clear CC hn2 hg2)
        | (with_reducible refine wpList_execW (.slice (some ⟨w2.heap.size, 0, none⟩) 1 1) (w2.alloc (.cells c2 30)) ?_ ?_ ?_; exact exec_slice1 _ rfl c2 rfl HZ2.out.1 _; kernel_rfl)
        | (at_builtin; refine wpList_append_own_at _ rfl _ _ 28 rfl (B + 2) 30 i0 (.agg z30) 41 128 Try.underlying28 hi hz0 hz1 hz2 z30_size (by decide) (.slice ao k uc) k xs rfl OW.out ⟨w2.heap.size, 0, none⟩ 1 1 c2.toList rfl (by simpa using HZ2.out.1) (fun j u hj => by rw [Addr.add_mid]; exact lies_new w2 c2 30 j u (by simpa using hj)) (fun u hu => (Array.all_eq_true_iff_forall_mem.1 HZ2.out.2) u (by simpa using hu)) (by unfold maxLen; omega) (by omega) (by simp; omega) ?_; intro u' w4 ho4 hg4 _ hat4; have R4 : Hid (CI w B c ks w4 (k + 1) u') := CI.step HI2.out.1 HI2.out.2.1 HI2.out.2.2.1 HI2.out.2.2.2 HD.out HN2.out.1 HN2.out.2 ho4 hg4 hat4 HB.out; obtain ⟨g', cap', rfl⟩ := row_form ho4; clear ho4 hg4 hat4))
      have z40 := lies_cell R4.out.2.1.lies 40 (.slice (some ⟨g2, o2, none⟩) N cap) (by rw [HC.out]; exact nc_kids ..)
      go_roundw
      case rel => exact ⟨k + 1, by go_num, by omega, ⟨_, _, rfl⟩, z40, R4.out⟩
      case measure => simp; omega
    · have hltI : ¬ (k : Int) < (N : Int) := by omega
      obtain rfl : k = N := by omega
      obtain ⟨h1, h2, h3, h4, xs, T, hrow, hcs, hT⟩ := HI.out
      rw [F.take_all ks k (by rw [HS.out.2.1]; exact Nat.le_refl _)] at hcs
      have hcell := cell_of_var h2 40 (by rw [hsz]; omega)
      have HF := hid (⟨h1, h2, h3, h4, hrow, hcs, hT⟩ : G w wr ∧ Var wr B c ∧ Var wr (B + 1) z30 ∧ B + 2 ≤ wr.heap.size ∧ wr.ownsRow (B + 2) 30 41 (.slice ao k uc) k xs ∧ RCells wr T ks xs ∧ ∀ b, T b → B + 2 ≤ b ∧ b < wr.heap.size ∧ some b ≠ (Value.slice ao k uc).ownBlock)
      have hfz : wr.frozen? ⟨B, 40, none⟩ = false := var_frozen h2 40
      have hVS : Var (wr.setCell ⟨B, 40, none⟩ (.slice ao k uc)) B (nc nm v m (.slice ao k uc)) := by
        have := h2.setCell 40 (.slice ao k uc)
        rw [HC.out, nc_kset] at this
        exact this
      have hVT : Var (wr.setCell ⟨B, 40, none⟩ (.slice ao k uc)) (B + 1) z30 := (Below.heap_setCell _ _ _ _ (by show B + 1 ≠ B; omega)).trans h3
      have HV := hid (⟨hVS, hVT⟩ : _ ∧ _)
      clear h1 h2 h3 h4 hrow hcs hT HI hcell hVS hVT
      go_wp2_with (first
        | (with_reducible refine wpList_exec (.agg (nc nm v m (.slice ao k uc))) ?_ ?_ ?_; exact exec_load30 _ rfl B 0 rfl _ (nc_size ..) HV.out.1.lies; kernel_rfl)
        | (with_reducible refine wpList_skipW ((wr.setCell ⟨B, 40, none⟩ (.slice ao k uc)).setRow (B + 1) (nc nm v m (.slice ao k uc))) ?_ ?_ ?_; exact exec_store30 _ _ rfl (B + 1) _ z30 rfl rfl _ HV.out.2 (nc_size ..) z30_size (nc_one _ _ _ _ rfl); kernel_rfl))
      refine bodyPost_ret (results_cell_row (P := Try.prog) (p := 2) (ty := 30) rfl _ _ (B + 1) 30 (nc nm v m (.slice ao k uc)) (0, 0) _ rfl HV.out.2.set under30 rfl (by rw [size30, nc_size])) rfl ?_
      obtain ⟨h1, h2, h3, h4, hrow, hcs, hT⟩ := HF.out
      have hlt2 := World.ownsRow.lt hrow
      have hoth : ∀ b, B + 2 ≤ b → ((wr.setCell ⟨B, 40, none⟩ (.slice ao k uc)).setRow (B + 1) (nc nm v m (.slice ao k uc))).heap[b]? = wr.heap[b]? := fun b hb =>
        (setRow_other _ (B + 1) b _ (by omega)).trans (Below.heap_setCell _ _ _ b (by show b ≠ B; omega))
      have hbel : G w ((wr.setCell ⟨B, 40, none⟩ (.slice ao k uc)).setRow (B + 1) (nc nm v m (.slice ao k uc))) := by
        refine Below.trans (B := w.heap.size) h1 ⟨rfl, rfl, rfl, by simp, fun b hb => ?_⟩
        have := HB.out
        exact (setRow_other _ (B + 1) b _ (by omega)).trans (Below.heap_setCell _ _ _ b (by show b ≠ B; omega))
      have hHB := HB.out
      refine ⟨_, rfl, ⟨_, xs, T, rfl, ?_, hcs.keep fun b hb => ⟨hoth b (hT b hb).1, hb⟩, fun b hb => ⟨by have := (hT b hb).1; omega, by have := (hT b hb).2.1; simp; exact this, (hT b hb).2.2⟩⟩, hbel⟩
      rw [HS.out.2.1]
      obtain ⟨r1, r2 | ⟨g, cp, cur, rv, rb, rh, rr⟩⟩ := hrow
      · exact ⟨r1, .inl r2⟩
      · exact ⟨r1, .inr ⟨g, cp, cur, rv, by omega, (hoth g (by omega)).trans rh, rr⟩⟩
end Go.Proofs.Ytjkbhfkeagfhbaa
