import Derived.Test.YtbjjbgaomoihaaaGreatDoorGi
set_option maxRecDepth 100000
set_option maxHeartbeats 8000000
namespace Go.Proofs.YtbjjbgaomoihaaaGreatDoor
open Go.RowKit
def noDefer (ops : Array Oper) : Bool := ops.all fun o => match o.op with | .defer _ => false | _ => true
theorem noDefer_spec {ops : Array Oper} (h : noDefer ops = true) {i : Nat} {o : Oper} (hi : ops[i]? = some o) : ∀ c, o.op ≠ .defer c := fun c hc => by
  unfold noDefer at h
  rw [Array.all_eq_true_iff_forall_mem] at h
  have := h o (Array.mem_of_getElem? hi)
  rw [hc] at this
  cases this
section
variable {F : Fence} {n : Nat} {md : Region.Mode} {ops : Array Oper} {Q : Exit → Act → World → Prop}
def QuietI (F : Fence) (n : Nat) (o : Oper) (a : Act) (w : World) (v : Value) : Prop := (execOp a.eval o).run Tryz.prog w = .ok (.value v) w ∨ ∃ f args, (execOp a.eval o).run Tryz.prog w = .ok (.enter f args) w ∧ CallsIn F (n - 1) Tryz.prog f args w fun e w' => e = .returned v ∧ G w w'
def YieldsI (F : Fence) (n : Nat) (ops : Array Oper) (w0 : World) (o : Oper) (v : Value) (a : Act) : Prop :=
  (Region.wanted o (yielded ops a.tmps) = true ∧ ∀ w, G w0 w → QuietI F n o a w v) ∨ (Region.wanted o (yielded ops a.tmps) = false ∧ v = undef)
theorem YieldsI.of_same {w0 : World} {o : Oper} {v : Value} {a a' : Act} (h : YieldsI F n ops w0 o v a) (he : execOp a'.eval o = execOp a.eval o) (hw : Region.wanted o (yielded ops a'.tmps) = Region.wanted o (yielded ops a.tmps)) : YieldsI F n ops w0 o v a' := by
  unfold YieldsI QuietI at *
  rw [he, hw]
  exact h
theorem YieldsI.mono {w0 w1 : World} {o : Oper} {v : Value} {a : Act} (h : YieldsI F n ops w0 o v a) (hg : G w0 w1) : YieldsI F n ops w1 o v a :=
  h.imp (fun h => ⟨h.1, fun w hw => h.2 w (hg.trans hw)⟩) id
theorem YieldsI.wpOpIn (hF : ∀ f, F.fn f) (hn : F.depth.isSome = true → 1 ≤ n) {w0 w : World} {i : Nat} {o : Oper} {v : Value} {a : Act} {K : Act → World → Prop} (h : YieldsI F n ops w0 o v a) (hi : ops[i]? = some o) (hd : ∀ c, o.op ≠ .defer c) (hg : G w0 w) (hk : ∀ w', G w w' → K (a.put o.dst v) w') : wpOpIn F n Tryz.prog ops Q i K a w := by
  unfold Go.wpOpIn
  simp only [hi]
  rcases h with ⟨hw, h⟩ | ⟨hw, rfl⟩
  · simp only [hw, if_true, Oper.wpIn]
    refine ⟨fun f _ => hF f, ?_⟩
    rw [Oper.semAt_plain _ _ _ hd]
    rcases h w hg with h | ⟨f, args, h1, h2⟩
    · rw [h, Oper.uponIn_value]; exact hk _ (G.refl _)
    · rw [h1, Oper.uponIn_enter]
      refine ⟨hn, h2.mono ?_⟩
      rintro e w' ⟨rfl, hg'⟩
      exact hk _ hg'
  · simp only [hw, Bool.false_eq_true, if_false]
    exact ⟨fun f _ => hF f, hk _ (G.refl _)⟩
theorem wpOpIn_beforeI {w0 : World} {j : Nat} {oi oj : Oper} {v : Value} (hj : ops[j]? = some oj) (hdj : ∀ c, oj.op ≠ .defer c) (hap : oi.apart ops oj = true)
    (hsi : ∀ cs b, oi.op ≠ .select cs b) (hsj : ∀ cs b, oj.op ≠ .select cs b)
    (hQ : ∀ c a w, Q (.panic c) (a.put oi.dst v) w → Q (.panic c) a w) {K : Act → World → Prop} {a : Act} {w : World}
    (hy : YieldsI F n ops w0 oi v a) (h : wpOpIn F n Tryz.prog ops Q j K (a.put oi.dst v) w) :
    wpOpIn F n Tryz.prog ops Q j (fun a' w' => YieldsI F n ops w0 oi v a' ∧ K (a'.put oi.dst v) w') a w := by
  obtain ⟨h1, h2, h3⟩ := Oper.apart_spec hap
  have keep : ∀ (a : Act), YieldsI F n ops w0 oi v a → ∀ u, YieldsI F n ops w0 oi v (a.put oj.dst u) := fun a hy u =>
    hy.of_same (execOp_put oi hsi a oj.dst u h3) (wanted_put oi a oj.dst u h3)
  have keepD : ∀ d, YieldsI F n ops w0 oi v { a with defers := d :: a.defers } := fun d => hy.of_same rfl rfl
  unfold wpOpIn at *
  simp only [hj] at *
  rw [wanted_put oj a oi.dst v h1, about_put oj w a oi.dst v h1] at h
  split
  · rename_i hw
    simp only [hw, if_true] at h
    unfold Oper.wpIn at *
    rw [about_put oj w a oi.dst v h1] at h
    refine ⟨h.1, ?_⟩
    have h := h.2
    rw [Oper.semAt_plain _ _ _ hdj, execOp_put oj hsj a oi.dst v h1] at h
    rw [Oper.semAt_plain _ _ _ hdj]
    generalize (execOp a.eval oj).run Tryz.prog w = r at *
    cases r with
    | ok x w' =>
      cases x <;> simp only [Oper.uponIn] at h ⊢
      case value u => exact ⟨keep a hy u, by rw [← Act.put_comm a v u h2]; exact h⟩
      case skip => exact ⟨keep a hy _, by rw [← Act.put_comm a v undef h2]; exact h⟩
      case defer d =>
        refine ⟨keep _ (keepD d) _, ?_⟩
        rw [← Act.put_comm _ v undef h2, ← Act.put_defers]
        exact h
      case enter f args =>
        refine ⟨h.1, CallsIn.mono h.2 fun e w'' he => ?_⟩
        cases e with
        | returned u => exact ⟨keep a hy u, by rw [← Act.put_comm a v u h2]; exact he⟩
        | panicked c => exact hQ _ _ _ he
        | outgrown => exact he
      case row row args => exact ⟨h.1, RowsIn.mono h.2 fun u w'' he => ⟨keep a hy u, by rw [← Act.put_comm a v u h2]; exact he⟩⟩
      case round l f tmps assign body =>
        refine ⟨h.1, RoundIn.mono h.2 fun e w'' he => ?_⟩
        cases e with
        | returned u => exact ⟨keep a hy u, by rw [← Act.put_comm a v u h2]; exact he⟩
        | panicked c => exact hQ _ _ _ he
        | outgrown => exact he
    | halt x w' =>
      cases x <;> simp only [Oper.uponIn] at h ⊢
      case panic u => exact hQ _ _ _ h
  · rename_i hw
    simp only [hw] at h
    exact ⟨h.1, keep a hy _, by rw [← Act.put_comm a v undef h2]; exact h.2⟩
def wpI (F : Fence) (n : Nat) (md : Region.Mode) (ops : Array Oper) (Q : Exit → Act → World → Prop) : Nat → Array Bool → Act → World → Prop
  | 0, listed, a, w0 => ∀ w, G w0 w → Region.ready md ops listed = [] ∧ Q .normal a w
  | k + 1, listed, a, w0 => ∀ w, G w0 w → (Region.ready md ops listed = [] → Q .normal a w) ∧
    ∀ i ∈ Region.ready md ops listed, wpOpIn F n Tryz.prog ops Q i (fun a' w' => G w w' ∧ wpI F n md ops Q k (listed.setIfInBounds i true) a' w') a w
theorem wpI.grow {k : Nat} {listed : Array Bool} {a : Act} {w w' : World} (h : wpI F n md ops Q k listed a w) (hg : G w w') : wpI F n md ops Q k listed a w' := by
  cases k with
  | zero => exact fun x hx => h x (hg.trans hx)
  | succ k => exact fun x hx => h x (hg.trans hx)
theorem wpI.any : ∀ (k : Nat) (listed : Array Bool) (a : Act) (w : World), wpI F n md ops Q k listed a w → wpAnyIn F n Tryz.prog md ops Q k listed a w
  | 0, _, _, w, h => h w (G.refl w)
  | k + 1, _, _, w, h => ⟨(h w (G.refl w)).1, fun i hi => wpOpIn_mono (fun a' w' h' => wpI.any k _ a' w' h'.2) ((h w (G.refl w)).2 i hi)⟩
theorem wpI_first (hF : ∀ f, F.fn f) (hn : F.depth.isSome = true → 1 ≤ n) (hnd : noDefer ops = true) {i : Nat} {oi : Oper} {v : Value} (hi : ops[i]? = some oi) (hsel : ∀ (j : Nat) (o : Oper) cs b, ops[j]? = some o → o.op ≠ .select cs b)
    (hQ : ∀ c a w, Q (.panic c) (a.put oi.dst v) w → Q (.panic c) a w) :
    ∀ (k : Nat) (listed : Array Bool) (a : Act) (w0 : World), (∀ j oj, ops[j]? = some oj → j ≠ i → listed.getD j true = false → (∀ e ∈ oj.after, Region.binds md e = true → e.on ≠ i) → oi.apart ops oj = true) →
      i ∈ Region.ready md ops listed → YieldsI F n ops w0 oi v a → wpI F n md ops Q k (listed.setIfInBounds i true) (a.put oi.dst v) w0 → wpI F n md ops Q (k + 1) listed a w0 := by
  intro k
  induction k with
  | zero =>
    intro listed a w0 _ hr hy H w hg
    refine ⟨fun e => (by rw [e] at hr; cases hr), fun j hj => ?_⟩
    by_cases hji : j = i
    · subst hji
      exact hy.wpOpIn hF hn hi (noDefer_spec hnd hi) hg fun w' hg' => ⟨hg', fun x hx => H x ((hg.trans hg').trans hx)⟩
    · have := ready_mono hj hji
      rw [(H w hg).1] at this
      cases this
  | succ k ih =>
    intro listed a w0 hfree hr hy H w hg
    refine ⟨fun e => (by rw [e] at hr; cases hr), fun j hj => ?_⟩
    by_cases hji : j = i
    · subst hji
      exact hy.wpOpIn hF hn hi (noDefer_spec hnd hi) hg fun w' hg' => ⟨hg', H.grow (hg.trans hg')⟩
    · obtain ⟨hun, oj, hoj, hall⟩ := mem_ready.1 hj
      have hno : ∀ e ∈ oj.after, Region.binds md e = true → e.on ≠ i := fun e he hb heq => by
        have h1 := hall e he hb
        rw [heq] at h1
        have h0 := (mem_ready.1 hr).1
        by_cases hlt : i < listed.size
        · simp [Array.getD, hlt] at h0 h1
          rw [h0] at h1
          cases h1
        · simp [Array.getD, hlt] at h1
      have h2 := wpOpIn_beforeI hoj (noDefer_spec hnd hoj) (hfree j oj hoj hji hun hno) (fun cs b => hsel i oi cs b hi) (fun cs b => hsel j oj cs b hoj) hQ hy ((H w hg).2 j (ready_mono hj hji))
      refine wpOpIn_mono (fun a' w' h3 => ⟨h3.2.1, ih (listed.setIfInBounds j true) a' w' ?_ (ready_mono hr (Ne.symm hji)) (h3.1.mono (hg.trans h3.2.1)) ?_⟩) h2
      · intro l ol hl hli hunl hnol
        refine hfree l ol hl hli ?_ hnol
        by_cases hjl : j = l
        · subst hjl; exact hun
        · rwa [getD_set_ne true hjl] at hunl
      · rw [Array.setIfInBounds_comm _ _ hji]
        exact h3.2.2
structure Lets (F : Fence) (n : Nat) : Prop where
  fn : ∀ f, F.fn f
  dp : F.depth.isSome = true → 1 ≤ n
theorem lets_wide {n : Nat} : Lets Fence.wide n := ⟨fun _ => trivial, fun h => by cases h⟩
theorem wp_region_II {id : Nat} {a : Act} {w : World} (h : wpI F n .any ops Q ops.size (Array.replicate ops.size false) a w.drew) : (Code.region id ops true).wpIn F n Tryz.prog Q a w :=
  wpIn_region_any (by kernel_rfl) (wpI.any _ _ _ _ h)
theorem takeII (hL : Lets F n) (i d : Nat) (v : Value) {oi : Oper} {k : Nat} {listed : Array Bool} {a : Act} {w0 : World} (hi : ops[i]? = some oi) (hd : oi.dst = some d) (hnd : noDefer ops = true)
    (hs : Region.noSelect ops = true) (hf : Region.free md ops listed i = true) (hr : (Region.ready md ops listed).contains i = true)
    (hQ : ∀ c a w, Q (.panic c) (a.put (some d) v) w → Q (.panic c) a w) (hw : Region.wanted oi (yielded ops a.tmps) = true) (hy : ∀ w, G w0 w → (execOp a.eval oi).run Tryz.prog w = .ok (.value v) w)
    (h : wpI F n md ops Q k (listed.setIfInBounds i true) (a.put (some d) v) w0) : wpI F n md ops Q (k + 1) listed a w0 :=
  wpI_first hL.fn hL.dp hnd hi (Region.noSelect_spec hs) (by rw [hd]; exact hQ) k listed a w0 (Region.free_spec hi hf) (by simpa using hr) (.inl ⟨hw, fun w hg => .inl (hy w hg)⟩) (by rw [hd]; exact h)
theorem doneII {k : Nat} {listed : Array Bool} {a : Act} {w0 : World} (hr : Region.ready md ops listed = []) (h : ∀ w, G w0 w → Q .normal a w) : wpI F n md ops Q k listed a w0 := by
  cases k with
  | zero => exact fun w hg => ⟨hr, h w hg⟩
  | succ k => exact fun w hg => ⟨fun _ => h w hg, fun i hi => by rw [hr] at hi; cases hi⟩
end
open Go.Shelf Ch
attribute [local go_sem] Oper.semAt_some
theorem gather_step (w0 : World) (Mb Kb : Nat) (k : K) (ih : ∀ k' : K, k'.flat.size < k.flat.size → ThingOk w0 Mb Kb k') : GatherOk w0 Mb Kb k := by
  intro p v m q pre M pv Bp w hT hGw hMt hnm hkd hqs hsz hpl
  obtain ⟨pk, hT1, hT2⟩ := hT.grow hGw
  obtain ⟨ak, rfl⟩ := hT2.form
  have c39 := lies_cell hT1 39 _ (tc_kids ..)
  obtain ⟨FC, hFC⟩ : ∃ FC, #[fvc Mb] = FC := ⟨_, rfl⟩
  unfold yvc
  rw [hFC]
  obtain ⟨N, hN⟩ : ∃ N, k.flat.len = N := ⟨_, rfl⟩
  have C49 : Hid (∀ W, G w W → Calls Tryz.prog 67 #[.pointer ak] W fun e w' => e = .returned (.int .i64 N) ∧ w' = W) := fun W hW => by rw [← hN]; exact many2_any k _ W (hT2.grow hW)
  have HH := hid (⟨hT, hGw, hMt, hnm, hkd, hqs, hsz, hpl, hN, hFC⟩ : AtT w0 p v m k ∧ G w0 w ∧ Mt w0.heap.size Mb Kb pre.length pre M w pv Bp ∧ namesF k.flat ∧ kindsF k.flat ∧ q.size + 256 * k.flat.depth ≤ 1000000 ∧ k.flat.size ≤ 1000 ∧ pre.length + k.flat.size ≤ 50000 ∧ k.flat.len = N ∧ #[fvc Mb] = FC)
  have HIH := hid ih
  have hN2 : N ≤ 100000 := by have := k.flat.len_le_size; omega
  obtain ⟨B, hB⟩ : ∃ B, w.heap.size = B := ⟨_, rfl⟩
  obtain ⟨i9, hi9, hz90, hz91, hz92⟩ := info_parts Tryz.info9
  obtain ⟨i0, hi, hz0, hz1, hz2⟩ := info_parts info30
  obtain ⟨M9, hM9⟩ : ∃ M9, madeCells #[.string ⟨#[]⟩] N = M9 := ⟨_, rfl⟩
  obtain ⟨M30, hM30⟩ : ∃ M30, madeCells z30 (N * 41) = M30 := ⟨_, rfl⟩
  have mk9 : ∀ W : World, (Instr.makeSlice 56 (.int .i64 0) (.int .i64 (N : Int))).run Tryz.prog W = .ok (.slice (some ⟨W.heap.size, 0, none⟩) 0 N) (W.alloc (.cells M9 9)) := by
    intro W
    have := run_make (P := Tryz.prog) W 56 9 i9 (.string ⟨#[]⟩) Tryz.underlying56 hi9 hz90 .i64 .i64 0 N (Int.le_refl _) (by omega) (by rw [hz92]; omega) (by omega)
    rw [hz91] at this
    rw [← hM9]
    simpa [Value.cells] using this
  have mk30 : ∀ W : World, (Instr.makeSlice 28 (.int .i64 0) (.int .i64 (N : Int))).run Tryz.prog W = .ok (.slice (some ⟨W.heap.size, 0, none⟩) 0 N) (W.alloc (.cells M30 30)) := by
    intro W
    have := run_make (P := Tryz.prog) W 28 30 i0 (.agg z30) Tryz.underlying28 hi hz0 .i64 .i64 0 N (Int.le_refl _) (by omega) (by rw [hz2]; omega) (by omega)
    rw [hz1] at this
    rw [← hM30]
    simpa [Value.cells] using this
  have HM : Hid (M9.size = N * 1 ∧ M30.size = N * 41) := ⟨by rw [← hM9, size_madeCells]; omega, by rw [← hM30, size_madeCells]⟩
  clear hM9 hM30 hz90 hz91 hz92 hi9 hz0 hz1 hz2 hi
  clear hT hT1 hT2 hGw hMt hnm hkd hqs hsz hpl ih hFC hN
  refine (callsIn_wide (n := 3)).1 ?_
  refine callsIn_of_wp_marks Tryz.func37 rfl trivial (Go.wpIn_mono (Q := RetM Tryz.f37 _) ?_ RetM.post) rfl
  simp only [Tryz.ntmps37, List.size_toArray, List.length_cons, List.length_nil, Nat.reduceAdd, Nat.reduceSub, Array.replicate_succ, Array.replicate_zero, List.push_toArray, List.append_toArray, List.nil_append, List.cons_append]
  have HG0 : Hid (G w ((w.alloc (.cells #[.string q] 9)).alloc (.cells #[.func (.func 21) #[.agg FC] #[]] 81))) := (G.alloc _ _).trans (G.alloc _ _)
  replace c39 := HG0.out.cell c39
  have hw0 : ((w.alloc (.cells #[.string q] 9)).alloc (.cells #[.func (.func 21) #[.agg FC] #[]] 81)).heap.size = B + 2 := by rw [World.size_alloc, World.size_alloc, hB]
  have hb0 : ((w.alloc (.cells #[.string q] 9)).alloc (.cells #[.func (.func 21) #[.agg FC] #[]] 81)).heap[B]? = some (.cells #[.string q] 9 (0, 0)) := by
    rw [Below.heap_alloc _ _ _ (by rw [World.size_alloc, hB]; omega)]
    have := World.alloc_heap_new w (.cells #[.string q] 9)
    rwa [hB] at this
  have hb1 : ((w.alloc (.cells #[.string q] 9)).alloc (.cells #[.func (.func 21) #[.agg FC] #[]] 81)).heap[B + 1]? = some (.cells #[.func (.func 21) #[.agg FC] #[]] 81 (0, 0)) := by
    have := World.alloc_heap_new (w.alloc (.cells #[.string q] 9)) (.cells #[.func (.func 21) #[.agg FC] #[]] 81)
    rwa [World.size_alloc, hB] at this
  have H0 := hid (⟨HG0.out, hw0, hb0, hb1⟩ : _ ∧ _ ∧ _ ∧ _)
  clear hw0 hb0 hb1 HG0
  gi_wp2_with fail
  refine ⟨trivial, ?_⟩
  refine (callsIn_wide.2 (C49.out _ H0.out.1)).mono ?_
  rintro e w' ⟨rfl, rfl⟩
  generalize (w.alloc (.cells #[.string q] 9)).alloc (.cells #[.func (.func 21) #[.agg FC] #[]] 81) = W0 at *
  have hsz0 := H0.out.2.1
  have hG2 : G w ((W0.alloc (.cells M9 9)).alloc (.cells #[.slice (some ⟨B + 2, 0, none⟩) 0 N] 56)) := (H0.out.1.trans (G.alloc _ _)).trans (G.alloc _ _)
  have c39b : ((W0.alloc (.cells M9 9)).alloc (.cells #[.slice (some ⟨B + 2, 0, none⟩) 0 N] 56)).cell? ⟨p, 39, none⟩ = some (.pointer ak) := ((G.alloc _ _).trans (G.alloc _ _)).cell c39
  gi_wp2_with (first
    | (refine ⟨trivial, ?_⟩; gi_at_call 67; refine (callsIn_wide.2 (C49.out _ hG2)).mono ?_; rintro e w' ⟨rfl, rfl⟩)
    | (refine ⟨trivial, ?_⟩; gi_at_call 25; refine (callsIn_wide.2 (childrenF_any p _)).mono ?_; rintro e w' ⟨rfl, rfl⟩))
  have hloB : w0.heap.size ≤ B := by have := HH.out.2.1.size; omega
  have hI0 := GI.start (Y := .func (.func 21) #[.agg FC] #[]) (q := q) hB hloB HH.out.2.2.1 H0.out.1 hsz0 H0.out.2.2.1 H0.out.2.2.2 HM.out.1 HM.out.2 hN2 (.cells #[.pointer (some ⟨p, 0, none⟩)] 32)
  have e6 : ((((W0.alloc (.cells M9 9)).alloc (.cells #[.slice (some ⟨B + 2, 0, none⟩) 0 N] 56)).alloc (.cells M30 30)).alloc (.cells #[.slice (some ⟨B + 4, 0, none⟩) 0 N] 28)).heap.size = B + 6 := by
    rw [World.size_alloc, World.size_alloc, World.size_alloc, World.size_alloc, hsz0]
  rw [show B + 2 + 1 + 1 + 1 + 1 = B + 6 from rfl, show B + 2 + 1 + 1 + 1 = B + 5 from rfl, show B + 2 + 1 + 1 = B + 4 from rfl, show B + 2 + 1 = B + 3 from rfl]
  refine step_worldIn (fun W5 => (∃ un ut xs T M' pv' Bp', GI w0.heap.size Mb Kb w B q (.func (.func 21) #[.agg FC] #[]) [] .nil W5 un ut xs T M M' pre pv' Bp') ∧ W5.cell? ⟨B + 6, 0, none⟩ = some (.pointer (some ⟨p, 0, none⟩)) ∧ B + 6 < W5.heap.size ∧ G w0 W5) ⟨⟨_, _, _, _, _, _, _, hI0⟩, by
    rw [← e6]
    exact lies_cell (lies_new _ _ _) 0 _ rfl, by rw [World.size_alloc, e6]; omega, by
    have h1 := hI0.g.below (B := w0.heap.size) (by rw [hB]; exact hloB) fun b hb => (HH.out.2.2.1.cls hb).2
    exact Below.trans (B := w0.heap.size) HH.out.2.1 h1⟩ fun W5 H5 => ?_
  obtain ⟨hI5, hc5, hs5, hG5⟩ := H5
  have hle5 : w.heap.size ≤ W5.heap.size := by rw [hB]; omega
  clear hI0 e6 c39 c39b hG2 H0 hsz0 mk9 mk30 HM C49
  have hlen0 := HH.out.2.2.2.2.2.2.2.1
  refine wpIn_range_at rfl (by omega) (gf := 56) (lb := #[.pointer (some ⟨B + 6, 0, none⟩)]) rfl trivial (enters_of Tryz.func56 (by kernel_rfl) rfl)
    (children_at 2 w0 (B + 6) p v m k W5 hs5 hc5 HH.out.1 hG5)
    (fun h k => h.trans k) (belowK_b (by omega)) (Below.refl _ _) (fun _ => rfl)
    (fun pq W => ∃ un ut xs T M' pv' Bp', GI w0.heap.size Mb Kb w B q (.func (.func 21) #[.agg FC] #[]) ((kidsP pq).map (·.nm)) (tld (kidsP pq)) W un ut xs T M M' (pre ++ behK (kidsP pq) q) pv' Bp') (fun _ _ => False) (GI.own (fun pq => (kidsP pq).map (·.nm)) (fun pq => tld (kidsP pq)) (fun pq => pre ++ behK (kidsP pq) q) (by omega)) (fun _ _ _ _ hs _ _ => hs) (by
      obtain ⟨un, ut, xs, T, M', pv', Bp', h⟩ := hI5
      exact ⟨un, ut, xs, T, M', pv', Bp', by simpa [behK, tld] using h⟩)
    ?a1 ?assign ?body ?done ?stop
  case assign =>
    intro l x W K hK
    gi_wp2
    exact hK
  case stop =>
    rintro D pq W _ _ h _
    exact h.elim
  case body =>
    rintro l pq x W ⟨un, ut, xs, T, M1, pv1, Bp1, hI⟩ hpre
    obtain ⟨⟨xnm, xp, xv, xm, xk⟩, hxT, hxS⟩ := x
    simp only at hxT
    have e0 : kidsP (pq ++ [⟨⟨xnm, xp, xv, xm, xk⟩, hxT, hxS⟩]) = kidsP pq ++ [⟨xnm, xp, xv, xm, xk⟩] := by simp
    have HPOST : Hid (∀ Wz, (∃ un ut xs T M' pv' Bp', GI w0.heap.size Mb Kb w B q (.func (.func 21) #[.agg FC] #[]) ((kidsP pq).map (·.nm) ++ [xnm]) ((tld (kidsP pq)).app (.cons ⟨#[]⟩ xv xm xk.flat .nil)) Wz un ut xs T M M' ((pre ++ behK (kidsP pq) q) ++ (behF xk.flat (bel q xnm) ++ [bel q xnm])) pv' Bp') → ∃ un ut xs T M' pv' Bp', GI w0.heap.size Mb Kb w B q (.func (.func 21) #[.agg FC] #[]) ((kidsP (pq ++ [⟨⟨xnm, xp, xv, xm, xk⟩, hxT, hxS⟩])).map (·.nm)) (tld (kidsP (pq ++ [⟨⟨xnm, xp, xv, xm, xk⟩, hxT, hxS⟩]))) Wz un ut xs T M M' (pre ++ behK (kidsP (pq ++ [⟨⟨xnm, xp, xv, xm, xk⟩, hxT, hxS⟩])) q) pv' Bp') := fun Wz h => by
      rw [e0, tld_app, behK_app, List.map_append, ← List.append_assoc]
      exact h
    have hcount : ((pre ++ behK (kidsP pq) q).length + xk.flat.size ≤ 50000 ∧ (kidsP pq).length ≤ 1000) := by
      rw [e0] at hpre
      have h1 := kidsF_pre hpre
      rw [kidsF_items] at h1
      have h2 : (kidsF (kidsP pq)).size + xk.flat.size + 1 ≤ (kidsF (kidsP pq ++ [⟨xnm, xp, xv, xm, xk⟩])).size := by
        generalize kidsP pq = l
        clear h1 hpre e0
        induction l with
        | nil => simp [kidsF, F.size]
        | cons z l ih => simp only [List.cons_append, kidsF, F.size]; omega
      have h3 : (kidsP pq).length ≤ (kidsF (kidsP pq)).size := by
        generalize kidsP pq = l
        clear h1 h2 hpre e0
        induction l with
        | nil => simp
        | cons z l ih => simp only [List.length_cons, kidsF, F.size]; omega
      have h4 := HH.out.2.2.2.2.2.2.1
      rw [List.length_append, behK_kids, behF_len]
      exact ⟨by omega, by omega⟩
    obtain ⟨hA, hGw, hMt, hnm, hkd, hqs, hsz, hpl, hN, hFC⟩ := HH.out
    obtain ⟨a1, a2, a3⟩ := kids_names (l := k.items) (by rw [kidsF_items]; exact hnm) _ hxS
    obtain ⟨a7, a8⟩ := kids_kinds (l := k.items) (by rw [kidsF_items]; exact hkd) _ hxS
    rw [kidsF_items] at a3
    have a4 := items_size _ hxS
    simp only at a1 a2 a3 a4 a7 a8
    have a5 := bel_size (q := q) a1
    have a6 := (name_len a1).2
    rw [tl_len] at a6
    have C55 : Hid (∀ W', Calls Tryz.prog 68 #[.string q, .string xnm] W' fun e w' => e = .returned (.string (bel q xnm)) ∧ w' = W') := fun W' => below_any q xnm W' (by omega)
    have C33 : Hid (∀ M2 pv2 Bp2 W', G w0 W' → Mt w0.heap.size Mb Kb (pre ++ behK (kidsP pq) q).length (pre ++ behK (kidsP pq) q) M2 W' pv2 Bp2 → Calls Tryz.prog 21 #[.agg FC, .string (bel q xnm), .pointer (some ⟨xp, 0, none⟩)] W' (TOut w0.heap.size Mb Kb ((pre ++ behK (kidsP pq) q) ++ (behF xk.flat (bel q xnm) ++ [bel q xnm])) M2 xv xm xk.flat W')) := fun M2 pv2 Bp2 W' hg hm => by
      rw [← hFC]
      exact HIH.out xk a4 xp xv xm (bel q xnm) (pre ++ behK (kidsP pq) q) M2 pv2 Bp2 W' hxT hg hm a2 a7 a8 (by omega) (by omega) hcount.1
    have hll := hcount.2
    have hl1 : ((kidsP pq).map (·.nm)).length ≤ 100000 := by rw [List.length_map]; omega
    have hl2 : (tld (kidsP pq)).len ≤ 100000 := by rw [tld_len]; omega
    have hGW : Hid (G w0 W) := by
      have h1 := hI.g.below (B := w0.heap.size) hGw.size fun b hb => (hMt.cls hb).2
      exact Below.trans (B := w0.heap.size) hGw h1
    clear hA hGw hMt hnm hkd hqs hsz hpl hN hFC a1 a2 a3 a4 a5 a6 a7 a8 hll hcount hpre e0
    generalize hLe : (kidsP pq).map (·.nm) = L at *
    generalize hfe : tld (kidsP pq) = fs at *
    generalize pre ++ behK (kidsP pq) q = pr at *
    obtain ⟨nl, hnl⟩ : ∃ nl, L.length = nl := ⟨_, rfl⟩
    obtain ⟨nf, hnf⟩ : ∃ nf, fs.len = nf := ⟨_, rfl⟩
    obtain ⟨bo, vc, rfl⟩ := owns_form hI.ot
    rw [hnf] at hI
    have HI := hid hI
    have HLL : Hid (nl ≤ 100000 ∧ nf ≤ 100000) := ⟨by omega, by omega⟩
    have hb3 : Boxed W (B + 3) 56 un := hI.vn
    have hc3 := hb3.cell
    have hon := hI.on
    rw [hnl] at hon
    obtain ⟨i9, hi9, hz90, hz91, hz92⟩ := info_parts Tryz.info9
    have hWs : B + 5 < W.heap.size := (Array.getElem?_eq_some_iff.1 hI.vt).1
    have HB3 := hid hb3
    have HNR : Hid (some (B + 3) ≠ un.ownBlock) := Boxed.not_row hb3 (by decide) hon
    clear hI hb3 hl1 hl2 hI5 hc5 hs5 hle5 hG5 hlen0 hloB
    gi_wp2_with (gi_at_builtin; refine wpListIn_append_own_at _ rfl _ _ 56 rfl (B + 2) 9 i9 (.string ⟨#[]⟩) 1 16 Tryz.underlying56 hi9 hz90 hz91 hz92 rfl (by decide) _ _ _ rfl (World.ownsRow.alloc hon _) ⟨W.heap.size, 0, none⟩ 1 1 [.string xnm] rfl rfl one_new (by simp [Value.oneCell']) (by have := HLL.out; unfold maxLen; omega) (by have := HLL.out; omega) (by simp; omega) ?_; intro v' w1 hown' hgrow _ hat; obtain ⟨g', cap', rfl⟩ := ownsRow_succ hown'; have hb1 : Boxed w1 (B + 3) 56 un := (HB3.out.alloc _).kept hgrow HNR.out; have hc1 := hb1.cell; have hf1 := hb1.frozen)
    have hg2 : (W.alloc (.cells #[.string xnm] 9)).grownBy w1 un.ownBlock := hgrow
    have hat2 : (Value.slice (some ⟨g', 0, none⟩) (nl + 1) cap').ownBlock = un.ownBlock ∨ (Value.slice (some ⟨g', 0, none⟩) (nl + 1) cap').ownBlock = some (W.alloc (.cells #[.string xnm] 9)).heap.size := hat
    obtain ⟨hI6, hk6⟩ := HI.out.name (by rw [hnl]; exact hown') hg2 hat2
    clear hgrow hat hown' hb1 hc1 hf1 hc3 hon hi9 hz90 hz91 hz92 hg2 hat2
    obtain ⟨UN, hUN⟩ : ∃ UN, Value.slice (some ⟨g', 0, none⟩) (nl + 1) cap' = UN := ⟨_, rfl⟩
    rw [hUN] at hI6 hk6 ⊢
    generalize w1.setCell ⟨B + 3, 0, none⟩ UN = W6 at *
    have HIn := hid hI6
    have HK6 := hid hk6
    have HGd : Hid (G w0 W6.drew) := by
      have h1 : Below w0.heap.size W W6 := hk6.below (by have := hGW.out.size; omega) fun b hb => by have := HI.out.lw.1; omega
      exact (Below.trans (B := w0.heap.size) hGW.out h1).drew
    clear hI6 hk6
    have HQ0 := hid (HIn.out.grow (G.drew W6))
    have hcl : ∀ W', G W6.drew W' → ClG B q FC bo nf vc W' := fun W' h => ⟨Boxed.cell (t := 28) (HQ0.out.grow h).vt, Boxed.cell (t := 81) (HQ0.out.grow h).b1, Boxed.cell (t := 9) (HQ0.out.grow h).b0⟩
    have hcl6 : ∀ c w', F6 w0.heap.size Mb Kb (pr ++ (behF xk.flat (bel q xnm) ++ [bel q xnm])) M1 xv xm xk.flat W6.drew c w' → ClG B q FC bo nf vc w' := fun c w' h => by
      obtain ⟨M2, pv2, B2, h1, h2, h3, h4⟩ := h
      have I := HQ0.out.thing h3 h2 h4
      exact ⟨Boxed.cell (t := 28) I.vt, Boxed.cell (t := 81) I.b1, Boxed.cell (t := 9) I.b0⟩
    refine regG B nf q xnm (bel q xnm) xp FC bo vc l (F6 w0.heap.size Mb Kb (pr ++ (behF xk.flat (bel q xnm) ++ [bel q xnm])) M1 xv xm xk.flat W6.drew) (F8 w0.heap.size Mb Kb (pr ++ (behF xk.flat (bel q xnm) ++ [bel q xnm])) M1 xv xm xk.flat W6.drew)
      (fun g cap c Wa => ∃ D w8, F8 w0.heap.size Mb Kb (pr ++ (behF xk.flat (bel q xnm) ++ [bel q xnm])) M1 xv xm xk.flat W6.drew D c w8 ∧ Wa.ownsRow (B + 2) 30 41 (.slice (some ⟨g, 0, none⟩) (nf + 1) cap) (nf + 1) (xs ++ z30.toList) ∧ w8.grownBy Wa (Value.slice bo nf vc).ownBlock ∧ ((Value.slice bo nf vc).ownBlock = some g ∨ g = w8.heap.size))
      _ W6 rfl rfl rfl rfl rfl rfl (hcl _ (G.refl _)) (hcl _ (G.alloc _ _)) hcl6 (fun D c w' h => hcl6 c w' h.1) C55.out ?hC0 ?hC1 ?hA ?hP ?hT1 ?hT2 ?hV1 ?hV2 ?hQ
    case hC0 =>
      refine (C33.out M1 pv1 Bp1 W6.drew HGd.out HQ0.out.st).mono ?_
      exact fun e w' h => h.to6 (G.refl _)
    case hC1 =>
      refine (C33.out M1 pv1 Bp1 _ (HGd.out.trans (G.alloc _ _)) (HQ0.out.st.up (G.alloc _ _))).mono ?_
      intro e w' h
      obtain ⟨c, e1, h6⟩ := h.to6 (G.alloc W6.drew (.cells z30 30))
      refine ⟨c, e1, h6, ?_⟩
      obtain ⟨c', M', pv', B', _, _, _, hk, _⟩ := h
      exact hk.lies (lies_new _ _ _) fun e => by have := HQ0.out.st.lt e; omega
    case hA => exact fun c w' h => ⟨h.up (G.alloc _ _), lies_new _ _ _⟩
    case hP =>
      intro D c w8 h o a ho e1 e2
      obtain ⟨M2, pv2, B2, _, h2, h3, h4⟩ := h.1
      have I := HQ0.out.thing h3 h2 h4
      have hot := I.ot
      rw [hnf] at hot
      obtain ⟨g, cap, Wa, r1, r2, r3, r4⟩ := exec_append30 (o := o) (a := a) (.tmp 32) (.tmp 40) ho (B + 2) nf (.slice bo nf vc) xs w8 e1 hot ⟨D, 0, none⟩ z30 e2 z30_size (fun j u hj => by rw [Addr.add_mid]; exact h.2 j u hj) (nc_one _ _ _ _ rfl) HLL.out.2 (by have := (Array.getElem?_eq_some_iff.1 I.vt).1; omega)
      exact ⟨g, cap, Wa, r1, D, w8, h, r2, r3, r4⟩
    case hT1 =>
      rintro r ⟨D, w8, h, ho, hg, hat⟩
      have hx : xs.length = nf * 41 := by have := ho.1; rw [List.length_append] at this; simp [z30_size] at this; omega
      obtain ⟨M2, pv2, B2, ⟨kv, e1, hk⟩, _⟩ := h.1
      refine ⟨owns_there ho _ _ (by simp [z30_size, hx]), by rw [e1]; exact nc_size .., ?_⟩
      obtain ⟨a1, c1, rfl, _⟩ := hk
      rw [e1]
      exact nc_one _ _ _ _ rfl
    case hT2 =>
      rintro r ⟨D, w8, h, ho, hg, hat⟩
      have hx : xs.length = nf * 41 := by have := ho.1; rw [List.length_append] at this; simp [z30_size] at this; omega
      obtain ⟨M2, pv2, B2, _, h2, h3, h4⟩ := h.1
      have I := HQ0.out.thing h3 h2 h4
      have hg5 : r.g ≠ B + 5 := by
        have := (Array.getElem?_eq_some_iff.1 I.vt).1
        rcases hat with e | e
        · exact (I.ut_ne e).2.2.2.1
        · omega
      exact owns_there (owns_other ho (Below.heap_setCell _ _ _ _ hg5)) _ _ (by simp [z30_size, hx])
    case hV1 =>
      rintro r ⟨D, w8, h, ho, hg, hat⟩
      obtain ⟨M2, pv2, B2, _, h2, h3, h4⟩ := h.1
      have I := HQ0.out.thing h3 h2 h4
      have hva : r.Wa.heap[B + 5]? = some (.cells #[.slice bo nf vc] 28 (0, 0)) := (hg.block (B + 5) (Array.getElem?_eq_some_iff.1 I.vt).1 (fun e => (I.ut_ne e.symm).2.2.2.1 rfl)).trans I.vt
      exact ⟨Boxed.cell (t := 28) hva, Boxed.frozen (t := 28) hva⟩
    case hV2 =>
      rintro r ⟨D, w8, h, ho, hg, hat⟩
      obtain ⟨M2, pv2, B2, _, h2, h3, h4⟩ := h.1
      have I := HQ0.out.thing h3 h2 h4
      have hg5 : r.g ≠ B + 5 := by
        have := (Array.getElem?_eq_some_iff.1 I.vt).1
        rcases hat with e | e
        · exact (I.ut_ne e).2.2.2.1
        · omega
      have hva : r.Wa.heap[B + 5]? = some (.cells #[.slice bo nf vc] 28 (0, 0)) := (hg.block (B + 5) (Array.getElem?_eq_some_iff.1 I.vt).1 (fun e => (I.ut_ne e.symm).2.2.2.1 rfl)).trans I.vt
      have hvc : (r.Wa.setCells r.g (nf * 41) r.c.toList).heap[B + 5]? = some (.cells #[.slice bo nf vc] 28 (0, 0)) := (setCells_block r.g _ _ _ _ (Ne.symm hg5)).trans hva
      exact ⟨Boxed.cell (t := 28) hvc, Boxed.frozen (t := 28) hvc⟩
    case hQ =>
      rintro r Wz ⟨D, w8, h, ho, hg, hat⟩ hw
      have hx : xs.length = nf * 41 := by have := ho.1; rw [List.length_append] at this; simp [z30_size] at this; omega
      obtain ⟨M2, pv2, B2, ⟨kv, e1, hk⟩, h2, h3, h4⟩ := h.1
      have I := HQ0.out.thing h3 h2 h4
      have hg5 : r.g ≠ B + 5 := by
        have := (Array.getElem?_eq_some_iff.1 I.vt).1
        rcases hat with e | e
        · exact (I.ut_ne e).2.2.2.1
        · omega
      have hva : r.Wa.heap[B + 5]? = some (.cells #[.slice bo nf vc] 28 (0, 0)) := (hg.block (B + 5) (Array.getElem?_eq_some_iff.1 I.vt).1 (fun e => (I.ut_ne e.symm).2.2.2.1 rfl)).trans I.vt
      have hL : Lef r.Wa Wz B r.g nf (.slice (some ⟨r.g, 0, none⟩) (nf + 1) r.cap) (xs ++ r.c.toList) := by
        rcases hw with rfl | rfl
        · exact lef_a ho hx hva hg5 (by rw [e1]; exact nc_size ..)
        · exact lef_b ho hx hva hg5 (by rw [e1]; exact nc_size ..)
      rw [e1] at hL
      obtain ⟨J, hkz⟩ := I.told (hi := W6.drew.heap.size) (v := xv) (m := xm) (kv := kv) (R := fun b => W6.drew.heap.size ≤ b ∧ ¬ M2 b ∧ Cls w8 b) hk (fun b hb => ⟨hb.1, hb.2.2, hb.2.1⟩) ⟨fun b e => by
        rcases e with e | e
        · exact (HQ0.out.un_ne e).2.1
        · exact (HQ0.out.ut_ne e).2.1, (Array.getElem?_eq_some_iff.1 HQ0.out.vt).1⟩ hg hat (by rw [hnf]; exact hL)
      rw [hnf] at J
      have hlo := HI.out.lw.1
      have s6 := HK6.out.size
      have sW := hGW.out.size
      have b1 : Below w0.heap.size W W6 := HK6.out.below sW fun b hb => by omega
      have b3 : Below w0.heap.size W6.drew w8 := h3.below HGd.out.size fun b hb => (HQ0.out.st.cls hb).2
      have b4 : Below w0.heap.size w8 Wz := hkz.below (by have := h3.size; have := HGd.out.size; omega) fun b hb => by omega
      exact .inl ⟨rfl, (((HK6.out.others fun b e => e.1).trans (KeepsOthers.drew W6)).trans (HQ0.out.st.others h3)).trans (hkz.others fun b e => e.1), (b1.drew.trans b3).trans b4, HPOST.out Wz ⟨_, _, _, _, _, _, _, J⟩⟩
  case done =>
    rintro D ys W hD hys ⟨un, ut, xs, T, M1, pv1, Bp1, hI⟩ hK
    have hys1 : kidsP ys = k.items := hys
    have hI1 := hI
    rw [hys1, nm_kids, tld_kids, behK_kids, kidsF_items] at hI1
    have HF := hid (⟨hI1, hK, hD⟩ : _ ∧ _ ∧ _)
    have HC : Hid (∀ W', G W W' → W'.cell? ⟨B + 3, 0, none⟩ = some un ∧ W'.cell? ⟨B + 5, 0, none⟩ = some ut) := fun W' h => ⟨Boxed.cell (t := 56) (hI1.grow h).vn, Boxed.cell (t := 28) (hI1.grow h).vt⟩
    have H56 := hid (⟨hs5, hle5⟩ : _ ∧ _)
    clear hI hI1 hK hys hys1 hD hI5 hc5 hs5 hle5 hG5 hlen0
    gi_wp2_with fail
    refine wp_region_II ?_
    refine takeII lets_wide 0 43 un rfl rfl (by kernel_rfl) (by kernel_rfl) (by kernel_rfl) (by kernel_rfl) (fun _ _ _ h => h) (by kernel_rfl) (fun wz hz => ?_) ?_
    · have y := (HC.out wz ((G.drew W).trans hz)).1; go_simp
    try simp only [Act.put, List.setIfInBounds_toArray, List.set_cons_zero, List.set_cons_succ]
    refine takeII lets_wide 1 44 ut rfl rfl (by kernel_rfl) (by kernel_rfl) (by kernel_rfl) (by kernel_rfl) (fun _ _ _ h => h) (by kernel_rfl) (fun wz hz => ?_) ?_
    · have y := (HC.out wz ((G.drew W).trans hz)).2; go_simp
    try simp only [Act.put, List.setIfInBounds_toArray, List.set_cons_zero, List.set_cons_succ]
    refine takeII lets_wide 2 6 un rfl rfl (by kernel_rfl) (by kernel_rfl) (by kernel_rfl) (by kernel_rfl) (fun _ _ _ h => h) (by kernel_rfl) (fun wz hz => ?_) ?_
    · go_simp
    try simp only [Act.put, List.setIfInBounds_toArray, List.set_cons_zero, List.set_cons_succ]
    refine takeII lets_wide 3 7 ut rfl rfl (by kernel_rfl) (by kernel_rfl) (by kernel_rfl) (by kernel_rfl) (fun _ _ _ h => h) (by kernel_rfl) (fun wz hz => ?_) ?_
    · go_simp
    try simp only [Act.put, List.setIfInBounds_toArray, List.set_cons_zero, List.set_cons_succ]
    refine doneII (by kernel_rfl) (fun W9 hg9 => ?_)
    gi_wp2_with fail
    obtain ⟨hI, hK, hwd⟩ := HF.out
    have hg : G W W9 := (G.drew W).trans hg9
    have hK9 : W9.heap[D]? = some (.deferred (some [])) := (Below.block hg D (Array.getElem?_eq_some_iff.1 hK).1).trans hK
    refine ⟨by simp, .inl ⟨_, _, rfl, run_takeDeferred hK9, ?_⟩⟩
    have hD2 : B + 2 ≤ D := by have := H56.out.1; omega
    have gI := (hI.grow hg).keep (W' := W9.putObj D (.deferred none)) ⟨rfl, rfl, rfl, by simp, fun b _ hb => World.putObj_heap_other fun e => hb ⟨fun ⟨o, ho, hc⟩ => (by rw [e, hK9] at ho; cases ho; cases hc), by omega⟩⟩
    have hBw : w.heap.size = B := hB
    have hon := gI.on
    have hot := gI.ot
    have hrc := gI.rc
    rw [F.nameL_len] at hon
    rw [F.blank_len] at hot
    refine ⟨_, results_tmp2 rfl _ _ _, un, ut, xs, T, M1, pv1, Bp1, rfl, gI.g, gI.st, by rw [hBw]; exact hon, by rw [hBw]; exact hot, hrc, fun b hb => ?_, fun b hb => ?_⟩
    · obtain ⟨t1, t2, t3, t4, t5, t6, t7⟩ := gI.tt b hb
      exact ⟨by omega, t2, t3, t4, t7⟩
    · obtain ⟨m1, m2, m3, _⟩ := gI.mm b hb
      exact ⟨m1.imp id fun e => by omega, m2, m3⟩
end Go.Proofs.YtbjjbgaomoihaaaGreatDoor
