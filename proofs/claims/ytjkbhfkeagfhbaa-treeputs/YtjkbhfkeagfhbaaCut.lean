/-
  children.cut and followed by contract.
-/
import Derived.Test.YtjkbhfkeagfhbaaSwap
import Derived.Test.YtjkbhfkeagfhbaaPutL
namespace Go.Proofs.Ytjkbhfkeagfhbaa
open Go.RowKit

section
variable {s1 s2 K : Nat} {ops : Array Oper} {Q : Exit → Act → World → Prop} {md : Region.Mode}
theorem doneS {s n : Nat} {listed : Array Bool} {a : Act} {w0 : World} (hr : Region.ready md ops listed = []) (h : ∀ w, G w0 w → Q .normal a w) : wpS s md ops Q n listed a w0 := by
  cases n with
  | zero => exact fun w hg => ⟨hr, h w hg⟩
  | succ n => exact fun w hg => ⟨fun _ => h w hg, fun i hi => by rw [hr] at hi; cases hi⟩
/-- each of these comes up next -/
def AllM (s1 s2 K : Nat) (md : Region.Mode) (ops : Array Oper) (Q : Exit → Act → World → Prop) (n : Nat) (listed : Array Bool) (a : Act) (w : World) (rs : List Nat) : Prop :=
  ∀ i ∈ rs, wpOp Try.prog ops Q i (fun a' w' => (i = s1 → GB K w w' ∧ wpS s2 md ops Q n (listed.setIfInBounds i true) a' w') ∧ (i ≠ s1 → G w w' ∧ wpM s1 s2 K md ops Q n (listed.setIfInBounds i true) a' w')) a w
theorem readyM (rs : List Nat) {n : Nat} {listed : Array Bool} {a : Act} {w0 : World} (hr : Region.ready md ops listed = rs) (hne : rs ≠ []) (h : ∀ w, G w0 w → AllM s1 s2 K md ops Q n listed a w rs) : wpM s1 s2 K md ops Q (n + 1) listed a w0 :=
  fun w hg => ⟨fun e => absurd (hr ▸ e) hne, hr ▸ h w hg⟩
theorem AllM.nil {n : Nat} {listed : Array Bool} {a : Act} {w : World} : AllM s1 s2 K md ops Q n listed a w [] := fun _ h => by cases h
theorem AllM.call (i d : Nat) {oi : Oper} {n : Nat} {listed : Array Bool} {a : Act} {w : World} {rs : List Nat} (f : FuncId) (args : Array Value) (hi : ops[i]? = some oi) (hd : oi.dst = some d) (his : i ≠ s1) (hw : Region.wanted oi (yielded ops a.tmps) = true)
    (hx : (execOp a.eval oi).run Try.prog w = .ok (.enter f args) w) (hc : Calls Try.prog f args w fun e w' => ∃ v, e = .returned v ∧ G w w' ∧ wpM s1 s2 K md ops Q n (listed.setIfInBounds i true) (a.put (some d) v) w')
    (hs : AllM s1 s2 K md ops Q n listed a w rs) : AllM s1 s2 K md ops Q n listed a w (i :: rs) := fun j hj => by
  rcases List.mem_cons.1 hj with rfl | hj
  · unfold Go.wpOp
    rw [hi]
    simp only [hw, if_true]
    left
    unfold Oper.wp
    rw [hx]
    refine Calls.mono hc ?_
    rintro e w' ⟨v, rfl, hg, h⟩
    rw [hd]
    exact ⟨fun e => absurd e his, fun _ => ⟨hg, h⟩⟩
  · exact hs j hj
theorem AllM.store {oi : Oper} {n : Nat} {listed : Array Bool} {a : Act} {w : World} {rs : List Nat} (w' : World) (hi : ops[s1]? = some oi) (hd : oi.dst = none) (hw : Region.wanted oi (yielded ops a.tmps) = true)
    (hx : (execOp a.eval oi).run Try.prog w = .ok .skip w') (hg : GB K w w') (h : wpS s2 md ops Q n (listed.setIfInBounds s1 true) a w')
    (hs : AllM s1 s2 K md ops Q n listed a w rs) : AllM s1 s2 K md ops Q n listed a w (s1 :: rs) := fun j hj => by
  rcases List.mem_cons.1 hj with rfl | hj
  · unfold Go.wpOp
    rw [hi]
    simp only [hw, if_true]
    left
    unfold Oper.wp
    rw [hx, Oper.upon_skip, hd]
    exact ⟨fun _ => ⟨hg, h⟩, fun e => absurd rfl e⟩
  · exact hs j hj
end
variable {P : Nat → Prop}
theorem GB.cell2 {K : Nat} {w w' : World} {a : Addr} {v : Value} (h : GB K w w') (hc : w.cell? a = some v) (hn : a.block ≠ K) : w'.cell? a = some v := h.cell hn hc
theorem AtF.but {K : Nat} {w w' : World} {u : Value} {f : F} (h : AtF P w u f) (hg : GB K w w') (hP : ∀ b, P b → b ≠ K) : AtF P w' u f :=
  (h.lt.keepP fun b hb => hg.block b hb.2 (hP b hb.1)).mono fun _ hb => hb.1
theorem AtTF.keepP {w w' : World} {p : Nat} {v : Vd} {m : Md} {f : F} (h : AtTF P w p v m f) (hb : ∀ b, P b → w'.heap[b]? = w.heap[b]?) : AtTF P w' p v m f := by
  obtain ⟨k, ⟨pk, h1, h2⟩, e, ha, hp⟩ := h
  refine ⟨k, ⟨pk, fun j u hj => ?_, h2.keepP hb ha⟩, e, ha, hp⟩
  have := h1 j u hj
  rw [← this]
  exact World.cell?_of_block (w := w) (hb p hp)
theorem AtTF.but {K : Nat} {w w' : World} {p : Nat} {v : Vd} {m : Md} {f : F} (h : AtTF P w p v m f) (hg : GB K w w') (hP : ∀ b, P b → b ≠ K) : AtTF P w' p v m f :=
  (h.lt.keepP fun b hb => hg.block b hb.2 (hP b hb.1)).mono fun _ hb => hb.1
/-- a variable of a child's kind -/
def Var109 (w : World) (g : Nat) (c : Array Value) : Prop := w.heap[g]? = some (.cells c 109 (0, 0))
theorem Var109.lies {w : World} {g : Nat} {c : Array Value} (h : Var109 w g c) : Lies w g 0 c := fun j u hj => by
  have h' : w.heap[g]? = some (.cells c 109 (0, 0)) := h
  simp only [World.cell?, h', Nat.zero_add]
  exact hj
theorem Var109.lt {w : World} {g : Nat} {c : Array Value} (h : Var109 w g c) : g < w.heap.size := (Array.getElem?_eq_some_iff.1 h).1
theorem Var109.grow {w w' : World} {g : Nat} {c : Array Value} (h : Var109 w g c) (hg : G w w') : Var109 w' g c := (Below.block hg g h.lt).trans h
theorem Var109.but {K : Nat} {w w' : World} {g : Nat} {c : Array Value} (h : Var109 w g c) (hg : GB K w w') (hn : g ≠ K) : Var109 w' g c := (hg.block g h.lt hn).trans h
def z109 : Array Value := #[.string ⟨#[]⟩, .pointer none]
theorem run_zero109 (w : World) : (zeroValue 109).run Try.prog w = .ok (.agg z109) w := by
  have h : (Try.prog.info? 109).bind (·.zero) = some (.agg z109) := by kernel_rfl
  cases hq : Try.prog.info? 109 with
  | none => rw [hq] at h; cases h
  | some i =>
    rw [hq] at h
    simp only [Option.bind_some] at h
    simp [zeroValue, typeInfo, hq, h]
theorem exec_alloc109 {o : Oper} {a : Act} (ho : o.op = .alloc 109) (w : World) : (execOp a.eval o).run Try.prog w = .ok (.value (.pointer (some ⟨w.heap.size, 0, none⟩))) (w.alloc (.cells z109 109)) := by
  unfold execOp
  simp only [ho, Instr.alloc, Sem.run_bind, run_zero109, Result.andThen_ok]
  simp [newVar, newRow, newObj, Value.cells]
  rfl
theorem size109 : (Try.prog.info? 109).map (·.size) = some 2 := by kernel_rfl
theorem under109 : Try.prog.underlying 109 = some (.struct (Try.prog.fieldsOf 109)) := by kernel_rfl
theorem exec_load109 {o : Oper} {a : Act} (x : Operand) (ho : o.op = .load 109 x) (g : Nat) (hx : a.eval x = .pointer (some ⟨g, 0, none⟩)) (c : Array Value) (hs : c.size = 2) {w : World} (h : Lies w g 0 c) : (execOp a.eval o).run Try.prog w = .ok (.value (.agg c)) w := by
  unfold execOp
  simp only [ho, hx, Sem.run_bind, Sem.run_pure, Result.andThen_ok, load_lies (w := w) (g := g) (o := 0) 109 _ under109 rfl (by rw [size109, hs]) h]
theorem exec_store109 {o : Oper} {a : Act} (x y : Operand) (ho : o.op = .store 109 x y) (g : Nat) (c old : Array Value) (hx : a.eval x = .pointer (some ⟨g, 0, none⟩)) (hy : a.eval y = .agg c) (w : World) (hg : Var109 w g old)
    (hs : c.size = 2) (hs' : old.size = 2) (h1 : c.all (·.oneCell') = true) : (execOp a.eval o).run Try.prog w = .ok .skip (w.setRow g c) := by
  unfold execOp
  simp only [ho, hx, hy, Instr.storeAt, Instr.sureAddr, Sem.run_bind, Sem.run_pure, Result.andThen_ok, run_storeVar_row (P := Try.prog) w g 109 109 old c hg (by rw [size109, hs]) (by rw [hs, hs']) h1]
theorem Var109.set {w : World} {g : Nat} {c old : Array Value} (h : Var109 w g old) : Var109 (w.setRow g c) g c := setRow_heap w g old c 109 _ h
theorem Var109.new (w : World) (c : Array Value) : Var109 (w.alloc (.cells c 109)) w.heap.size c := World.alloc_heap_new w _
theorem setRow_GB (w : World) (K : Nat) (c : Array Value) : GB K w (w.setRow K c) := But.setRow (But.refl _ w) c
theorem new_var109 (w : World) (c : Array Value) : G w ((w.alloc (.cells z109 109)).setRow w.heap.size c) ∧ Var109 ((w.alloc (.cells z109 109)).setRow w.heap.size c) w.heap.size c := by
  have h := (But.setRow (K := w.heap.size) ((But.refl _ w).alloc (.cells z109 109)) c)
  exact ⟨h.below (Nat.le_refl _) (Nat.le_refl _), setRow_heap _ _ z109 c 109 _ (World.alloc_heap_new w _)⟩
theorem results109 {fn : Func} {p u : Tmp} (h : fn.results = #[.cell p 109, .tmp u]) (tmps : Array Value) (w : World) (g : Nat) (cs : Array Value) (hp : tmps.getD p undef = .pointer (some ⟨g, 0, none⟩)) (hg : Var109 w g cs) (hs : cs.size = 2) :
    (results fn tmps).run Try.prog w = .ok (.tuple #[.agg cs, tmps.getD u undef]) w := by
  have hu : Try.prog.underlying 109 = some (.struct (Try.prog.fieldsOf 109)) := by kernel_rfl
  rw [results_cell_tmp h, hp]
  simp only [asAddr, Sem.run_pure, Result.andThen_ok, run_loadVar_row (P := Try.prog) w g 109 109 cs (0, 0) _ hg hu rfl (by rw [size109, hs])]
/-- a child's two cells -/
def ch (n : ByteArray) (p : Nat) : Array Value := #[.string n, .pointer (some ⟨p, 0, none⟩)]
theorem ch_size (n : ByteArray) (p : Nat) : (ch n p).size = 2 := rfl
theorem ch_one (n : ByteArray) (p : Nat) : (ch n p).all (·.oneCell') = true := by simp [ch, Value.oneCell']
theorem AtF.more {w : World} {q : Nat} {f : F} (h : AtF P w (.pointer (some ⟨q, 0, none⟩)) f) : ∃ n v m k r, f = .cons n v m k r := by
  obtain ⟨n, p1, v1, m1, f1, aa, ab, fa, fb, c0, c1, c2, c3, h1, ha, hb, rfl⟩ := h.node
  cases fa with
  | nil => exact ⟨_, _, _, _, _, rfl⟩
  | cons => exact ⟨_, _, _, _, _, rfl⟩
/-- what cut answers -/
def CutTo (P : Nat → Prop) (w : World) (n : ByteArray) (v : Vd) (m : Md) (k r : F) (e : Ending) (w' : World) : Prop := ∃ p au, e = .returned (.tuple #[.agg (ch n p), .pointer au]) ∧ AtTF P w' p v m k ∧ AtF P w' (.pointer au) r ∧ G w w'
set_option maxRecDepth 100000 in
set_option maxHeartbeats 2000000 in
theorem cut_any : ∀ (Z : Nat) (P : Nat → Prop) (n : ByteArray) (v : Vd) (m : Md) (k r : F) (q : Nat) (w : World), (F.cons n v m k r).size < Z → AtF P w (.pointer (some ⟨q, 0, none⟩)) (.cons n v m k r) → (F.cons n v m k r).size ≤ 900000 → (∀ b, w.heap.size ≤ b → P b) →
    Calls Try.prog 121 #[.pointer (some ⟨q, 0, none⟩)] w (CutTo P w n v m k r) := by
  intro Z
  induction Z with
  | zero => intro P n v m k r q w h; omega
  | succ Z ih =>
    intro P n v m k r q w hZ hq hs hP
    obtain ⟨n1, p1, v1, m1, f1, aa, ab, fa, fb, c0, c1, c2, c3, h1, ha, hb, hfe⟩ := hq.node
    have hqlt : q < w.heap.size := World.block_lt_of_cell? w _ c0
    obtain ⟨K, hK⟩ : ∃ K, w.heap.size = K := ⟨_, rfl⟩
    have hqK : q ≠ K := by omega
    have HG0 := hid (G.alloc w (.cells z109 109))
    have HV0 := hid (Var109.new w z109)
    have HP := hid hP
    replace c0 := HG0.out.cell c0
    replace c1 := HG0.out.cell c1
    replace c2 := HG0.out.cell c2
    replace c3 := HG0.out.cell c3
    rw [hK] at HV0
    have HK := hid hK
    have hsz := congrArg F.size hfe
    rw [F.app_size, F.size, F.size] at hsz
    rw [F.size] at hs hZ
    have HZ := hid (⟨hsz, hs, hZ⟩ : _ ∧ _ ∧ _)
    have HA := hid (⟨h1, ha, hb⟩ : AtTF P w p1 v1 m1 f1 ∧ AtF P w (.pointer aa) fa ∧ AtF P w (.pointer ab) fb)
    have HIH := hid ih
    clear ih hZ hs hsz hq hP h1 ha hb hqlt
    cases aa with
    | none =>
      obtain rfl := HA.out.2.1.isNil
      rw [F.app] at hfe
      injection hfe with e1 e2 e3 e4 e5
      subst e1 e2 e3 e4 e5
      go_enter Try.func121, Try.ntmps121
      go_upto_region 1 with (with_reducible refine wpList_execW (.pointer (some ⟨w.heap.size, 0, none⟩)) (w.alloc (.cells z109 109)) ?_ ?_ ?_; exact exec_alloc109 rfl _; kernel_rfl)
      try simp only [Act.put, List.setIfInBounds_toArray, List.set_cons_zero, List.set_cons_succ]
      generalize w.alloc (.cells z109 109) = w1 at *
      try rw [hK]
      clear hK
      go_upto_region 2 with fail
      refine wp_region_M 8 99 K ?_
      replace c0 := (G.drew w1).cell c0
      replace c1 := (G.drew w1).cell c1
      replace c3 := (G.drew w1).cell c3
      replace HV0 := hid (HV0.out.grow (G.drew w1))
      replace HG0 := hid (HG0.out.trans (G.drew w1))
      generalize w1.drew = w2 at *
      refine takeM 0 11 (.pointer (some ⟨q, 0, none⟩)) rfl rfl (by kernel_rfl) (by kernel_rfl) (by kernel_rfl) (by kernel_rfl) (by kernel_rfl) (fun _ _ _ h => h) (by kernel_rfl) (fun wz hz => ?_) ?_
      · rfl
      try simp only [Act.put, List.setIfInBounds_toArray, List.set_cons_zero, List.set_cons_succ]
      refine takeM 1 12 (.pointer (some ⟨q, 0, none⟩)) rfl rfl (by kernel_rfl) (by kernel_rfl) (by kernel_rfl) (by kernel_rfl) (by kernel_rfl) (fun _ _ _ h => h) (by kernel_rfl) (fun wz hz => ?_) ?_
      · go_simp
      try simp only [Act.put, List.setIfInBounds_toArray, List.set_cons_zero, List.set_cons_succ]
      refine takeM 2 13 (.pointer (some ⟨q, 0, none⟩)) rfl rfl (by kernel_rfl) (by kernel_rfl) (by kernel_rfl) (by kernel_rfl) (by kernel_rfl) (fun _ _ _ h => h) (by kernel_rfl) (fun wz hz => ?_) ?_
      · go_simp
      try simp only [Act.put, List.setIfInBounds_toArray, List.set_cons_zero, List.set_cons_succ]
      refine takeM 3 14 (.agg #[.string n, .pointer (some ⟨p1, 0, none⟩)]) rfl rfl (by kernel_rfl) (by kernel_rfl) (by kernel_rfl) (by kernel_rfl) (by kernel_rfl) (fun _ _ _ h => h) (by kernel_rfl) (fun wz hz => ?_) ?_
      · have y0 := hz.cell2 c0 hqK; have y1 := hz.cell2 c1 hqK; go_simp
      try simp only [Act.put, List.setIfInBounds_toArray, List.set_cons_zero, List.set_cons_succ]
      refine takeM 4 15 (.pointer (some ⟨q, 0, none⟩)) rfl rfl (by kernel_rfl) (by kernel_rfl) (by kernel_rfl) (by kernel_rfl) (by kernel_rfl) (fun _ _ _ h => h) (by kernel_rfl) (fun wz hz => ?_) ?_
      · rfl
      try simp only [Act.put, List.setIfInBounds_toArray, List.set_cons_zero, List.set_cons_succ]
      refine takeM 5 16 (.pointer (some ⟨q, 0, none⟩)) rfl rfl (by kernel_rfl) (by kernel_rfl) (by kernel_rfl) (by kernel_rfl) (by kernel_rfl) (fun _ _ _ h => h) (by kernel_rfl) (fun wz hz => ?_) ?_
      · go_simp
      try simp only [Act.put, List.setIfInBounds_toArray, List.set_cons_zero, List.set_cons_succ]
      refine takeM 6 17 (.pointer (some ⟨q, 3, none⟩)) rfl rfl (by kernel_rfl) (by kernel_rfl) (by kernel_rfl) (by kernel_rfl) (by kernel_rfl) (fun _ _ _ h => h) (by kernel_rfl) (fun wz hz => ?_) ?_
      · go_simp
      try simp only [Act.put, List.setIfInBounds_toArray, List.set_cons_zero, List.set_cons_succ]
      refine takeM 7 18 (.pointer ab) rfl rfl (by kernel_rfl) (by kernel_rfl) (by kernel_rfl) (by kernel_rfl) (by kernel_rfl) (fun _ _ _ h => h) (by kernel_rfl) (fun wz hz => ?_) ?_
      · have y0 := hz.cell2 c3 hqK; go_simp
      try simp only [Act.put, List.setIfInBounds_toArray, List.set_cons_zero, List.set_cons_succ]
      refine storeM rfl rfl (by kernel_rfl) (by kernel_rfl) (fun w3 hg3 => ?_)
      refine ⟨w3.setRow K (ch n p1), exec_store109 _ _ rfl K (ch n p1) z109 rfl rfl _ (HV0.out.grow hg3) (ch_size ..) rfl (ch_one ..), setRow_GB _ _ _, ?_⟩
      have HV3 : Hid (Var109 (w3.setRow K (ch n p1)) K (ch n p1)) := (HV0.out.grow hg3).set
      have HG3 : Hid (G w (w3.setRow K (ch n p1))) := Below.trans (B := w.heap.size) (HG0.out.trans hg3) ((setRow_GB w3 K (ch n p1)).below (Nat.le_of_eq HK.out) (by have := (HG0.out.trans hg3).size; exact this))
      generalize w3.setRow K (ch n p1) = w4 at *
      clear hg3
      refine takeS 9 3 (.pointer ab) rfl rfl (by kernel_rfl) (by kernel_rfl) (by kernel_rfl) (by kernel_rfl) (fun _ _ _ h => h) (by kernel_rfl) (fun wz hz => ?_) ?_
      · rfl
      try simp only [Act.put, List.setIfInBounds_toArray, List.set_cons_zero, List.set_cons_succ]
      refine doneS (by kernel_rfl) (fun w9 hg9 => ?_)
      replace HV3 := hid (HV3.out.grow hg9)
      replace HG3 := hid (HG3.out.trans hg9)
      clear hg9 c0 c1 c2 c3
      go_wp2_with fail
      refine bodyPost_ret (results109 (p := 2) (u := 3) rfl _ _ K (ch n p1) rfl HV3.out (ch_size ..)) rfl ?_
      exact ⟨p1, ab, rfl, HA.out.1.grow HG3.out, HA.out.2.2.grow HG3.out, HG3.out⟩
    | some a =>
      obtain ⟨qa, rfl⟩ := HA.out.2.1.addr
      obtain ⟨n0, v0, m0, k0, r0, rfl⟩ := HA.out.2.1.more
      rw [F.app] at hfe
      injection hfe with e1 e2 e3 e4 e5
      subst e1 e2 e3 e4
      have HR := hid e5
      clear e5
      have hP2 : ∀ b, (w.alloc (.cells z109 109)).heap.size ≤ b → P b ∧ b ≠ K := fun b hb => by
        rw [World.size_alloc] at hb
        exact ⟨HP.out b (by omega), by omega⟩
      have up : ∀ b, P b ∧ b < w.heap.size → P b ∧ b ≠ K := fun b hb => ⟨hb.1, by omega⟩
      have HB := hid (⟨HA.out.1.lt.mono up, HA.out.2.1.lt.mono up, HA.out.2.2.lt.mono up⟩ : AtTF (fun b => P b ∧ b ≠ K) w p1 v1 m1 f1 ∧ AtF (fun b => P b ∧ b ≠ K) w (.pointer (some ⟨qa, 0, none⟩)) (.cons n v m k r0) ∧ AtF (fun b => P b ∧ b ≠ K) w (.pointer ab) fb)
      have C1 := HIH.out (fun b => P b ∧ b ≠ K) n v m k r0 qa (w.alloc (.cells z109 109)) (by have := HZ.out; rw [F.size] at this ⊢; omega) (HB.out.2.1.grow HG0.out) (by have := HZ.out; rw [F.size] at this ⊢; omega) hP2
      clear HIH up hP2
      go_enter Try.func121, Try.ntmps121
      go_upto_region 1 with (with_reducible refine wpList_execW (.pointer (some ⟨w.heap.size, 0, none⟩)) (w.alloc (.cells z109 109)) ?_ ?_ ?_; exact exec_alloc109 rfl _; kernel_rfl)
      try simp only [Act.put, List.setIfInBounds_toArray, List.set_cons_zero, List.set_cons_succ]
      generalize w.alloc (.cells z109 109) = w1 at *
      try rw [hK]
      clear hK
      go_upto_region 3 with fail
      go_wp2_with fail
      refine C1.mono ?_
      rintro e w2 ⟨p, au, rfl, ht, hr2, hg2⟩
      have hn := new_var109 w2 (ch n p)
      have hV2 : Var109 (w2.alloc (.cells z109 109)) w2.heap.size z109 := Var109.new w2 z109
      have H2 := hid (⟨ht, hr2, hg2, hV2, hn⟩ : _ ∧ _ ∧ _ ∧ _ ∧ _)
      clear C1 ht hr2 hg2 hV2 hn
      go_upto_region 4 with (first
        | ((with_reducible refine wpList_execW (.pointer (some ⟨w2.heap.size, 0, none⟩)) (w2.alloc (.cells z109 109)) ?_ ?_ ?_); exact exec_alloc109 rfl _; kernel_rfl)
        | ((with_reducible refine wpList_skipW ((w2.alloc (.cells z109 109)).setRow w2.heap.size (ch n p)) ?_ ?_ ?_); exact exec_store109 _ _ rfl w2.heap.size _ z109 rfl rfl _ H2.out.2.2.2.1 (ch_size ..) rfl (ch_one ..); kernel_rfl))
      try simp only [Act.put, List.setIfInBounds_toArray, List.set_cons_zero, List.set_cons_succ]
      have HKK : Hid (w2.heap.size ≠ K) := by have := HV0.out.lt; have := H2.out.2.2.1.size; show w2.heap.size ≠ K; omega
      have hgA := H2.out.2.2.1.trans (H2.out.2.2.2.2.1.trans (G.drew _))
      have H3 := hid (⟨H2.out.1.grow (H2.out.2.2.2.2.1.trans (G.drew _)), H2.out.2.1.grow (H2.out.2.2.2.2.1.trans (G.drew _)), HB.out.1.grow (HG0.out.trans hgA), HB.out.2.2.grow (HG0.out.trans hgA), H2.out.2.2.2.2.2.grow (G.drew _), HV0.out.grow hgA, HG0.out.trans hgA⟩ : _ ∧ _ ∧ _ ∧ _ ∧ _ ∧ _ ∧ _)
      replace c0 := hgA.cell c0
      replace c1 := hgA.cell c1
      replace c3 := hgA.cell c3
      clear hgA H2 HG0 HV0 HB c2
      refine wp_region_M 11 99 K ?_
      generalize ((w2.alloc (.cells z109 109)).setRow w2.heap.size (ch n p)).drew = w3 at *
      generalize w2.heap.size = g at *
      refine takeM 0 27 (.agg (ch n p)) rfl rfl (by kernel_rfl) (by kernel_rfl) (by kernel_rfl) (by kernel_rfl) (by kernel_rfl) (fun _ _ _ h => h) (by kernel_rfl) (fun wz hz => ?_) ?_
      · exact exec_load109 _ rfl g rfl (ch n p) rfl (H3.out.2.2.2.2.1.but hz HKK.out).lies
      try simp only [Act.put, List.setIfInBounds_toArray, List.set_cons_zero, List.set_cons_succ]
      refine takeM 1 28 (.pointer au) rfl rfl (by kernel_rfl) (by kernel_rfl) (by kernel_rfl) (by kernel_rfl) (by kernel_rfl) (fun _ _ _ h => h) (by kernel_rfl) (fun wz hz => ?_) ?_
      · rfl
      try simp only [Act.put, List.setIfInBounds_toArray, List.set_cons_zero, List.set_cons_succ]
      refine takeM 2 29 (.pointer (some ⟨q, 0, none⟩)) rfl rfl (by kernel_rfl) (by kernel_rfl) (by kernel_rfl) (by kernel_rfl) (by kernel_rfl) (fun _ _ _ h => h) (by kernel_rfl) (fun wz hz => ?_) ?_
      · rfl
      try simp only [Act.put, List.setIfInBounds_toArray, List.set_cons_zero, List.set_cons_succ]
      refine takeM 3 30 (.pointer (some ⟨q, 0, none⟩)) rfl rfl (by kernel_rfl) (by kernel_rfl) (by kernel_rfl) (by kernel_rfl) (by kernel_rfl) (fun _ _ _ h => h) (by kernel_rfl) (fun wz hz => ?_) ?_
      · go_simp
      try simp only [Act.put, List.setIfInBounds_toArray, List.set_cons_zero, List.set_cons_succ]
      refine takeM 4 31 (.pointer (some ⟨q, 0, none⟩)) rfl rfl (by kernel_rfl) (by kernel_rfl) (by kernel_rfl) (by kernel_rfl) (by kernel_rfl) (fun _ _ _ h => h) (by kernel_rfl) (fun wz hz => ?_) ?_
      · go_simp
      try simp only [Act.put, List.setIfInBounds_toArray, List.set_cons_zero, List.set_cons_succ]
      refine takeM 5 32 (.agg #[.string n1, .pointer (some ⟨p1, 0, none⟩)]) rfl rfl (by kernel_rfl) (by kernel_rfl) (by kernel_rfl) (by kernel_rfl) (by kernel_rfl) (fun _ _ _ h => h) (by kernel_rfl) (fun wz hz => ?_) ?_
      · have y0 := hz.cell2 c0 hqK; have y1 := hz.cell2 c1 hqK; go_simp
      try simp only [Act.put, List.setIfInBounds_toArray, List.set_cons_zero, List.set_cons_succ]
      refine takeM 6 33 (.pointer (some ⟨q, 0, none⟩)) rfl rfl (by kernel_rfl) (by kernel_rfl) (by kernel_rfl) (by kernel_rfl) (by kernel_rfl) (fun _ _ _ h => h) (by kernel_rfl) (fun wz hz => ?_) ?_
      · rfl
      try simp only [Act.put, List.setIfInBounds_toArray, List.set_cons_zero, List.set_cons_succ]
      refine takeM 7 34 (.pointer (some ⟨q, 0, none⟩)) rfl rfl (by kernel_rfl) (by kernel_rfl) (by kernel_rfl) (by kernel_rfl) (by kernel_rfl) (fun _ _ _ h => h) (by kernel_rfl) (fun wz hz => ?_) ?_
      · go_simp
      try simp only [Act.put, List.setIfInBounds_toArray, List.set_cons_zero, List.set_cons_succ]
      refine takeM 8 35 (.pointer (some ⟨q, 3, none⟩)) rfl rfl (by kernel_rfl) (by kernel_rfl) (by kernel_rfl) (by kernel_rfl) (by kernel_rfl) (fun _ _ _ h => h) (by kernel_rfl) (fun wz hz => ?_) ?_
      · go_simp
      try simp only [Act.put, List.setIfInBounds_toArray, List.set_cons_zero, List.set_cons_succ]
      refine takeM 9 36 (.pointer ab) rfl rfl (by kernel_rfl) (by kernel_rfl) (by kernel_rfl) (by kernel_rfl) (by kernel_rfl) (fun _ _ _ h => h) (by kernel_rfl) (fun wz hz => ?_) ?_
      · have y0 := hz.cell2 c3 hqK; go_simp
      try simp only [Act.put, List.setIfInBounds_toArray, List.set_cons_zero, List.set_cons_succ]
      have hPK : ∀ b, (fun b => P b ∧ b ≠ K) b → b ≠ K := fun b hb => hb.2
      have HE : Hid (∀ W, GB K w3 W → Calls Try.prog 105 #[.pointer au, .agg #[.string n1, .pointer (some ⟨p1, 0, none⟩)], .pointer ab] W (EvenTo (fun b => P b ∧ b ≠ K) W r)) := fun W hW => by
        have hsw := H3.out.2.2.2.2.2.2.size
        rw [HR.out]
        exact even_any (nm := n1) (H3.out.2.1.but hW hPK) (H3.out.2.2.2.1.but hW hPK) (H3.out.2.2.1.but hW hPK) (by have := HZ.out; rw [F.size] at this; omega) (fun b hb => by have := hW.size; have hKl := H3.out.2.2.2.2.2.1.lt; exact ⟨HP.out b (by omega), by omega⟩)
      have HGw : Hid (∀ W, GB K w3 W → G w W) := fun W hW => Below.trans (B := w.heap.size) H3.out.2.2.2.2.2.2 (But.below hW (Nat.le_of_eq HK.out) H3.out.2.2.2.2.2.2.size)
      have HT : Hid (∀ W, GB K w3 W → AtTF P W p v m k) := fun W hW => (H3.out.1.but hW hPK).mono fun b hb => hb.1
      have HVK := hid H3.out.2.2.2.2.2.1
      clear hPK H3 HA HR c0 c1 c3
      refine readyM [10] (by kernel_rfl) (by simp) (fun w4 hg4 => ?_)
      refine AllM.call 10 37 105 #[.pointer au, .agg #[.string n1, .pointer (some ⟨p1, 0, none⟩)], .pointer ab] rfl rfl (by decide) (by kernel_rfl) (by go_simp) ?_ AllM.nil
      · refine (HE.out w4 (GB.of hg4)).mono ?_
        rintro e w5 ⟨q2, rfl, hq2, hg5⟩
        refine ⟨_, rfl, hg5, ?_⟩
        try simp only [Act.put, List.setIfInBounds_toArray, List.set_cons_zero, List.set_cons_succ]
        refine storeM rfl rfl (by kernel_rfl) (by kernel_rfl) (fun w6 hg6 => ?_)
        have hgB := (hg4.trans hg5).trans hg6
        refine ⟨w6.setRow K (ch n p), exec_store109 _ _ rfl K (ch n p) z109 rfl rfl _ (HVK.out.grow hgB) (ch_size ..) rfl (ch_one ..), setRow_GB _ _ _, ?_⟩
        have HV3 : Hid (Var109 (w6.setRow K (ch n p)) K (ch n p)) := (HVK.out.grow hgB).set
        have hB1 : GB K w3 (w6.setRow K (ch n p)) := (GB.of hgB).trans (setRow_GB _ _ _)
        have hB2 : GB K w5 (w6.setRow K (ch n p)) := (GB.of hg6).trans (setRow_GB _ _ _)
        have HF := hid (⟨HGw.out _ hB1, HT.out _ hB1, (hq2.but hB2 fun b hb => hb.2).mono fun b hb => hb.1⟩ : _ ∧ _ ∧ _)
        generalize w6.setRow K (ch n p) = w7 at *
        clear hB1 hB2 hgB hg4 hg5 hg6 hq2
        refine takeS 12 3 (.pointer (some ⟨q2, 0, none⟩)) rfl rfl (by kernel_rfl) (by kernel_rfl) (by kernel_rfl) (by kernel_rfl) (fun _ _ _ h => h) (by kernel_rfl) (fun wz hz => ?_) ?_
        · rfl
        try simp only [Act.put, List.setIfInBounds_toArray, List.set_cons_zero, List.set_cons_succ]
        refine doneS (by kernel_rfl) (fun w9 hg9 => ?_)
        replace HV3 := hid (HV3.out.grow hg9)
        replace HF := hid (⟨HF.out.1.trans hg9, HF.out.2.1.grow hg9, HF.out.2.2.grow hg9⟩ : _ ∧ _ ∧ _)
        clear hg9
        go_wp2_with fail
        refine bodyPost_ret (results109 (p := 2) (u := 3) rfl _ _ K (ch n p) rfl HV3.out (ch_size ..)) rfl ?_
        exact ⟨p, _, rfl, HF.out.2.1, HF.out.2.2, HF.out.1⟩
end Go.Proofs.Ytjkbhfkeagfhbaa
