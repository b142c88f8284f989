import Derived.Test.YtbjjbgaomoihaaaGreatDoorWays
set_option maxRecDepth 100000
set_option maxHeartbeats 2000000
namespace Go.Proofs.YtbjjbgaomoihaaaGreatDoor
open Go.RowKit
def wpS (s : Nat) (md : Region.Mode) (ops : Array Oper) (Q : Exit → Act → World → Prop) : Nat → Array Bool → Act → World → Prop
  | 0, listed, a, w0 => ∀ w, G w0 w → Region.ready md ops listed = [] ∧ Q .normal a w
  | n + 1, listed, a, w0 => ∀ w, G w0 w → (Region.ready md ops listed = [] → Q .normal a w) ∧
    ∀ i ∈ Region.ready md ops listed, wpOp Tryz.prog ops Q i (fun a' w' => (i = s → Region.ready md ops (listed.setIfInBounds i true) = [] ∧ Q .normal a' w') ∧ (i ≠ s → G w w' ∧ wpS s md ops Q n (listed.setIfInBounds i true) a' w')) a w
theorem wpS.grow {s : Nat} {md : Region.Mode} {ops : Array Oper} {Q : Exit → Act → World → Prop} {n : Nat} {listed : Array Bool} {a : Act} {w w' : World} (h : wpS s md ops Q n listed a w) (hg : G w w') : wpS s md ops Q n listed a w' := by
  cases n with
  | zero => exact fun x hx => h x (hg.trans hx)
  | succ n => exact fun x hx => h x (hg.trans hx)
theorem any_none {md : Region.Mode} {ops : Array Oper} {Q : Exit → Act → World → Prop} {listed : Array Bool} {a : Act} {w : World} (hr : Region.ready md ops listed = []) (h : Q .normal a w) : ∀ n, wpAny Tryz.prog md ops Q n listed a w
  | 0 => ⟨hr, h⟩
  | n + 1 => ⟨fun _ => h, fun i hi => by rw [hr] at hi; cases hi⟩
theorem wpS.any {s : Nat} {md : Region.Mode} {ops : Array Oper} {Q : Exit → Act → World → Prop} : ∀ (n : Nat) (listed : Array Bool) (a : Act) (w : World), wpS s md ops Q n listed a w → wpAny Tryz.prog md ops Q n listed a w
  | 0, _, _, w, h => h w (G.refl w)
  | n + 1, _, _, w, h => ⟨(h w (G.refl w)).1, fun i hi => wpOp_mono (fun a' w' h' => by
      by_cases e : i = s
      · exact any_none (h'.1 e).1 (h'.1 e).2 n
      · exact wpS.any n _ a' w' (h'.2 e).2) ((h w (G.refl w)).2 i hi)⟩
theorem wpS_first {s : Nat} {md : Region.Mode} {ops : Array Oper} {Q : Exit → Act → World → Prop} {i : Nat} {oi : Oper} {v : Value} (hi : ops[i]? = some oi) (hsel : ∀ (j : Nat) (o : Oper) cs b, ops[j]? = some o → o.op ≠ .select cs b)
    (hQ : ∀ c a w, Q (.panic c) (a.put oi.dst v) w → Q (.panic c) a w) (his : i ≠ s) (hdep : ∀ os, ops[s]? = some os → ∃ e ∈ os.after, Region.binds md e = true ∧ e.on = i) :
    ∀ (n : Nat) (listed : Array Bool) (a : Act) (w0 : World), (∀ j oj, ops[j]? = some oj → j ≠ i → listed.getD j true = false → (∀ e ∈ oj.after, Region.binds md e = true → e.on ≠ i) → oi.apart ops oj = true) →
      i ∈ Region.ready md ops listed → YieldsG ops w0 oi v a → wpS s md ops Q n (listed.setIfInBounds i true) (a.put oi.dst v) w0 → wpS s md ops Q (n + 1) listed a w0 := by
  intro n
  induction n with
  | zero =>
    intro listed a w0 _ hr hy H w hg
    refine ⟨fun e => (by rw [e] at hr; cases hr), fun j hj => ?_⟩
    by_cases hji : j = i
    · subst hji
      exact hy.wpOp hi hg fun w' hg' => ⟨fun e => absurd e his, fun _ => ⟨hg', fun x hx => H x ((hg.trans hg').trans hx)⟩⟩
    · have := ready_mono hj hji
      rw [(H w hg).1] at this
      cases this
  | succ n ih =>
    intro listed a w0 hfree hr hy H w hg
    refine ⟨fun e => (by rw [e] at hr; cases hr), fun j hj => ?_⟩
    by_cases hji : j = i
    · subst hji
      exact hy.wpOp hi hg fun w' hg' => ⟨fun e => absurd e his, fun _ => ⟨hg', H.grow (hg.trans hg')⟩⟩
    · obtain ⟨hun, oj, hoj, hall⟩ := mem_ready.1 hj
      have hlist : ∀ e ∈ oj.after, Region.binds md e = true → e.on ≠ i := fun e he hb heq => by
        have h1 := hall e he hb
        rw [heq] at h1
        have h0 := (mem_ready.1 hr).1
        by_cases hlt : i < listed.size
        · simp [Array.getD, hlt] at h0 h1
          rw [h0] at h1
          cases h1
        · simp [Array.getD, hlt] at h1
      have hjs : j ≠ s := fun e => by
        subst e
        obtain ⟨e, he, hb, heq⟩ := hdep oj hoj
        exact hlist e he hb heq
      have h2 := wpOp_before hoj (hfree j oj hoj hji hun hlist) (fun cs b => hsel i oi cs b hi) (fun cs b => hsel j oj cs b hoj) hQ hy ((H w hg).2 j (ready_mono hj hji))
      refine wpOp_mono (fun a' w' h3 => ⟨fun e => absurd e hjs, fun _ => ⟨(h3.2.2 hjs).1, ih (listed.setIfInBounds j true) a' w' ?_ (ready_mono hr (Ne.symm hji)) (h3.1.mono (hg.trans (h3.2.2 hjs).1)) ?_⟩⟩) h2
      · intro k ok hk hki hunk hnok
        refine hfree k ok hk hki ?_ hnok
        by_cases hjk : j = k
        · subst hjk; exact hun
        · rwa [getD_set_ne true hjk] at hunk
      · rw [Array.setIfInBounds_comm _ _ hji]
        exact (h3.2.2 hjs).2
section
variable {s : Nat} {ops : Array Oper} {Q : Exit → Act → World → Prop} {md : Region.Mode}
def depsOn (md : Region.Mode) (ops : Array Oper) (s i : Nat) : Bool := (i != s) && (match ops[s]? with | some os => os.after.any fun e => Region.binds md e && e.on == i | none => true)
theorem depsOn_spec {i : Nat} (h : depsOn md ops s i = true) : i ≠ s ∧ ∀ os, ops[s]? = some os → ∃ e ∈ os.after, Region.binds md e = true ∧ e.on = i := by
  unfold depsOn at h
  simp only [Bool.and_eq_true, bne_iff_ne] at h
  refine ⟨h.1, fun os ho => ?_⟩
  have h2 := h.2
  rw [ho] at h2
  simp only [Array.any_eq_true', Bool.and_eq_true, beq_iff_eq] at h2
  obtain ⟨e, he, hb, hon⟩ := h2
  exact ⟨e, he, hb, hon⟩
theorem wp_region_S (s : Nat) {id : Nat} {a : Act} {w : World} (h : wpS s .any ops Q ops.size (Array.replicate ops.size false) a w.drew) : (Code.region id ops true).wp Tryz.prog Q a w :=
  wp_region_any (by kernel_rfl) (wpS.any _ _ _ _ h)
theorem takeS (i d : Nat) (v : Value) {oi : Oper} {n : Nat} {listed : Array Bool} {a : Act} {w0 : World} (hi : ops[i]? = some oi) (hd : oi.dst = some d)
    (hs : Region.noSelect ops = true) (hf : Region.free md ops listed i = true) (hr : (Region.ready md ops listed).contains i = true) (hp : depsOn md ops s i = true)
    (hQ : ∀ c a w, Q (.panic c) (a.put (some d) v) w → Q (.panic c) a w) (hw : Region.wanted oi (yielded ops a.tmps) = true) (hy : ∀ w, G w0 w → (execOp a.eval oi).run Tryz.prog w = .ok (.value v) w)
    (h : wpS s md ops Q n (listed.setIfInBounds i true) (a.put (some d) v) w0) : wpS s md ops Q (n + 1) listed a w0 :=
  wpS_first hi (Region.noSelect_spec hs) (by rw [hd]; exact hQ) (depsOn_spec hp).1 (depsOn_spec hp).2 n listed a w0 (Region.free_spec hi hf) (by simpa using hr)
    (.inl ⟨hw, fun w hg => by unfold Oper.quietAt; rw [hy w hg]; exact ⟨rfl, rfl⟩⟩) (by rw [hd]; exact h)
theorem nextS (i d : Nat) {oi : Oper} {n : Nat} {listed : Array Bool} {a : Act} {w0 : World} (f : FuncId) (args : Array Value) (hi : ops[i]? = some oi) (hd : oi.dst = some d) (his : i ≠ s) (hr : Region.ready md ops listed = [i]) (hw : Region.wanted oi (yielded ops a.tmps) = true)
    (hx : ∀ w, (execOp a.eval oi).run Tryz.prog w = .ok (.enter f args) w) (hc : ∀ w, G w0 w → Calls Tryz.prog f args w fun e w' => ∃ v, e = .returned v ∧ G w w' ∧ wpS s md ops Q n (listed.setIfInBounds i true) (a.put (some d) v) w') : wpS s md ops Q (n + 1) listed a w0 := fun w hg => by
  refine ⟨fun e => (by rw [hr] at e; cases e), fun j hj => ?_⟩
  rw [hr] at hj
  obtain rfl : j = i := by simpa using hj
  unfold Go.wpOp
  rw [hi]
  simp only [hw, if_true]
  left
  unfold Oper.wp
  rw [hx]
  refine Calls.mono (hc w hg) ?_
  rintro e w' ⟨v, rfl, hg', h⟩
  rw [hd]
  exact ⟨fun e => absurd e his, fun _ => ⟨hg', h⟩⟩
theorem lastS {oi : Oper} {n : Nat} {listed : Array Bool} {a : Act} {w0 : World} (hi : ops[s]? = some oi) (hd : oi.dst = none) (hr : Region.ready md ops listed = [s]) (hr2 : Region.ready md ops (listed.setIfInBounds s true) = []) (hw : Region.wanted oi (yielded ops a.tmps) = true)
    (hx : ∀ w, G w0 w → ∃ w', (execOp a.eval oi).run Tryz.prog w = .ok .skip w' ∧ Q .normal a w') : wpS s md ops Q (n + 1) listed a w0 := fun w hg => by
  refine ⟨fun e => (by rw [hr] at e; cases e), fun j hj => ?_⟩
  rw [hr] at hj
  obtain rfl : j = s := by simpa using hj
  unfold Go.wpOp
  rw [hi]
  simp only [hw, if_true]
  left
  unfold Oper.wp
  obtain ⟨w', h1, h2⟩ := hx w hg
  rw [h1, Oper.upon_skip, hd]
  exact ⟨fun _ => ⟨hr2, h2⟩, fun e => absurd rfl e⟩
end
def putT : T3 → List ByteArray → T3 → T3
  | _, [], s => s
  | t, nm :: L, s => (t.1, t.2.1, t.2.2.put nm (putT ((t.2.2.get nm).getD s) L s).1 (putT ((t.2.2.get nm).getD s) L s).2.1 (putT ((t.2.2.get nm).getD s) L s).2.2)
def wayTo : T3 → List ByteArray → Prop
  | _, [] => True
  | t, nm :: L => L = [] ∨ ∃ s, t.2.2.get nm = some s ∧ wayTo s L
theorem wayTo_of : ∀ {t : T3} {L : List ByteArray} {x : T3}, dn t L.dropLast = some x → wayTo t L
  | _, [], _, _ => trivial
  | t, [nm], _, _ => .inl rfl
  | t, nm :: b :: L, x, h => by
    rw [List.dropLast_cons_of_ne_nil (by simp), dn] at h
    cases hg : t.2.2.get nm with
    | none => rw [hg] at h; cases h
    | some s => rw [hg] at h; exact .inr ⟨s, hg, wayTo_of h⟩
theorem F.put_get {nm : ByteArray} {v : Vd} {m : Md} {fk : F} : ∀ {f : F}, f.rises → (f.put nm v m fk).size + (match f.get nm with | none => 0 | some t => t.2.2.size + 1) = f.size + fk.size + 1
  | .nil, _ => by simp [F.put, F.get, F.size]
  | .cons n v' m' k' r, ⟨h1, _, h3⟩ => by
    have ih := F.put_get (nm := nm) (v := v) (m := m) (fk := fk) h3
    rw [F.put, F.get]
    rcases lt_tri nm n with hq | hq | hq
    · rw [if_pos (cmp3_eq.2 hq), if_pos hq]; simp only [F.size]; omega
    · rw [if_neg (by rw [cmp3_lt hq]; decide), if_pos (cmp3_lt hq), if_neg (lt_no hq).2, F.get_above (F.above_mono hq h1)]; simp only [F.size]; omega
    · rw [if_neg (by rw [cmp3_gt hq]; decide), if_neg (by rw [cmp3_gt hq]; decide), if_neg (Ne.symm (lt_no hq).2)]
      simp only [F.size]
      omega
theorem putT_size : ∀ {t : T3} {L : List ByteArray} {s : T3}, t.2.2.rises → wayTo t L → (putT t L s).2.2.size ≤ t.2.2.size + s.2.2.size + L.length
  | t, [], s, _, _ => by simp [putT]
  | t, nm :: L, s, hr, hw => by
    rw [putT]
    have h := F.put_get (nm := nm) (v := (putT ((t.2.2.get nm).getD s) L s).1) (m := (putT ((t.2.2.get nm).getD s) L s).2.1) (fk := (putT ((t.2.2.get nm).getD s) L s).2.2) hr
    simp only [List.length_cons]
    rcases hw with rfl | ⟨x, hx, hw⟩
    · simp only [putT] at h ⊢
      simp only [List.length_nil]
      omega
    · rw [hx] at h
      have ih := putT_size (s := s) (F.rises_get hr hx).1 hw
      simp only [hx, Option.getD_some] at h ⊢
      omega
def VarT (w : World) (g : Nat) (c : Array Value) : Prop := w.heap[g]? = some (.cells c 78 (0, 0))
theorem VarT.lies {w : World} {g : Nat} {c : Array Value} (h : VarT w g c) : Lies w g 0 c := fun j u hj => by
  have h' : w.heap[g]? = some (.cells c 78 (0, 0)) := h
  simp only [World.cell?, h', Nat.zero_add]
  exact hj
theorem VarT.lt {w : World} {g : Nat} {c : Array Value} (h : VarT w g c) : g < w.heap.size := (Array.getElem?_eq_some_iff.1 h).1
theorem VarT.grow {w w' : World} {g : Nat} {c : Array Value} (h : VarT w g c) (hg : G w w') : VarT w' g c := (Below.block hg g h.lt).trans h
def z103 : Array Value := tc Vd.zero Md.zero (.pointer none)
theorem run_zero103 (w : World) : (zeroValue 78).run Tryz.prog w = .ok (.agg z103) w := by
  have h : (Tryz.prog.info? 78).bind (·.zero) = some (.agg z103) := by kernel_rfl
  cases hq : Tryz.prog.info? 78 with
  | none => rw [hq] at h; cases h
  | some i =>
    rw [hq] at h
    simp only [Option.bind_some] at h
    simp [zeroValue, typeInfo, hq, h]
theorem exec_alloc103 {o : Oper} {a : Act} (ho : o.op = .alloc 78) (w : World) : (execOp a.eval o).run Tryz.prog w = .ok (.value (.pointer (some ⟨w.heap.size, 0, none⟩))) (w.alloc (.cells z103 78)) := by
  unfold execOp
  simp only [ho, Instr.alloc, Sem.run_bind, run_zero103, Result.andThen_ok]
  simp [newVar, newRow, newObj, Value.cells]
  rfl
theorem size103 : (Tryz.prog.info? 78).map (·.size) = some 40 := by kernel_rfl
theorem under103 : Tryz.prog.underlying 78 = some (.struct (Tryz.prog.fieldsOf 78)) := by kernel_rfl
theorem exec_load103 {o : Oper} {a : Act} (x : Operand) (ho : o.op = .load 78 x) (g : Nat) (hx : a.eval x = .pointer (some ⟨g, 0, none⟩)) (c : Array Value) (hs : c.size = 40) {w : World} (h : Lies w g 0 c) : (execOp a.eval o).run Tryz.prog w = .ok (.value (.agg c)) w := by
  unfold execOp
  simp only [ho, hx, Sem.run_bind, Sem.run_pure, Result.andThen_ok, load_lies (w := w) (g := g) (o := 0) 78 _ under103 rfl (by rw [size103, hs]) h]
theorem exec_store103 {o : Oper} {a : Act} (x y : Operand) (ho : o.op = .store 78 x y) (g : Nat) (c old : Array Value) (hx : a.eval x = .pointer (some ⟨g, 0, none⟩)) (hy : a.eval y = .agg c) (w : World) (hg : VarT w g old)
    (hs : c.size = 40) (hs' : old.size = 40) (h1 : c.all (·.oneCell') = true) : (execOp a.eval o).run Tryz.prog w = .ok .skip (w.setRow g c) := by
  unfold execOp
  simp only [ho, hx, hy, Instr.storeAt, Instr.sureAddr, Sem.run_bind, Sem.run_pure, Result.andThen_ok, run_storeVar_row (P := Tryz.prog) w g 78 78 old c hg (by rw [size103, hs]) (by rw [hs, hs']) h1]
theorem tc_one (v : Vd) (m : Md) (a : Option Addr) : (tc v m (.pointer a)).all (·.oneCell') = true := by
  rw [Array.all_eq_true_iff_forall_mem]
  intro x hx
  simp only [tc, vx, mx, List.mem_toArray, List.mem_cons, List.mem_append, List.mem_map, List.not_mem_nil, or_false] at hx
  rcases hx with (rfl | rfl | rfl | ⟨b, _, rfl⟩) | (rfl | rfl | rfl | rfl) | rfl <;> rfl
theorem new_varT (w : World) (c : Array Value) : G w ((w.alloc (.cells z103 78)).setRow w.heap.size c) ∧ VarT ((w.alloc (.cells z103 78)).setRow w.heap.size c) w.heap.size c := by
  have h := (But.setRow (K := w.heap.size) ((But.refl _ w).alloc (.cells z103 78)) c)
  exact ⟨h.below (Nat.le_refl _) (Nat.le_refl _), setRow_heap _ _ z103 c 78 _ (World.alloc_heap_new w _)⟩
theorem VarT.setKids {w : World} {g : Nat} {v : Vd} {m : Md} {pk pk' : Value} (h : VarT w g (tc v m pk)) : VarT (w.setCell ⟨g, 39, none⟩ pk') g (tc v m pk') := by
  have h' : w.heap[g]? = some (.cells (tc v m pk) 78 (0, 0)) := h
  unfold VarT World.setCell
  simp only []
  rw [Array.getElem?_modify]
  simp only [h', if_true, Option.map_some]
  have e : (tc v m pk).setIfInBounds 39 pk' = tc v m pk' := by
    simp only [tc, List.setIfInBounds_toArray]
    rw [List.set_append_right _ _ (by simp [vx_len]), vx_len, List.set_append_right _ _ (by simp [mx_len])]
    simp [mx_len]
  simp [e]
theorem spot_none {w : World} {ad : Addr} {s : ByteArray} (h : w.cell? ad = some (.string s)) : ad.spot = none := by
  unfold World.cell? at h
  split at h
  · split at h
    · cases h
    · rename_i hs; simpa using hs
  · cases h
theorem hasT_rest {w : World} {ad : Addr} {ar : Option Addr} {cap n : Nat} {x : ByteArray} {L : List ByteArray} (h : HasT w (.slice (some ad) (n + 1) cap) (x :: L)) (hn : L.length = n) (har : (if cap = 1 then some ad else some { block := ad.block, off := ad.off + 1 }) = ar) : HasT w (.slice ar n (cap - 1)) L := by
  rcases h with ⟨h, _⟩ | ⟨a, cp, hv, hc, hcell⟩
  · cases h
  · injection hv with e1 e2 e3
    injection e1 with e1
    subst e1 e3
    simp only [List.length_cons] at hc
    by_cases h1 : cap = 1
    · rw [if_pos h1] at har
      subst har
      have : L = [] := List.length_eq_zero_iff.1 (by omega)
      subst this
      exact .inr ⟨ad, cap - 1, by rw [← hn], by simp, fun i y hi => by simp at hi⟩
    · rw [if_neg h1] at har
      subst har
      have hsp : ad.spot = none := by
        have := hcell 0 x rfl
        rw [show ad.add 0 = ad from rfl] at this
        exact spot_none this
      obtain ⟨b, o, sp⟩ := ad
      simp only at hsp
      subst hsp
      refine .inr ⟨⟨b, o + 1, none⟩, cap - 1, by rw [hn], by omega, fun i y hi => ?_⟩
      have := hcell (i + 1) y (by simpa using hi)
      rw [Addr.add_mid] at this ⊢
      rw [show o + 1 + i = o + (i + 1) by omega]
      exact this
def TWithOk (L : List ByteArray) : Prop := ∀ (P : Nat → Prop) (w : World) (au : Option Addr) (t s : T3) (ps : Nat) (an : Option Addr) (cn : Nat), (∀ b, w.heap.size ≤ b → P b) → (L ≠ [] → ∃ p, au = some ⟨p, 0, none⟩ ∧ AtTF P w p t.1 t.2.1 t.2.2 ∧ t.2.2.rises ∧ t.2.2.size + s.2.2.size + L.length ≤ 400000) → wayTo t L → AtTF P w ps s.1 s.2.1 s.2.2 → HasT w (.slice an L.length cn) L → L.length ≤ 64 → (∀ x ∈ L, x.size ≤ 281474976710656) →
    Calls Tryz.prog 31 #[.pointer au, .slice an L.length cn, .pointer (some ⟨ps, 0, none⟩)] w fun e w' => ∃ p', e = .returned (.pointer (some ⟨p', 0, none⟩)) ∧ AtTF P w' p' (putT t L s).1 (putT t L s).2.1 (putT t L s).2.2 ∧ G w w'
theorem twith_any : ∀ L : List ByteArray, TWithOk L
  | [] => by
    intro P w au t s ps an cn _ _ _ hs _ _ _
    have HS := hid hs
    clear hs
    go_enter Tryz.func31, Tryz.ntmps31
    go_wp2
    go_ret
    exact ⟨ps, rfl, HS.out, G.refl _⟩
  | nm :: L => by
    have IH := hid (twith_any L)
    intro P w au t s ps an cn hP hu hw hs hn h64 hsz
    obtain ⟨p, rfl, ht, hr, hb⟩ := hu (by simp)
    obtain ⟨ak, hli, hak⟩ := ht.kids
    obtain ⟨u, hu2, hC⟩ := find_fix hak hr nm
    obtain ⟨a2, rfl⟩ := hu2.form
    obtain ⟨n, hnL⟩ : ∃ n, L.length = n := ⟨_, rfl⟩
    obtain ⟨ad, cp, hv, hx0⟩ := hn.at (k := 0) (s := nm) rfl
    obtain rfl : an = some ad := by injection hv
    have hlen : (nm :: L).length = n + 1 := by rw [List.length_cons, hnL]
    rw [hlen] at hn hv h64 hb ⊢
    have hcn : n + 1 ≤ cn := by
      obtain ⟨ao, cp', hv2, hc2⟩ := hn.form
      injection hv2 with _ _ e3
      rw [hlen] at hc2
      omega
    obtain ⟨ar, har⟩ : ∃ ar, (if cn = 1 then some ad else some { block := ad.block, off := ad.off + 1 }) = ar := ⟨_, rfl⟩
    have hrest := hasT_rest hn hnL har
    have hI1 : (1 : Int) ≤ (n : Int) + 1 := by omega
    have hkid : ∃ x : T3, (t.2.2.get nm).getD s = x := ⟨_, rfl⟩
    obtain ⟨x, hxk⟩ := hkid
    have HX : Hid ((L ≠ [] → PtrTo P w (.pointer a2) (some x)) ∧ (L ≠ [] → x.2.2.rises) ∧ (wayTo x L) ∧ (L ≠ [] → x.2.2.size + 1 ≤ t.2.2.size)) := by
      rcases hw with rfl | ⟨y, hy, hw⟩
      · exact ⟨fun h => absurd rfl h, fun h => absurd rfl h, trivial, fun h => absurd rfl h⟩
      · rw [hy] at hxk hu2
        simp only [Option.getD_some] at hxk
        subst hxk
        have h1 := F.rises_get hr hy
        exact ⟨fun _ => hu2, fun _ => h1.1, hw, fun _ => h1.2⟩
    have HK := hid (putT_size (s := s) hr hw)
    have HPT : Hid (putT t (nm :: L) s = (t.1, t.2.1, t.2.2.put nm (putT x L s).1 (putT x L s).2.1 (putT x L s).2.2)) := by rw [← hxk]; rfl
    have HT := hid (⟨ht, hr, hs, hak, hnL, hsz, hli⟩ : AtTF P w p t.1 t.2.1 t.2.2 ∧ t.2.2.rises ∧ AtTF P w ps s.1 s.2.1 s.2.2 ∧ AtF P w (.pointer ak) t.2.2 ∧ L.length = n ∧ (∀ x ∈ nm :: L, x.size ≤ 281474976710656) ∧ Lies w p 0 (tc t.1 t.2.1 (.pointer ak)))
    have HR := hid hrest
    have HPP := hid hP
    have HC := hid hC
    have c39 := lies_cell hli 39 _ (tc_kids ..)
    have hx0' : w.cell? ad = some (.string nm) := by
      have := hx0
      rwa [show ad.add 0 = ad from rfl] at this
    obtain ⟨N1, N2⟩ := new_varT w (tc t.1 t.2.1 (.pointer ak))
    have HV := hid (⟨N1, N2⟩ : _ ∧ _)
    replace c39 := N1.cell c39
    replace hx0' := N1.cell hx0'
    clear hu ht hr hw hs hn hsz hli hak hu2 hC hv hx0 hlen hrest hxk N1 N2 hnL hP
    go_enter Tryz.func31, Tryz.ntmps31
    go_upto_region 4 with (first
      | ((with_reducible refine wpList_exec (.agg (tc t.1 t.2.1 (.pointer ak))) ?_ ?_ ?_); exact exec_load103 _ rfl p rfl _ (tc_size ..) HT.out.2.2.2.2.2.2; kernel_rfl)
      | ((with_reducible refine wpList_execW (.pointer (some ⟨w.heap.size, 0, none⟩)) (w.alloc (.cells z103 78)) ?_ ?_ ?_); exact exec_alloc103 rfl _; kernel_rfl)
      | ((with_reducible refine wpList_skipW ((w.alloc (.cells z103 78)).setRow w.heap.size (tc t.1 t.2.1 (.pointer ak))) ?_ ?_ ?_); exact exec_store103 _ _ rfl w.heap.size _ z103 rfl rfl _ (World.alloc_heap_new w _) (tc_size ..) (tc_size ..) (tc_one ..); kernel_rfl))
    try simp only [Act.put, List.setIfInBounds_toArray, List.set_cons_zero, List.set_cons_succ]
    generalize hB : w.heap.size = B at *
    have HB := hid hB
    generalize (w.alloc (.cells z103 78)).setRow B (tc t.1 t.2.1 (.pointer ak)) = w1 at *
    refine wp_region_G ?_
    replace c39 := (G.drew w1).cell c39
    replace hx0' := (G.drew w1).cell hx0'
    have HD : Hid (G w w1.drew ∧ VarT w1.drew B (tc t.1 t.2.1 (.pointer ak))) := ⟨HV.out.1.trans (G.drew w1), HV.out.2.grow (G.drew w1)⟩
    generalize w1.drew = w2 at *
    clear HV hB
    refine takeG 0 16 (.pointer (some ⟨p, 0, none⟩)) rfl rfl (by kernel_rfl) (by kernel_rfl) (by kernel_rfl) (fun _ _ _ h => h) (by kernel_rfl) (fun wz hz => ?_) ?_
    · rfl
    try simp only [Act.put, List.setIfInBounds_toArray, List.set_cons_zero, List.set_cons_succ]
    refine takeG 1 17 (.pointer (some ⟨p, 0, none⟩)) rfl rfl (by kernel_rfl) (by kernel_rfl) (by kernel_rfl) (fun _ _ _ h => h) (by kernel_rfl) (fun wz hz => ?_) ?_
    · go_simp
    try simp only [Act.put, List.setIfInBounds_toArray, List.set_cons_zero, List.set_cons_succ]
    refine takeG 2 18 (.pointer (some ⟨p, 39, none⟩)) rfl rfl (by kernel_rfl) (by kernel_rfl) (by kernel_rfl) (fun _ _ _ h => h) (by kernel_rfl) (fun wz hz => ?_) ?_
    · go_simp
    try simp only [Act.put, List.setIfInBounds_toArray, List.set_cons_zero, List.set_cons_succ]
    refine takeG 3 19 (.pointer ak) rfl rfl (by kernel_rfl) (by kernel_rfl) (by kernel_rfl) (fun _ _ _ h => h) (by kernel_rfl) (fun wz hz => ?_) ?_
    · have y0 := hz.cell c39; go_simp
    try simp only [Act.put, List.setIfInBounds_toArray, List.set_cons_zero, List.set_cons_succ]
    refine takeG 4 20 (.slice (some ad) (n + 1) cn) rfl rfl (by kernel_rfl) (by kernel_rfl) (by kernel_rfl) (fun _ _ _ h => h) (by kernel_rfl) (fun wz hz => ?_) ?_
    · rfl
    try simp only [Act.put, List.setIfInBounds_toArray, List.set_cons_zero, List.set_cons_succ]
    refine takeG 5 21 (.pointer (some ad)) rfl rfl (by kernel_rfl) (by kernel_rfl) (by kernel_rfl) (fun _ _ _ h => h) (by kernel_rfl) (fun wz hz => ?_) ?_
    · go_simp
    try simp only [Act.put, List.setIfInBounds_toArray, List.set_cons_zero, List.set_cons_succ]
    refine takeG 6 22 (.string nm) rfl rfl (by kernel_rfl) (by kernel_rfl) (by kernel_rfl) (fun _ _ _ h => h) (by kernel_rfl) (fun wz hz => ?_) ?_
    · have y0 := hz.cell hx0'; go_simp
    try simp only [Act.put, List.setIfInBounds_toArray, List.set_cons_zero, List.set_cons_succ]
    refine callG 7 23 (.pointer a2) 63 #[.pointer ak, .string nm] rfl rfl (by kernel_rfl) (by kernel_rfl) (by kernel_rfl) (fun _ _ _ h => h) (by kernel_rfl) (fun wz => by go_simp) (fun wz hz => ?_) ?_
    · exact Calls.grown (HC.out wz (HD.out.1.trans hz))
    try simp only [Act.put, List.setIfInBounds_toArray, List.set_cons_zero, List.set_cons_succ]
    refine takeG 8 24 (.slice (some ad) (n + 1) cn) rfl rfl (by kernel_rfl) (by kernel_rfl) (by kernel_rfl) (fun _ _ _ h => h) (by kernel_rfl) (fun wz hz => ?_) ?_
    · rfl
    try simp only [Act.put, List.setIfInBounds_toArray, List.set_cons_zero, List.set_cons_succ]
    refine takeG 9 25 (.slice ar n (cn - 1)) rfl rfl (by kernel_rfl) (by kernel_rfl) (by kernel_rfl) (fun _ _ _ h => h) (by kernel_rfl) (fun wz hz => ?_) ?_
    · go_simp
    try simp only [Act.put, List.setIfInBounds_toArray, List.set_cons_zero, List.set_cons_succ]
    refine takeG 10 26 (.pointer (some ⟨ps, 0, none⟩)) rfl rfl (by kernel_rfl) (by kernel_rfl) (by kernel_rfl) (fun _ _ _ h => h) (by kernel_rfl) (fun wz hz => ?_) ?_
    · rfl
    try simp only [Act.put, List.setIfInBounds_toArray, List.set_cons_zero, List.set_cons_succ]
    refine readyG [11] (by kernel_rfl) (by simp) fun w5 hg5 => ?_
    have hG5 := HD.out.1.trans hg5
    have hB5 : B < w5.heap.size := (HD.out.2.grow hg5).lt
    have I5 := IH.out (fun b => P b ∧ b ≠ B) w5 a2 x s ps ar (cn - 1) (fun b hb => ⟨HPP.out b (by omega), by omega⟩) (fun h => ?_) HX.out.2.2.1 ((HT.out.2.2.1.lt.mono fun b hb => ⟨hb.1, by have := hb.2; have := HB.out; omega⟩).grow hG5) (by rw [HT.out.2.2.2.2.1]; exact HR.out.below hG5) (by rw [HT.out.2.2.2.2.1]; omega) (fun y hy => HT.out.2.2.2.2.2.1 y (List.mem_cons_of_mem _ hy))
    case refine_1 =>
      obtain ⟨p2, e2, h2⟩ := HX.out.1 h
      injection e2 with e2
      refine ⟨p2, e2, (h2.lt.mono fun b hb => ⟨hb.1, by have := hb.2; have := HB.out; omega⟩).grow hG5, HX.out.2.1 h, ?_⟩
      have := HX.out.2.2.2 h
      rw [HT.out.2.2.2.2.1]
      omega
    rw [HT.out.2.2.2.2.1] at I5
    refine AllG.call 11 27 31 #[.pointer a2, .slice ar n (cn - 1), .pointer (some ⟨ps, 0, none⟩)] rfl rfl (by kernel_rfl) (by go_simp) (I5.mono ?_) AllG.nil
    rintro e w6 ⟨p1, rfl, hp1, hg6⟩
    refine ⟨_, rfl, hg6, ?_⟩
    try simp only [Act.put, List.setIfInBounds_toArray, List.set_cons_zero, List.set_cons_succ]
    clear I5
    refine takeG 12 8 (.pointer (some ⟨p1, 0, none⟩)) rfl rfl (by kernel_rfl) (by kernel_rfl) (by kernel_rfl) (fun _ _ _ h => h) (by kernel_rfl) (fun wz hz => ?_) ?_
    · rfl
    try simp only [Act.put, List.setIfInBounds_toArray, List.set_cons_zero, List.set_cons_succ]
    refine doneG (by kernel_rfl) (fun w7 hg7 => ?_)
    have hG27 := (hg5.trans hg6).trans hg7
    replace c39 := hG27.cell c39
    replace hx0' := hG27.cell hx0'
    have HE : Hid (G w w7 ∧ VarT w7 B (tc t.1 t.2.1 (.pointer ak)) ∧ AtTF (fun b => P b ∧ b ≠ B) w7 p1 (putT x L s).1 (putT x L s).2.1 (putT x L s).2.2) := ⟨HD.out.1.trans hG27, HD.out.2.grow hG27, hp1.grow hg7⟩
    clear hp1 hG27 hG5 hB5 hg5 hg6 hg7 HD
    go_upto_region 6 with fail
    refine wp_region_S 10 ?_
    replace c39 := (G.drew w7).cell c39
    replace hx0' := (G.drew w7).cell hx0'
    have HF : Hid (G w w7.drew ∧ VarT w7.drew B (tc t.1 t.2.1 (.pointer ak)) ∧ AtTF (fun b => P b ∧ b ≠ B) w7.drew p1 (putT x L s).1 (putT x L s).2.1 (putT x L s).2.2) := ⟨HE.out.1.trans (G.drew w7), HE.out.2.1.grow (G.drew w7), HE.out.2.2.grow (G.drew w7)⟩
    generalize w7.drew = w8 at *
    clear HE
    refine takeS 0 30 (.pointer (some ⟨p, 0, none⟩)) rfl rfl (by kernel_rfl) (by kernel_rfl) (by kernel_rfl) (by kernel_rfl) (fun _ _ _ h => h) (by kernel_rfl) (fun wz hz => ?_) ?_
    · rfl
    try simp only [Act.put, List.setIfInBounds_toArray, List.set_cons_zero, List.set_cons_succ]
    refine takeS 1 31 (.pointer (some ⟨p, 0, none⟩)) rfl rfl (by kernel_rfl) (by kernel_rfl) (by kernel_rfl) (by kernel_rfl) (fun _ _ _ h => h) (by kernel_rfl) (fun wz hz => ?_) ?_
    · go_simp
    try simp only [Act.put, List.setIfInBounds_toArray, List.set_cons_zero, List.set_cons_succ]
    refine takeS 2 32 (.pointer (some ⟨p, 39, none⟩)) rfl rfl (by kernel_rfl) (by kernel_rfl) (by kernel_rfl) (by kernel_rfl) (fun _ _ _ h => h) (by kernel_rfl) (fun wz hz => ?_) ?_
    · go_simp
    try simp only [Act.put, List.setIfInBounds_toArray, List.set_cons_zero, List.set_cons_succ]
    refine takeS 3 33 (.pointer ak) rfl rfl (by kernel_rfl) (by kernel_rfl) (by kernel_rfl) (by kernel_rfl) (fun _ _ _ h => h) (by kernel_rfl) (fun wz hz => ?_) ?_
    · have y0 := hz.cell c39; go_simp
    try simp only [Act.put, List.setIfInBounds_toArray, List.set_cons_zero, List.set_cons_succ]
    refine takeS 4 34 (.slice (some ad) (n + 1) cn) rfl rfl (by kernel_rfl) (by kernel_rfl) (by kernel_rfl) (by kernel_rfl) (fun _ _ _ h => h) (by kernel_rfl) (fun wz hz => ?_) ?_
    · rfl
    try simp only [Act.put, List.setIfInBounds_toArray, List.set_cons_zero, List.set_cons_succ]
    refine takeS 5 35 (.pointer (some ad)) rfl rfl (by kernel_rfl) (by kernel_rfl) (by kernel_rfl) (by kernel_rfl) (fun _ _ _ h => h) (by kernel_rfl) (fun wz hz => ?_) ?_
    · go_simp
    try simp only [Act.put, List.setIfInBounds_toArray, List.set_cons_zero, List.set_cons_succ]
    refine takeS 6 36 (.string nm) rfl rfl (by kernel_rfl) (by kernel_rfl) (by kernel_rfl) (by kernel_rfl) (fun _ _ _ h => h) (by kernel_rfl) (fun wz hz => ?_) ?_
    · have y0 := hz.cell hx0'; go_simp
    try simp only [Act.put, List.setIfInBounds_toArray, List.set_cons_zero, List.set_cons_succ]
    refine takeS 7 37 (.pointer (some ⟨p1, 0, none⟩)) rfl rfl (by kernel_rfl) (by kernel_rfl) (by kernel_rfl) (by kernel_rfl) (fun _ _ _ h => h) (by kernel_rfl) (fun wz hz => ?_) ?_
    · rfl
    try simp only [Act.put, List.setIfInBounds_toArray, List.set_cons_zero, List.set_cons_succ]
    refine nextS 8 38 64 #[.pointer ak, .string nm, .pointer (some ⟨p1, 0, none⟩)] rfl rfl (by decide) (by kernel_rfl) (by kernel_rfl) (fun wz => by go_simp) (fun w9 hg9 => ?_)
    have hG9 := HF.out.1.trans hg9
    have hB9 : B < w9.heap.size := (HF.out.2.1.grow hg9).lt
    refine (with_any (P := fun b => P b ∧ b ≠ B) nm (putT x L s).1 (putT x L s).2.1 (putT x L s).2.2 (t.2.2.size + 1) t.2.2 (Nat.lt_succ_self _) w9 ak p1 ((HT.out.2.2.2.1.lt.mono fun b hb => ⟨hb.1, by have := hb.2; have := HB.out; omega⟩).grow hG9) (HF.out.2.2.grow hg9) HT.out.2.1 ?_ (HT.out.2.2.2.2.2.1 nm (by simp)) (fun b hb => ⟨HPP.out b (by omega), by omega⟩)).mono ?_
    · by_cases hL : L = []
      · subst hL
        show t.2.2.size + s.2.2.size ≤ _
        omega
      · have h1 := putT_size (s := s) (HX.out.2.1 hL) HX.out.2.2.1
        have h2 := HX.out.2.2.2 hL
        have h3 := HT.out.2.2.2.2.1
        omega
    rintro e w10 ⟨q, rfl, hq, hg10⟩
    refine ⟨_, rfl, hg10, ?_⟩
    try simp only [Act.put, List.setIfInBounds_toArray, List.set_cons_zero, List.set_cons_succ]
    refine takeS 9 39 (.pointer (some ⟨B, 39, none⟩)) rfl rfl (by kernel_rfl) (by kernel_rfl) (by kernel_rfl) (by kernel_rfl) (fun _ _ _ h => h) (by kernel_rfl) (fun wz hz => ?_) ?_
    · go_simp
    try simp only [Act.put, List.setIfInBounds_toArray, List.set_cons_zero, List.set_cons_succ]
    refine lastS rfl rfl (by kernel_rfl) (by kernel_rfl) (by kernel_rfl) (fun w11 hg11 => ?_)
    have hV := ((HF.out.2.1.grow hg9).grow hg10).grow hg11
    have hc := lies_cell hV.lies 39 _ (tc_kids ..)
    have hfz : w11.frozen? ⟨B, 39, none⟩ = false := by
      have h' : w11.heap[B]? = some (.cells (tc t.1 t.2.1 (.pointer ak)) 78 (0, 0)) := hV
      simp [World.frozen?, h']
    refine ⟨w11.setCell ⟨B, 39, none⟩ (.pointer (some ⟨q, 0, none⟩)), by go_simp, ?_⟩
    have hG11 := (hG9.trans hg10).trans hg11
    have HQ := hid (⟨hq.grow hg11, hV, hG11⟩ : AtF (fun b => P b ∧ b ≠ B) w11 (.pointer (some ⟨q, 0, none⟩)) (t.2.2.put nm (putT x L s).1 (putT x L s).2.1 (putT x L s).2.2) ∧ VarT w11 B (tc t.1 t.2.1 (.pointer ak)) ∧ G w w11)
    clear hq hV hc hfz hG11 hg9 hg10 hg11 hG9 hB9
    go_wp2_with fail
    go_ret
    obtain ⟨hq, hV, hG11⟩ := HQ.out
    obtain ⟨k, hk, hkf, hka⟩ := hq.keepP (w' := w11.setCell ⟨B, 39, none⟩ (.pointer (some ⟨q, 0, none⟩))) fun b hb => Below.heap_setCell _ _ _ b hb.2
    rw [HPT.out]
    refine ⟨B, rfl, ⟨k, ⟨_, (VarT.setKids hV (pk' := .pointer (some ⟨q, 0, none⟩))).lies, hk⟩, hkf, K.all_mono (fun b hb => hb.1) hka, HPP.out B (Nat.le_refl _)⟩, ?_⟩
    have hBw := HB.out
    exact Below.setCell (p := ⟨B, 39, none⟩) hG11 (by show w.heap.size ≤ B; omega) _
variable {P : Nat → Prop}
theorem names_ok {s : ByteArray} (he : splitE (tl s) 64 = 0) : ∀ x ∈ cutN s, x.size ≤ 255 := by
  unfold splitE at he
  split at he
  · cases he
  split at he
  · rename_i h
    intro x hx
    unfold cutN at hx
    obtain ⟨y, hy, rfl⟩ := List.mem_map.1 hx
    have := List.all_eq_true.1 h y hy
    unfold nameB at this
    have := (of_decide_eq_true this).2.1
    rw [← tl_len, tl_ofB]
    exact this
  · cases he
theorem wayE_ok {t : T3} {s : ByteArray} (h : wayE t s = 0) : splitE (tl s) 64 = 0 ∧ wayTo t (cutN s) := by
  unfold wayE at h
  split at h
  · rename_i h1; exact absurd h h1
  · rename_i h1
    refine ⟨by simpa using h1, ?_⟩
    split at h
    · rename_i h2; rw [h2]; trivial
    · split at h
      · cases h
      · rename_i x hx; exact wayTo_of hx
def putE (t s : T3) (q : ByteArray) : Int := if wayE t q ≠ 0 then wayE t q else if 64 < (cutN q).length + s.2.2.depth then 43 else 0
theorem depthF_any {p : Nat} {v : Vd} {m : Md} {f : F} {w : World} (h : AtTF P w p v m f) : Calls Tryz.prog 13 #[.pointer (some ⟨p, 0, none⟩)] w fun e w' => e = .returned (.int .i64 f.depth) ∧ w' = w := by
  obtain ⟨k, h, rfl, _⟩ := h
  exact depth_any p v m k w h
theorem put_any (p ps : Nat) (t s : T3) (q : ByteArray) (w : World) (ht : AtTF P w p t.1 t.2.1 t.2.2) (hs : AtTF P w ps s.1 s.2.1 s.2.2) (hr : t.2.2.rises) (hq : q.size ≤ 1048576) (hb : t.2.2.size + s.2.2.size ≤ 300000) (hP : ∀ b, w.heap.size ≤ b → P b) :
    Calls Tryz.prog 15 #[.pointer (some ⟨p, 0, none⟩), .string q, .pointer (some ⟨ps, 0, none⟩)] w fun e w' => ∃ u, e = .returned (.tuple #[u, .int .i64 (putE t s q)]) ∧ G w w' ∧ (putE t s q ≠ 0 → u = .pointer none) ∧ (putE t s q = 0 → ∃ p', u = .pointer (some ⟨p', 0, none⟩) ∧ AtTF P w' p' (putT t (cutN q) s).1 (putT t (cutN q) s).2.1 (putT t (cutN q) s).2.2) := by
  have C1 := way_any p t q w ht hr hq
  have HT := hid (⟨ht, hs, hr, hP⟩ : AtTF P w p t.1 t.2.1 t.2.2 ∧ AtTF P w ps s.1 s.2.1 s.2.2 ∧ t.2.2.rises ∧ ∀ b, w.heap.size ≤ b → P b)
  obtain ⟨E, hE⟩ : ∃ E, wayE t q = E := ⟨_, rfl⟩
  have HE := hid hE
  rw [hE] at C1
  have ld := F.depth_le_size s.2.2
  clear ht hs hr hE hP
  by_cases h0 : E = 0
  · subst h0
    obtain ⟨D, hD⟩ : ∃ D, s.2.2.depth = D := ⟨_, rfl⟩
    have CD : ∀ W, G w W → Calls Tryz.prog 13 #[.pointer (some ⟨ps, 0, none⟩)] W fun e w' => e = .returned (.int .i64 D) ∧ w' = W := fun W hW => by rw [← hD]; exact depthF_any (HT.out.2.1.grow hW)
    obtain ⟨N, hN⟩ : ∃ N, (cutN q).length = N := ⟨_, rfl⟩
    have HN := hid hN
    have HCD := hid CD
    rw [hN] at C1
    rw [hD] at ld
    have hN64 : N ≤ 64 := by rw [← hN]; exact names_few (wayE_ok HE.out).1
    have hsum : IntKind.i64.wrap ((N : Int) + (D : Int)) = (N : Int) + (D : Int) := by rw [IntKind.wrap_i64]; omega
    by_cases h1 : 64 < N + D
    · have hS : putE t s q = 43 := by unfold putE; rw [if_neg (by rw [HE.out]; simp), hN, hD, if_pos h1]
      rw [hS]
      have h1' : (64 : Int) < (N : Int) + (D : Int) := by omega
      clear hS hN hD CD
      go_enter Tryz.func15, Tryz.ntmps15
      go_wp2_with (first
        | (go_at_call 30; refine C1.mono ?_; rintro e w1 ⟨an, n, cn, rfl, hn, hg1⟩; obtain ⟨rfl, hn2, _⟩ := hn rfl; have HG1 := hid hg1; have CD := HCD.out w1 hg1; clear hn2 hg1 hn)
        | (go_at_call 13; refine CD.mono ?_; rintro e w2 ⟨rfl, e2⟩; subst e2))
      go_ret2
      exact ⟨_, rfl, HG1.out, fun _ => rfl, fun h => absurd h (by decide)⟩
    · have hS : putE t s q = 0 := by unfold putE; rw [if_neg (by rw [HE.out]; simp), hN, hD, if_neg h1]
      rw [hS]
      have h1' : ¬ (64 : Int) < (N : Int) + (D : Int) := by omega
      clear hS hN hD CD
      go_enter Tryz.func15, Tryz.ntmps15
      go_wp2_with (first
        | (go_at_call 30; refine C1.mono ?_; rintro e w1 ⟨an, n, cn, rfl, hn, hg1⟩; obtain ⟨rfl, hn2, hn3⟩ := hn rfl; have HG1 := hid hg1; have CD := HCD.out w1 hg1; have HNN := hid (⟨hn2, hn3⟩ : _ ∧ _); clear hn2 hg1 hn hn3)
        | (go_at_call 13; refine CD.mono ?_; rintro e w2 ⟨rfl, e2⟩; subst e2; have CT := twith_any (cutN q) P w2 (some ⟨p, 0, none⟩) t s ps an cn (fun b hb => HT.out.2.2.2 b (Nat.le_trans HG1.out.size hb)) (fun _ => ⟨p, rfl, HT.out.1.grow HG1.out, HT.out.2.2.1, by rw [HN.out]; omega⟩) (wayE_ok HE.out).2 (HT.out.2.1.grow HG1.out) (by rw [HN.out]; exact HNN.out.1) (by rw [HN.out]; exact hN64) (fun x hx => Nat.le_trans (names_ok (wayE_ok HE.out).1 x hx) (by decide)); rw [HN.out] at CT)
        | (go_at_call 31; refine CT.mono ?_; rintro e w3 ⟨p', rfl, hp', hg3⟩; have HQ := hid (⟨hp', HG1.out.trans hg3⟩ : _ ∧ _); clear hp' hg3))
      go_ret2
      exact ⟨_, rfl, HQ.out.2, fun h => absurd rfl h, fun _ => ⟨p', rfl, HQ.out.1⟩⟩
  · have hS : putE t s q = E := by unfold putE; rw [if_pos (by rw [HE.out]; exact h0), HE.out]
    rw [hS]
    have h1 : (E != 0) = true := by simpa using h0
    have H0 := hid h0
    clear hS h0
    go_enter Tryz.func15, Tryz.ntmps15
    go_wp2_with (go_at_call 30; refine C1.mono ?_; rintro e w1 ⟨an, n, cn, rfl, _, hg1⟩; have HG1 := hid hg1; clear hg1)
    go_ret2
    exact ⟨_, rfl, HG1.out, fun _ => rfl, fun h => absurd h H0.out⟩
end Go.Proofs.YtbjjbgaomoihaaaGreatDoor
