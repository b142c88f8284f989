/-
  twinelaw2's side: a hash, pieces, and what was added to them; what a call on one side keeps.
-/
import Derived.Test.YtmglopfjjbnfiaaDoorBytesW
import Derived.Maps.AppendAt
namespace Go.Proofs.YtmglopfjjbnfiaaDoor
open Go.RowKit

/-- The blocks that belong to a side. -/
def foot (S KH KP : Nat) (bv pv : Value) (k : Nat) : Prop := k = S ∨ k = KH ∨ k = KP ∨ bv.ownBlock = some k ∨ pv.ownBlock = some k

def sideRow (KH KP : Nat) (bv pv : Value) : Array Value := #[.pointer (some ⟨KH, 0, none⟩), .pointer (some ⟨KP, 0, none⟩), bv, pv]

structure SideAt (w : World) (lo S KH KP : Nat) (bv pv : Value) (b p : List Nat) : Prop where
  row : w.heap[S]? = some (.cells (sideRow KH KP bv pv) 65 (0, 0))
  hash : HashAt w KH 98 b
  pcs : HashAt w KP 100 p
  ob : Owns w lo bv b
  op : Owns w lo pv p
  los : lo ≤ S ∧ lo ≤ KH ∧ lo ≤ KP
  d1 : S ≠ KH ∧ S ≠ KP ∧ KH ≠ KP
  d2 : ∀ k, bv.ownBlock = some k → k ≠ S ∧ k ≠ KH ∧ k ≠ KP ∧ pv.ownBlock ≠ some k
  d3 : ∀ k, pv.ownBlock = some k → k ≠ S ∧ k ≠ KH ∧ k ≠ KP
  bys : Bytes b ∧ Bytes p

/-- Whatever lay, but for the blocks of F, lies as it lay. -/
structure Keep (F : Nat → Prop) (w w' : World) : Prop where
  os : w'.os = w.os
  tape : w'.tape = w.tape
  output : w'.output = w.output
  size : w.heap.size ≤ w'.heap.size
  block : ∀ k, k < w.heap.size → ¬ F k → w'.heap[k]? = w.heap[k]?

theorem Keep.refl (F : Nat → Prop) (w : World) : Keep F w w := ⟨rfl, rfl, rfl, Nat.le_refl _, fun _ _ _ => rfl⟩
theorem Keep.trans {F : Nat → Prop} {a b c : World} (h : Keep F a b) (k : Keep F b c) : Keep F a c :=
  ⟨k.os.trans h.os, k.tape.trans h.tape, k.output.trans h.output, Nat.le_trans h.size k.size, fun i hi hn => (k.block i (Nat.lt_of_lt_of_le hi h.size) hn).trans (h.block i hi hn)⟩
theorem Keep.of_below {F : Nat → Prop} {a b : World} (h : Below a.heap.size a b) : Keep F a b := ⟨h.os, h.tape, h.output, h.size, fun i hi _ => h.block i hi⟩
theorem Keep.of_but {F : Nat → Prop} {K : Nat} {a b : World} (h : But K a b) (hF : F K) : Keep F a b := ⟨h.os, h.tape, h.output, h.size, fun i hi hn => h.block i hi (fun e => hn (e ▸ hF))⟩
theorem Keep.below {F : Nat → Prop} {a b : World} {lo : Nat} (h : Keep F a b) (hs : lo ≤ a.heap.size) (hF : ∀ k, F k → lo ≤ k) : Below lo a b := ⟨h.os, h.tape, h.output, h.size, fun i hi => h.block i (by omega) (fun e => by have := hF i e; omega)⟩
/-- The blocks of G may change too, if they were not there ahead. -/
theorem Keep.grow {F G : Nat → Prop} {a b c : World} (h : Keep F a b) (k : Keep G b c) (hG : ∀ i, G i → F i ∨ a.heap.size ≤ i) : Keep F a c :=
  ⟨k.os.trans h.os, k.tape.trans h.tape, k.output.trans h.output, Nat.le_trans h.size k.size, fun i hi hn => (k.block i (Nat.lt_of_lt_of_le hi h.size) (fun e => (hG i e).elim hn (fun q => by omega))).trans (h.block i hi hn)⟩

theorem SideAt.foot_lt {w : World} {lo S KH KP : Nat} {bv pv : Value} {b p : List Nat} (h : SideAt w lo S KH KP bv pv b p) {k : Nat} (hk : foot S KH KP bv pv k) : lo ≤ k ∧ k < w.heap.size := by
  rcases hk with rfl | rfl | rfl | hk | hk
  · exact ⟨h.los.1, (Array.getElem?_eq_some_iff.1 h.row).1⟩
  · exact ⟨h.los.2.1, h.hash.lt⟩
  · exact ⟨h.los.2.2, h.pcs.lt⟩
  · exact h.ob.lt k hk
  · exact h.op.lt k hk

/-- What happens elsewhere leaves a side. -/
theorem SideAt.keep {w w' : World} {lo S KH KP : Nat} {bv pv : Value} {b p : List Nat} (h : SideAt w lo S KH KP bv pv b p) (hb : ∀ k, foot S KH KP bv pv k → w'.heap[k]? = w.heap[k]?) : SideAt w' lo S KH KP bv pv b p :=
  ⟨(hb S (.inl rfl)).trans h.row, h.hash.block (hb KH (.inr (.inl rfl))), h.pcs.block (hb KP (.inr (.inr (.inl rfl)))), h.ob.block fun k hk => hb k (.inr (.inr (.inr (.inl hk)))), h.op.block fun k hk => hb k (.inr (.inr (.inr (.inr hk)))), h.los, h.d1, h.d2, h.d3, h.bys⟩
theorem SideAt.below {w w' : World} {lo S KH KP : Nat} {bv pv : Value} {b p : List Nat} (h : SideAt w lo S KH KP bv pv b p) (hb : Below w.heap.size w w') : SideAt w' lo S KH KP bv pv b p :=
  h.keep fun k hk => hb.block k (h.foot_lt hk).2

theorem SideAt.cell {w : World} {lo S KH KP : Nat} {bv pv : Value} {b p : List Nat} (h : SideAt w lo S KH KP bv pv b p) : w.cell? ⟨S, 0, none⟩ = some (.pointer (some ⟨KH, 0, none⟩)) ∧ w.cell? ⟨S, 1, none⟩ = some (.pointer (some ⟨KP, 0, none⟩)) ∧ w.cell? ⟨S, 2, none⟩ = some bv ∧ w.cell? ⟨S, 3, none⟩ = some pv :=
  ⟨cell_of_row _ _ 0 _ _ _ h.row, cell_of_row _ _ 1 _ _ _ h.row, cell_of_row _ _ 2 _ _ _ h.row, cell_of_row _ _ 3 _ _ _ h.row⟩

/-- The hash has taken in more bytes. -/
theorem SideAt.added {w w' : World} {lo S KH KP : Nat} {bv pv : Value} {b p : List Nat} (h : SideAt w lo S KH KP bv pv b p) (hb : But KH w w') :
    w'.heap[S]? = some (.cells (sideRow KH KP bv pv) 65 (0, 0)) ∧ HashAt w' KP 100 p ∧ Owns w' lo bv b ∧ Owns w' lo pv p := by
  have hs := fun k hk => (h.foot_lt (k := k) hk).2
  refine ⟨(hb.block S (hs S (.inl rfl)) h.d1.1).trans h.row, h.pcs.block (hb.block KP (hs KP (.inr (.inr (.inl rfl)))) (fun e => h.d1.2.2 e.symm)), h.ob.block fun k hk => hb.block k (h.ob.lt k hk).2 (h.d2 k hk).2.1, h.op.block fun k hk => hb.block k (h.op.lt k hk).2 (h.d3 k hk).2.1⟩
/-- The pieces have. -/
theorem SideAt.pieced {w w' : World} {lo S KH KP : Nat} {bv pv : Value} {b p : List Nat} (h : SideAt w lo S KH KP bv pv b p) (hb : But KP w w') :
    w'.heap[S]? = some (.cells (sideRow KH KP bv pv) 65 (0, 0)) ∧ HashAt w' KH 98 b ∧ Owns w' lo bv b ∧ Owns w' lo pv p := by
  have hs := fun k hk => (h.foot_lt (k := k) hk).2
  refine ⟨(hb.block S (hs S (.inl rfl)) h.d1.2.1).trans h.row, h.hash.block (hb.block KH (hs KH (.inr (.inl rfl))) h.d1.2.2), h.ob.block fun k hk => hb.block k (h.ob.lt k hk).2 (h.d2 k hk).2.2.1, h.op.block fun k hk => hb.block k (h.op.lt k hk).2 (h.d3 k hk).2.2⟩

/-- 'append(v, x...)' at a step of a region that draws: which block changes, where the new row lies. -/
theorem ar_append_b {md : Region.Mode} {ops : Array Oper} {Q : Exit → Act → World → Prop} {fuel : Nat} {listed : Array Bool} {a : Act} {w : World} {i : Nat} {o : Oper} {rs : List Nat} (hoi : ops[i]? = some o)
    (hgd : o.guard = none) (s x : Operand) (ho : o.op = .call { callee := .builtin .append, args := #[s, x], argTypes := #[43, 43] })
    (lo : Nat) (v vx : Value) (m l : List Nat) (hs : a.eval s = v) (hx : a.eval x = vx) (hown : Owns w lo v m) (hhas : Has w vx l) (hlen : m.length + l.length ≤ 16777216) (hbase : lo ≤ w.heap.size)
    (h : ∀ v' w', Owns w' lo v' (m ++ l) → w.grownBy w' v.ownBlock → (v'.ownBlock = v.ownBlock ∨ v'.ownBlock = some w.heap.size) → wpAny Tryd.prog md ops Q fuel (listed.setIfInBounds i true) (a.put o.dst v') w')
    (hr : AllReady Tryd.prog md ops Q fuel listed a w rs) : AllReady Tryd.prog md ops Q fuel listed a w (i :: rs) := by
  refine AllReady.cons hoi (fun K' hK => ?_) hr
  have hw : Region.wanted o (yielded ops a.tmps) = true := by simp [Region.wanted, hgd]
  rw [if_pos hw]
  obtain ⟨i0, hi, hz0, hz1, hz2⟩ := info_parts Tryd.info5
  rcases hhas with ⟨rfl, rfl⟩ | ⟨ad, cap, rfl, hc, hcell⟩
  · have hrun := run_append_owned_none (P := Tryd.prog) (w := w) lo 43 o.type 5 i0 1 Tryd.underlying43 hi v m.length (m.map vb) hown
    unfold Oper.wp
    simp [execOp, ho, resolve, invoke, builtin, hs, hx, hrun, Result.andThen]
    exact hK _ _ (h v w (by simpa using hown) ⟨rfl, rfl, rfl, Nat.le_refl _, fun _ _ _ => rfl⟩ (.inl rfl))
  · obtain ⟨v', w', hrun, h2, h3, h4, h5⟩ := run_append_own_at (P := Tryd.prog) w lo 43 o.type 5 i0 (.int .u8 0) 1 1 Tryd.underlying43 hi hz0 hz1 hz2 rfl (by decide) v m.length (m.map vb) hown ad l.length cap (l.map vb) (by simp) (by
      intro j u hj
      have hjl : j < l.length := by
        have := (List.getElem?_eq_some_iff.1 hj).1
        simpa using this
      rw [hcell j hjl]
      simpa [List.getD, List.getElem?_eq_getElem hjl] using hj) (by intro u hu; obtain ⟨x, _, rfl⟩ := List.mem_map.1 hu; rfl) (by unfold maxLen; omega) (by omega) hbase
    unfold Oper.wp execOp
    simp only [ho, resolve, invoke, builtin, Sem.run_bind, Sem.run_pure, Result.andThen_ok, List.map_toArray, List.map_cons, List.map_nil, hs, hx, hrun]
    refine hK _ _ (h v' w' ?_ h3 h5)
    unfold Owns
    simpa using h2

theorem ar_load_s {md : Region.Mode} {ops : Array Oper} {Q : Exit → Act → World → Prop} {fuel : Nat} {listed : Array Bool} {a : Act} {w : World} {i : Nat} {o : Oper} {rs : List Nat} (hoi : ops[i]? = some o)
    (hgd : o.guard = none) (ty : TypeId) (hty : ty = 43 ∨ ty = 60 ∨ ty = 62) (x : Operand) (ho : o.op = .load ty x) (ad : Addr) (hx : a.eval x = .pointer (some ad)) (v : Value) (hc : w.cell? ad = some v)
    (h : wpAny Tryd.prog md ops Q fuel (listed.setIfInBounds i true) (a.put o.dst v) w)
    (hs : AllReady Tryd.prog md ops Q fuel listed a w rs) : AllReady Tryd.prog md ops Q fuel listed a w (i :: rs) := by
  refine AllReady.cons hoi (fun K' hK => ?_) hs
  have hw : Region.wanted o (yielded ops a.tmps) = true := by simp [Region.wanted, hgd]
  rw [if_pos hw]
  have hl : (Instr.loadAt ty (.pointer (some ad))).run Tryd.prog w = .ok v w := by
    rcases hty with rfl | rfl | rfl <;> simp [Instr.loadAt, hc, go_sem]
  unfold Oper.wp execOp
  simp only [ho, hx, Sem.run_bind, hl, Result.andThen_ok, Sem.run_pure]
  exact hK _ _ h

theorem hcells_len (v : Sha.V) (rest : List Nat) (n : Nat) (hr : rest.length = 64) : (hcells v rest n)[72]? = some (.int .i64 (n : Int)) := by
  unfold hcells
  rw [List.getElem?_toArray, List.getElem?_append_right (by simp [vlist])]
  rw [List.getElem?_append_right (by simp [vlist, hr])]
  simp [vlist, hr]

set_option maxHeartbeats 1000000 in
set_option maxRecDepth 100000 in
theorem hlen_any (K : Nat) (T : TypeId) (l : List Nat) (w : World) (hH : HashAt w K T l) :
    Calls Tryd.prog 33 #[.pointer (some ⟨K, 0, none⟩)] w fun e w' => e = .returned (.int .i64 (l.length : Nat)) ∧ w = w' := by
  obtain ⟨v, rest, hg, hI, _, _⟩ := hH
  have hc : w.cell? ⟨K, 72, none⟩ = some (.int .i64 (l.length : Nat)) := (cell_of_row _ _ 72 _ _ _ hg).trans (hcells_len v rest _ hI.len)
  clear hg hI
  go_enter Tryd.func33, Tryd.ntmps33
  go_wp2
  go_ret
  exact ⟨rfl, rfl⟩

/-- An operation of a script, as its cells. -/
def opCells (kind which : Int) (bv : Value) (pc : List Nat) : Array Value := (Value.int .i64 kind :: Value.int .i64 which :: bv :: pc.map vb).toArray
end Go.Proofs.YtmglopfjjbnfiaaDoor
