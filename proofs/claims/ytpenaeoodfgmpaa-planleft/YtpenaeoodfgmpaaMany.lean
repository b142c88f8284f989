/-
  'p, q, .. := plan.Of(..), plan.Of(..), ..': calls in their order, variables made whenever, then written.
-/
import Derived.Test.YtpenaeoodfgmpaaPlainR
namespace Go.Proofs.Ytpenaeoodfgmpaa
open Go.RowKit

def pCells (p : Pl) (vi vl : Value) : Array Value := #[vi, vl, .int .i64 p.na, .int .i64 p.ba, .int .i64 p.nb, .int .i64 p.bb]
def z34 : Array Value := #[.slice none 0 0, .slice none 0 0, .int .i64 0, .int .i64 0, .int .i64 0, .int .i64 0]
theorem zero34 : (Try.prog.info? 34).bind (·.zero) = some (.agg z34) := by kernel_rfl
def ptr (b : Nat) : Value := .pointer (some ⟨b, 0, none⟩)
theorem ptr_inj {b c : Nat} (h : ptr b = ptr c) : b = c := by injection h with h; injection h with h; injection h
section
variable (als cls : List Nat) (sto cal : Nat → Nat) (pl : Nat → Pl) (lo : Nat) (W0 : World)
/-- a plan that a call answered -/
def PV (done : Nat → Bool) (V : Nat → Value) (w : World) (j : Nat) : Prop :=
  ∃ vi vl, V j = .agg (pCells (pl j) vi vl) ∧ OwnsI w lo vi (pl j).items ∧ OwnsN w lo vl (pl j).left ∧ ∀ k ∈ als, done k = true → ∀ b, V k = ptr b → vi.ownBlock ≠ some b ∧ vl.ownBlock ≠ some b
/-- a variable that was made -/
def AV (done : Nat → Bool) (V : Nat → Value) (w : World) (k : Nat) : Prop :=
  ∃ b c, V k = ptr b ∧ lo ≤ b ∧ w.heap[b]? = some (.cells c 34 (0, 0)) ∧ c.size = 6 ∧ (done (sto k) = true → V (cal k) = .agg c)
def ST (done : Nat → Bool) (V : Nat → Value) (w : World) : Prop :=
  Below lo W0 w ∧ lo ≤ w.heap.size ∧ (∀ j ∈ cls, done j = true → PV als pl lo done V w j) ∧ (∀ k ∈ als, done k = true → AV sto cal lo done V w k) ∧ ∀ k ∈ als, ∀ k' ∈ als, k ≠ k' → done k = true → done k' = true → V k ≠ V k'
def upV (V : Nat → Value) (i : Nat) (v : Value) : Nat → Value := fun j => if j = i then v else V j
theorem upV_ne (V : Nat → Value) {i j : Nat} (v : Value) (h : j ≠ i) : upV V i v j = V j := if_neg h
theorem upV_eq (V : Nat → Value) (i : Nat) (v : Value) : upV V i v i = v := if_pos rfl
theorem upd_ne (done : Nat → Bool) {i j : Nat} (h : j ≠ i) : upd done i j = done j := if_neg h
theorem upd_eq (done : Nat → Bool) (i : Nat) : upd done i i = true := if_pos rfl
variable {als cls sto cal pl lo W0}
/-- something else is done, nothing is changed -/
theorem ST.other {done : Nat → Bool} {V : Nat → Value} {w : World} (h : ST als cls sto cal pl lo W0 done V w) (i : Nat) (v : Value) (h1 : i ∉ als) (h2 : i ∉ cls) (h3 : ∀ k ∈ als, sto k ≠ i) (h4 : ∀ k ∈ als, cal k ≠ i) : ST als cls sto cal pl lo W0 (upd done i) (upV V i v) w := by
  obtain ⟨a, b, c, d, e⟩ := h
  have n1 : ∀ k ∈ als, k ≠ i := fun k hk e => h1 (e ▸ hk)
  have n2 : ∀ k ∈ cls, k ≠ i := fun k hk e => h2 (e ▸ hk)
  refine ⟨a, b, fun j hj hd => ?_, fun k hk hd => ?_, fun k hk k' hk' hne hd hd' => ?_⟩
  · rw [upd_ne _ (n2 j hj)] at hd
    obtain ⟨vi, vl, q1, q2, q3, q4⟩ := c j hj hd
    refine ⟨vi, vl, by rw [upV_ne _ _ (n2 j hj)]; exact q1, q2, q3, fun k hk hdk b hb => ?_⟩
    rw [upd_ne _ (n1 k hk)] at hdk
    rw [upV_ne _ _ (n1 k hk)] at hb
    exact q4 k hk hdk b hb
  · rw [upd_ne _ (n1 k hk)] at hd
    obtain ⟨b', c', q1, q2, q3, q4, q5⟩ := d k hk hd
    refine ⟨b', c', by rw [upV_ne _ _ (n1 k hk)]; exact q1, q2, q3, q4, fun hs => ?_⟩
    rw [upd_ne _ (h3 k hk)] at hs
    rw [upV_ne _ _ (h4 k hk)]
    exact q5 hs
  · rw [upd_ne _ (n1 k hk)] at hd
    rw [upd_ne _ (n1 k' hk')] at hd'
    rw [upV_ne _ _ (n1 k hk), upV_ne _ _ (n1 k' hk')]
    exact e k hk k' hk' hne hd hd'
/-- a call is done -/
theorem ST.call {done : Nat → Bool} {V : Nat → Value} {w w' : World} (h : ST als cls sto cal pl lo W0 done V w) (i : Nat) (h1 : i ∉ als) (h3 : ∀ k ∈ als, sto k ≠ i) (h4 : ∀ k ∈ als, cal k = i → done (sto k) = false)
    {vi vl : Value} (o1 : OwnsI w' w.heap.size vi (pl i).items) (o2 : OwnsN w' w.heap.size vl (pl i).left) (hg : G w w') : ST als cls sto cal pl lo W0 (upd done i) (upV V i (.agg (pCells (pl i) vi vl))) w' := by
  obtain ⟨a, b, c, d, e⟩ := h
  have n1 : ∀ k ∈ als, k ≠ i := fun k hk e => h1 (e ▸ hk)
  refine ⟨a.trans (hg.mono b), Nat.le_trans b hg.size, fun j hj hd => ?_, fun k hk hd => ?_, fun k hk k' hk' hne hd hd' => ?_⟩
  · by_cases hji : j = i
    · subst hji
      refine ⟨vi, vl, upV_eq _ _ _, owns_low o1 b, owns_low o2 b, fun k hk hdk x hx => ?_⟩
      rw [upd_ne _ (n1 k hk)] at hdk
      rw [upV_ne _ _ (n1 k hk)] at hx
      obtain ⟨b', c', q1, q2, q3, _⟩ := d k hk hdk
      have hbx : b' = x := ptr_inj (q1.symm.trans hx)
      have hlt := (Array.getElem?_eq_some_iff.1 q3).1
      exact ⟨fun e => by have := (World.ownsRow.lt o1 x e).1; omega, fun e => by have := (World.ownsRow.lt o2 x e).1; omega⟩
    · rw [upd_ne _ hji] at hd
      obtain ⟨vi', vl', q1, q2, q3, q4⟩ := c j hj hd
      refine ⟨vi', vl', by rw [upV_ne _ _ hji]; exact q1, q2.up hg, q3.up hg, fun k hk hdk b hb => ?_⟩
      rw [upd_ne _ (n1 k hk)] at hdk
      rw [upV_ne _ _ (n1 k hk)] at hb
      exact q4 k hk hdk b hb
  · rw [upd_ne _ (n1 k hk)] at hd
    obtain ⟨b', c', q1, q2, q3, q4, q5⟩ := d k hk hd
    refine ⟨b', c', by rw [upV_ne _ _ (n1 k hk)]; exact q1, q2, (hg.block b' (Array.getElem?_eq_some_iff.1 q3).1).trans q3, q4, fun hs => ?_⟩
    rw [upd_ne _ (h3 k hk)] at hs
    by_cases hci : cal k = i
    · rw [h4 k hk hci] at hs; cases hs
    · rw [upV_ne _ _ hci]; exact q5 hs
  · rw [upd_ne _ (n1 k hk)] at hd
    rw [upd_ne _ (n1 k' hk')] at hd'
    rw [upV_ne _ _ (n1 k hk), upV_ne _ _ (n1 k' hk')]
    exact e k hk k' hk' hne hd hd'
/-- a variable is made -/
theorem ST.alloc {done : Nat → Bool} {V : Nat → Value} {w : World} (h : ST als cls sto cal pl lo W0 done V w) (i : Nat) (h2 : i ∉ cls) (h3 : ∀ k ∈ als, sto k ≠ i) (h4 : ∀ k ∈ als, cal k ≠ i) (h5 : done (sto i) = false) : ST als cls sto cal pl lo W0 (upd done i) (upV V i (ptr w.heap.size)) (w.alloc (.cells z34 34)) := by
  obtain ⟨a, b, c, d, e⟩ := h
  have hg := G.al w (.cells z34 34)
  have n2 : ∀ k ∈ cls, k ≠ i := fun k hk e => h2 (e ▸ hk)
  refine ⟨a.trans (hg.mono b), Nat.le_trans b hg.size, fun j hj hd => ?_, fun k hk hd => ?_, fun k hk k' hk' hne hd hd' => ?_⟩
  · rw [upd_ne _ (n2 j hj)] at hd
    obtain ⟨vi', vl', q1, q2, q3, q4⟩ := c j hj hd
    refine ⟨vi', vl', by rw [upV_ne _ _ (n2 j hj)]; exact q1, q2.up hg, q3.up hg, fun k hk hdk x hx => ?_⟩
    by_cases hki : k = i
    · subst hki
      rw [upV_eq] at hx
      have hx' := ptr_inj hx
      exact ⟨fun e => by have := (World.ownsRow.lt q2 x e).2; omega, fun e => by have := (World.ownsRow.lt q3 x e).2; omega⟩
    · rw [upd_ne _ hki] at hdk
      rw [upV_ne _ _ hki] at hx
      exact q4 k hk hdk x hx
  · by_cases hki : k = i
    · subst hki
      refine ⟨w.heap.size, z34, upV_eq _ _ _, b, heap_alloc_new _ _, rfl, fun hs => ?_⟩
      rw [upd_ne _ (h3 k hk), h5] at hs
      cases hs
    · rw [upd_ne _ hki] at hd
      obtain ⟨b', c', q1, q2, q3, q4, q5⟩ := d k hk hd
      refine ⟨b', c', by rw [upV_ne _ _ hki]; exact q1, q2, (hg.block b' (Array.getElem?_eq_some_iff.1 q3).1).trans q3, q4, fun hs => ?_⟩
      rw [upd_ne _ (h3 k hk)] at hs
      rw [upV_ne _ _ (h4 k hk)]
      exact q5 hs
  · have old : ∀ k ∈ als, k ≠ i → done k = true → V k ≠ ptr w.heap.size := fun k hk _ hdk hx => by
      obtain ⟨b', c', q1, q2, q3, _⟩ := d k hk hdk
      have := (Array.getElem?_eq_some_iff.1 q3).1
      have := ptr_inj (q1.symm.trans hx)
      omega
    by_cases hki : k = i
    · subst hki
      rw [upV_eq, upV_ne _ _ (Ne.symm hne)]
      rw [upd_ne _ (Ne.symm hne)] at hd'
      exact fun e => old k' hk' (Ne.symm hne) hd' e.symm
    · rw [upV_ne _ _ hki]
      rw [upd_ne _ hki] at hd
      by_cases hki' : k' = i
      · subst hki'
        rw [upV_eq]
        exact old k hk hki hd
      · rw [upV_ne _ _ hki']
        rw [upd_ne _ hki'] at hd'
        exact e k hk k' hk' hne hd hd'
/-- a variable is written -/
theorem ST.store {done : Nat → Bool} {V : Nat → Value} {w : World} (h : ST als cls sto cal pl lo W0 done V w) (k0 : Nat) (hk0 : k0 ∈ als) (hd0 : done k0 = true) {b : Nat} {c : Array Value} (hb : V k0 = ptr b) (hc : V (cal k0) = .agg c) (hz : c.size = 6) (v : Value) (h1 : sto k0 ∉ als) (h2 : sto k0 ∉ cls) (h3 : ∀ k ∈ als, k ≠ k0 → sto k ≠ sto k0) (h4 : ∀ k ∈ als, cal k ≠ sto k0) :
    ST als cls sto cal pl lo W0 (upd done (sto k0)) (upV V (sto k0) v) (w.setRow b c) := by
  obtain ⟨a, bb, cc', d, e⟩ := h
  obtain ⟨b', c', q1, q2, q3, q4, q5⟩ := d k0 hk0 hd0
  have hbb : b' = b := ptr_inj (q1.symm.trans hb)
  subst hbb
  have hbut : But b' w (w.setRow b' c) := ⟨rfl, rfl, rfl, by simp [World.setRow], fun k _ hn => setRow_other w _ _ _ hn⟩
  have n1 : ∀ k ∈ als, k ≠ sto k0 := fun k hk e => h1 (e ▸ hk)
  have n2 : ∀ k ∈ cls, k ≠ sto k0 := fun k hk e => h2 (e ▸ hk)
  have gr : w.grownBy (w.setRow b' c) (some b') := ⟨hbut.os, hbut.tape, hbut.output, hbut.size, fun k hk hn => hbut.block k hk (fun e => hn (by rw [e]))⟩
  refine ⟨a.trans (hbut.below q2 bb), by simpa [World.setRow] using bb, fun j hj hd => ?_, fun k hk hd => ?_, fun k hk k' hk' hne hd hd' => ?_⟩
  · rw [upd_ne _ (n2 j hj)] at hd
    obtain ⟨vi, vl, r1, r2, r3, r4⟩ := cc' j hj hd
    obtain ⟨s1, s2⟩ := r4 k0 hk0 hd0 b' hb
    refine ⟨vi, vl, by rw [upV_ne _ _ (n2 j hj)]; exact r1, World.ownsRow.kept r2 gr (.inr s1), World.ownsRow.kept r3 gr (.inr s2), fun k hk hdk x hx => ?_⟩
    rw [upd_ne _ (n1 k hk)] at hdk
    rw [upV_ne _ _ (n1 k hk)] at hx
    exact r4 k hk hdk x hx
  · rw [upd_ne _ (n1 k hk)] at hd
    by_cases hkk : k = k0
    · subst hkk
      refine ⟨b', c, by rw [upV_ne _ _ (n1 k hk)]; exact q1, q2, setRow_heap w _ _ _ _ _ q3, hz, fun _ => ?_⟩
      rw [upV_ne _ _ (h4 k hk)]; exact hc
    · obtain ⟨b2, c2, r1, r2, r3, r4, r5⟩ := d k hk hd
      have hne : b2 ≠ b' := fun e2 => e k hk k0 hk0 hkk hd hd0 (by rw [r1, e2, q1])
      refine ⟨b2, c2, by rw [upV_ne _ _ (n1 k hk)]; exact r1, r2, (setRow_other w _ _ _ hne).trans r3, r4, fun hs => ?_⟩
      rw [upd_ne _ (h3 k hk hkk)] at hs
      rw [upV_ne _ _ (h4 k hk)]
      exact r5 hs
  · rw [upd_ne _ (n1 k hk)] at hd
    rw [upd_ne _ (n1 k' hk')] at hd'
    rw [upV_ne _ _ (n1 k hk), upV_ne _ _ (n1 k' hk')]
    exact e k hk k' hk' hne hd hd'
theorem Slots.more {ops : Array Oper} {V : Nat → Value} {t0 t : Array Value} {done : Nat → Bool} (h : Slots ops V t0 t done) (i : Nat) (v : Value) (hi : done i = false) : Slots ops (upV V i v) t0 t done :=
  ⟨h.1, h.2.1, fun k o d ho hd hk => by
    have hne : k ≠ i := fun e => by rw [e, hi] at hk; cases hk
    rw [upV_ne _ _ hne]; exact h.2.2 k o d ho hd hk⟩
end
end Go.Proofs.Ytpenaeoodfgmpaa
