/-
  PlanAll: the walk.
-/
import Derived.Test.YtpenaeoodfgmpaaGreatDoorBkQ
import Derived.Test.YtpenaeoodfgmpaaGreatDoorRef6
import Derived.Test.YtpenaeoodfgmpaaGreatDoorRoomM
import Derived.Deep.LoopGhost
namespace Go.Proofs.YtpenaeoodfgmpaaGreatDoor
open Go.RowKit Bk

theorem plan_lens (L : List Cd) (most : Int) : (planF L most).items.length ≤ L.length ∧ (planF L most).left.length ≤ L.length := by
  unfold planF
  simp only
  have h1 := its_len (L.map cnt) (leave (L.map cnt) (cap most)) (L.map cnt).length
  have h2 := pls_len (leave (L.map cnt) (cap most)) (leave (L.map cnt) (cap most)).length
  have h3 := leave_len (L.map cnt) (cap most)
  simp only [List.length_map] at h1 h2 h3 ⊢
  exact ⟨h1, by omega⟩
def prow (vi vl : Value) (p : Pl) : Array Value := pRow vi vl p.na p.ba p.nb p.bb
/-- what the law has laid down ahead of its first loop -/
structure Zst (w wz : World) (ao : Option Addr) (cp : Nat) (L : List Cd) (p : Pl) (M R K I W F c : Nat) (vi vl : Value) : Prop where
  g : G w wz
  m : wz.heap[M]? = some (.cells #[.slice ao L.length cp] 24 (0, 0))
  i : wz.heap[I]? = some (.cells #[.slice (some ⟨F, 0, none⟩) L.length (L.length + 40)] 24 (0, 0))
  wt : wz.heap[W]? = some (.cells (prow vi vl p) 55 (0, 0))
  oi : OwnsI wz (K + 1) vi p.items
  ol : OwnsN wz (K + 1) vl p.left
  oc : OwnsC wz (K + 1) (.slice (some ⟨F, 0, none⟩) (L.length + 40) c) (L ++ mksC 40)
  room : RoomC wz R F L.length c
  far : ∀ x c, (wz.cell? ⟨R, 8, none⟩ = some (.slice (some ⟨x, 0, none⟩) 1 c) ∨ wz.cell? ⟨R, 9, none⟩ = some (.slice (some ⟨x, 0, none⟩) 1 c)) → x ≠ K ∧ x ≠ F
  hK : w.heap.size ≤ K
  mK : M ≠ K
  iK : I ≠ K
  wK : W ≠ K
  rK : R ≠ K
  rF : R ≠ F
  iF : I ≠ F
theorem Zst.fK {w wz : World} {ao : Option Addr} {cp : Nat} {L : List Cd} {p : Pl} {M R K I W F c : Nat} {vi vl : Value} (h : Zst w wz ao cp L p M R K I W F c vi vl) : K < F := by
  have := (World.ownsRow.lt h.oc F rfl).1; omega
/-- the Room when another block is written -/
theorem RoomC.but {w w' : World} {R F n c K : Nat} (h : RoomC w R F n c) (hb : But K w w') (hR : R ≠ K) (hf : ∀ x c, (w.cell? ⟨R, 8, none⟩ = some (.slice (some ⟨x, 0, none⟩) 1 c) ∨ w.cell? ⟨R, 9, none⟩ = some (.slice (some ⟨x, 0, none⟩) 1 c)) → x ≠ K) (hm : ∀ j, j < 40 → Lies w' F ((n + j) * 10) (cc (mkC j))) : RoomC w' R F n c := by
  obtain ⟨h1, ⟨ra, ca, h2, h3⟩, ⟨rb, cb, h4, h5⟩, h6⟩ := h
  exact ⟨fun i a b => hb.cell (h1 i a b) hR, ⟨ra, ca, hb.cell h2 hR, hb.cell h3 (hf ra ca (.inl h2))⟩, ⟨rb, cb, hb.cell h4 hR, hb.cell h5 (hf rb cb (.inr h4))⟩, hm⟩
theorem far_but {w w' : World} {R F n c K : Nat} {P : Nat → Prop} (h : RoomC w R F n c) (hb : But K w w') (hR : R ≠ K) (hf : ∀ x c, (w.cell? ⟨R, 8, none⟩ = some (.slice (some ⟨x, 0, none⟩) 1 c) ∨ w.cell? ⟨R, 9, none⟩ = some (.slice (some ⟨x, 0, none⟩) 1 c)) → P x) :
    ∀ x c, (w'.cell? ⟨R, 8, none⟩ = some (.slice (some ⟨x, 0, none⟩) 1 c) ∨ w'.cell? ⟨R, 9, none⟩ = some (.slice (some ⟨x, 0, none⟩) 1 c)) → P x := by
  obtain ⟨_, ⟨ra, ca, h2, h3⟩, ⟨rb, cb, h4, h5⟩, _⟩ := h
  intro x cx hx
  have j2 := hb.cell h2 hR
  have j4 := hb.cell h4 hR
  rcases hx with hx | hx
  · rw [j2] at hx
    injection hx with hx; injection hx with hx _ _; injection hx with hx; injection hx with hx _ _
    subst hx
    exact hf ra ca (.inl h2)
  · rw [j4] at hx
    injection hx with hx; injection hx with hx _ _; injection hx with hx; injection hx with hx _ _
    subst hx
    exact hf rb cb (.inr h4)
theorem owns_marks {w : World} {lo F c : Nat} {L : List Cd} (h : OwnsC w lo (.slice (some ⟨F, 0, none⟩) (L.length + 40) c) (L ++ mksC 40)) : ∀ j, j < 40 → Lies w F ((L.length + j) * 10) (cc (mkC j)) := fun j hj =>
  OwnsC.lies h (by rw [List.getElem?_append_right (by omega), Nat.add_sub_cancel_left]; simp [mksC, hj])
theorem owns_hasc {w : World} {lo F c cp : Nat} {L : List Cd} (h : OwnsC w lo (.slice (some ⟨F, 0, none⟩) (L.length + 40) c) (L ++ mksC 40)) (hk : ∀ x ∈ L, x.ok) : HasC w (.slice (some ⟨F, 0, none⟩) L.length cp) L :=
  ⟨_, _, rfl, fun i x hi => ⟨F, 0, rfl, by rw [Nat.zero_add]; exact OwnsC.lies h (by rw [List.getElem?_append_left (List.getElem?_eq_some_iff.1 hi).1]; exact hi)⟩, hk⟩
theorem Zst.but {w wz wr : World} {ao : Option Addr} {cp : Nat} {L : List Cd} {p : Pl} {M R K I W F c : Nat} {vi vl : Value} (h : Zst w wz ao cp L p M R K I W F c vi vl) (hb : But K wz wr) : Zst w wr ao cp L p M R K I W F c vi vl := by
  have lt : ∀ {x : Nat} {o : Obj}, wz.heap[x]? = some o → x < wz.heap.size := fun e => (Array.getElem?_eq_some_iff.1 e).1
  have ow : ∀ {t s n : Nat} {v : Value} {xs : List Value}, wz.ownsRow (K + 1) t s v n xs → wr.ownsRow (K + 1) t s v n xs := fun o => rowB o fun x hx => hb.block x (o.lt x hx).2 (by have := (o.lt x hx).1; omega)
  have oc : OwnsC wr (K + 1) (.slice (some ⟨F, 0, none⟩) (L.length + 40) c) (L ++ mksC 40) := ow h.oc
  exact ⟨h.g.trans (hb.below h.hK h.g.size), (hb.block M (lt h.m) h.mK).trans h.m, (hb.block I (lt h.i) h.iK).trans h.i, (hb.block W (lt h.wt) h.wK).trans h.wt, ow h.oi, ow h.ol, oc,
    h.room.but hb h.rK (fun x c hx => (h.far x c hx).1) (owns_marks oc), far_but h.room hb h.rK h.far, h.hK, h.mK, h.iK, h.wK, h.rK, h.rF, h.iF⟩
theorem Zst.up {w wz wr : World} {ao : Option Addr} {cp : Nat} {L : List Cd} {p : Pl} {M R K I W F c : Nat} {vi vl : Value} (h : Zst w wz ao cp L p M R K I W F c vi vl) (hb : G wz wr) : Zst w wr ao cp L p M R K I W F c vi vl := h.but (But.of_below hb)
theorem lies_row {w : World} {B t : Nat} {c : Array Value} (h : w.heap[B]? = some (.cells c t (0, 0))) : Lies w B 0 c := fun j u hj => by rw [Nat.zero_add, cell_of_row _ _ j _ _ _ h]; exact hj
/-- the Book while the law goes on: what lay there ahead is not its own -/
def Bst (wz wr : World) (K n : Nat) : Prop := ∃ A, BthE wr K K n 0 n n true true A ∧ But K wz wr ∧ ∀ b, b < wz.heap.size → b ≠ K → ¬ A b
theorem Bst.up {wz wr w' : World} {K n : Nat} (h : Bst wz wr K n) (hb : G wr w') : Bst wz w' K n := by
  obtain ⟨A, h1, h2, h3⟩ := h
  exact ⟨A, h1.up hb, h2.trans (But.of_below hb), h3⟩
/-- a plan that was made at wr (its lists lie behind) is noted -/
theorem Bst.plan {wz wr w4 : World} {K n : Nat} (hs : wz.heap.size ≤ wr.heap.size) (hr : Bst wz wr K n) (hg : G wr w4) (vi vl : Value) (p : Pl) (mark : Nat) (hi : OwnsI w4 wr.heap.size vi p.items) (hl : OwnsN w4 wr.heap.size vl p.left) (hne : vi.ownBlock = none ∨ vi.ownBlock ≠ vl.ownBlock)
    (hI : p.items.length ≤ 1000) (hR : p.left.length ≤ 1000) (hm : mark ≤ 100000) (hn : n ≤ 1000) :
    Calls Tryz.prog 10 #[.pointer (some ⟨K, 0, none⟩), .agg (prow vi vl p), .int .i64 mark] w4 fun e w' => e = .returned (.tuple #[]) ∧ Bst wz w' K (n + 1) ∧ w4.heap.size ≤ w'.heap.size ∧ ∀ b, wr.heap.size ≤ b → b < w4.heap.size → vi.ownBlock ≠ some b → vl.ownBlock ≠ some b → w'.heap[b]? = w4.heap[b]? := by
  obtain ⟨A, h1, h2, h3⟩ := hr
  have h4 : BthE w4 K K n 0 n n true true A := h1.up hg
  have hK : K ≤ wr.heap.size := Nat.le_of_lt h1.at.2.2.1
  have nA : ∀ b, wr.heap.size ≤ b → ¬ A b := fun b hb e => by have := h1.lt b e; omega
  refine (bookPlan h4 vi vl p.items p.left p.na p.ba p.nb p.bb mark (owns_low hi hK) (owns_low hl hK) hne (fun x hx => nA x (World.ownsRow.lt hi x hx).1) (fun x hx => nA x (World.ownsRow.lt hl x hx).1) hI hR hm hn).mono ?_
  rintro e w' ⟨rfl, A', h5, o⟩
  have nv : ∀ b, b < wr.heap.size → ¬ (vi.ownBlock = some b ∨ vl.ownBlock = some b) := fun b hb e => by
    rcases e with e | e
    · have := (World.ownsRow.lt hi b e).1; omega
    · have := (World.ownsRow.lt hl b e).1; omega
  refine ⟨rfl, ⟨A', h5, ⟨o.os.trans (hg.os.trans h2.os), o.tape.trans (hg.tape.trans h2.tape), o.output.trans (hg.output.trans h2.output), Nat.le_trans h2.size (Nat.le_trans hg.size o.size), fun b hb hk => ?_⟩, fun b hb hk => ?_⟩, o.size, fun b b1 b2 b3 b4 => ?_⟩
  · have hb' : b < wr.heap.size := by omega
    exact ((o.block b (by have := hg.size; omega) (fun e => e.elim (h3 b hb hk) (nv b hb'))).1.trans (hg.block b hb')).trans (h2.block b hb hk)
  · have hb' : b < wr.heap.size := by omega
    exact (o.block b (by have := hg.size; omega) (fun e => e.elim (h3 b hb hk) (nv b hb'))).2
  · exact (o.block b b2 (fun e => e.elim (nA b b1) (fun k => k.elim b3 b4))).1
theorem Bst.hold {wz wr : World} {K n : Nat} (h : Bst wz wr K n) (hn : n ≤ 1000) : Calls Tryz.prog 11 #[.pointer (some ⟨K, 0, none⟩)] wr fun e w' => e = .returned (.bool true) ∧ G wr w' := by
  obtain ⟨A, h1, h2, h3⟩ := h
  exact hold_all h1 (by omega) (by omega)
theorem samePlan_p {w : World} {vi vl vi' vl' : Value} {p : Pl} (h1 : HasI w vi' p.items) (h2 : HasN w vl' p.left) (h3 : HasI w vi p.items) (h4 : HasN w vl p.left) (ht : p.items.length ≤ 400) (hr : p.left.length ≤ 400) :
    Calls Tryz.prog 8 #[.agg (prow vi' vl' p), .agg (prow vi vl p)] w fun e w' => e = .returned (.bool true) ∧ G w w' := by
  obtain ⟨ai, ci, e1, _⟩ := id h1
  obtain ⟨al, cl, e2, _⟩ := id h2
  obtain ⟨bi, di, e3, _⟩ := id h3
  obtain ⟨bl, dl, e4, _⟩ := id h4
  subst e1 e2 e3 e4
  exact samePlan_any ai al bi bl ci cl di dl p.items p.left p.na p.ba p.nb p.bb w h1 h2 h3 h4 ht hr
theorem prow_one {w : World} {a b : Nat} {vi vl : Value} {p : Pl} (h1 : OwnsI w a vi p.items) (h2 : OwnsN w b vl p.left) : (prow vi vl p).all (·.oneCell') = true := by
  obtain ⟨_, _, e1⟩ := row_form h1
  obtain ⟨_, _, e2⟩ := row_form h2
  subst e1 e2
  simp [prow, pRow, Value.oneCell']
/-- from one world on, the Book beside it -/
theorem Bst.start {wz : World} {K : Nat} (h : BthE wz K K 0 0 0 0 true true (fun b => b = K)) : Bst wz wz K 0 := ⟨_, h, But.refl _ _, fun _ _ hk e => hk e⟩
theorem cell_set {w : World} {lo F n c k j : Nat} {L : List Cd} {x x' : Cd} {y : Value} (h : OwnsC w lo (.slice (some ⟨F, 0, none⟩) (n + 40) c) (L ++ mksC 40)) (hn : L.length = n) (hx : L[k]? = some x) (hj : j < 10) (e : cc x' = (cc x).setIfInBounds j y) :
    OwnsC (w.setCell ⟨F, k * 10 + j, none⟩ y) lo (.slice (some ⟨F, 0, none⟩) (n + 40) c) (L.set k x' ++ mksC 40) := by
  have hl : (L ++ mksC 40).length = n + 40 := by rw [List.length_append, mksC_len, hn]
  have hk := (List.getElem?_eq_some_iff.1 hx).1
  have h' : w.ownsRow lo 62 10 (.slice (some ⟨F, 0, none⟩) (n + 40) c) (n + 40) (flat cc (L ++ mksC 40)) := by unfold OwnsC at h; rwa [hl] at h
  have h2 := (World.ownsRow.stored h' (k * 10 + j) y).1
  rw [flat_set cc_size (x' := x') (by rw [List.getElem?_append_left hk]; exact hx) hj e, List.set_append_left _ _ hk] at h2
  unfold OwnsC
  rw [List.length_append, List.length_set, mksC_len, hn]
  exact h2
/-- in.Cells while they are written over -/
def CL (wy wr : World) (lo F n c : Nat) : Prop := ∃ L' : List Cd, L'.length = n ∧ OwnsC wr lo (.slice (some ⟨F, 0, none⟩) (n + 40) c) (L' ++ mksC 40) ∧ (∀ x ∈ L', x.ok) ∧ But F wy wr
theorem ok_set {L : List Cd} {k : Nat} {x : Cd} (h : ∀ y ∈ L, y.ok) (hx : x.ok) : ∀ y ∈ L.set k x, y.ok := fun y hy => by
  rcases List.mem_or_eq_of_mem_set hy with e | e
  · exact h y e
  · rw [e]; exact hx
theorem cfacts {w : World} {lo F n c k : Nat} {L : List Cd} {x : Cd} (h : OwnsC w lo (.slice (some ⟨F, 0, none⟩) (n + 40) c) (L ++ mksC 40)) (hx : L[k]? = some x) : Lies w F (k * 10) (cc x) ∧ ∀ o, w.frozen? ⟨F, o, none⟩ = false := by
  refine ⟨OwnsC.lies h (by rw [List.getElem?_append_left (List.getElem?_eq_some_iff.1 hx).1]; exact hx), ?_⟩
  obtain ⟨_, e | ⟨g, cap, cur, hv, _, hh, _⟩⟩ := h
  · cases e.1
  · injection hv with e1 _ _
    injection e1 with e1
    injection e1 with e1 _ _
    subst e1
    intro o
    simp [World.frozen?, hh]
theorem set_at {L : List Cd} {k : Nat} {x y : Cd} (hx : L[k]? = some x) : (L.set k y)[k]? = some y := List.getElem?_set_self (List.getElem?_eq_some_iff.1 hx).1
theorem ownsC_has {w : World} {lo : Nat} {v : Value} {R : List Cd} (h : OwnsC w lo v R) (hk : ∀ x ∈ R, x.ok) : HasC w v R := by
  have h0 := h
  obtain ⟨_, ⟨rfl, hl⟩ | ⟨g, cap, cur, rfl, hr⟩⟩ := h
  · refine ⟨none, 0, by rw [hl], fun i t hi => ?_, hk⟩
    have := List.length_eq_zero_iff.1 hl
    subst this
    simp at hi
  · exact ⟨_, cap, rfl, fun i t hi => ⟨g, 0, rfl, by rw [Nat.zero_add]; exact OwnsC.lies h0 hi⟩, hk⟩
theorem half_in {x : Int} (h : InR x) : InR (x.tdiv 2) := by
  unfold InR at *
  rcases Int.le_total 0 x with k | k
  · rw [Int.tdiv_eq_ediv_of_nonneg k]; omega
  · have e : x = -(-x) := by omega
    rw [e, Int.neg_tdiv, Int.tdiv_eq_ediv_of_nonneg (by omega)]; omega
theorem grown_g {w w' : World} (h : w.grownBy w' none) : G w w' := ⟨h.os, h.tape, h.output, h.size, fun b hb => h.block b hb (by simp)⟩
theorem RoomC.far_same {w w' : World} {R F n c K : Nat} (h : RoomC w R F n c) (hb : ∀ b, b < w.heap.size → b ≠ K → b ≠ F → w'.heap[b]? = w.heap[b]?) (hR : R ≠ K) (hRF : R ≠ F)
    (far : ∀ x c, (w.cell? ⟨R, 8, none⟩ = some (.slice (some ⟨x, 0, none⟩) 1 c) ∨ w.cell? ⟨R, 9, none⟩ = some (.slice (some ⟨x, 0, none⟩) 1 c)) → x ≠ K ∧ x ≠ F) (hm : ∀ j, j < 40 → Lies w' F ((n + j) * 10) (cc (mkC j))) : RoomC w' R F n c := by
  obtain ⟨h1, ⟨ra, ca, h2, h3⟩, ⟨rb, cb, h4, h5⟩, h6⟩ := h
  have k : ∀ {b o : Nat} {v : Value}, b ≠ K → b ≠ F → w.cell? ⟨b, o, none⟩ = some v → w'.cell? ⟨b, o, none⟩ = some v := fun e1 e2 hc => cellB (hb _ (World.block_lt_of_cell? w _ hc) e1 e2) hc
  have f1 := far ra ca (.inl h2)
  have f2 := far rb cb (.inr h4)
  exact ⟨fun i a b => k hR hRF (h1 i a b), ⟨ra, ca, k hR hRF h2, k f1.1 f1.2 h3⟩, ⟨rb, cb, k hR hRF h4, k f2.1 f2.2 h5⟩, hm⟩
theorem owns_marks' {w : World} {lo F n c : Nat} {L : List Cd} (h : OwnsC w lo (.slice (some ⟨F, 0, none⟩) (n + 40) c) (L ++ mksC 40)) (hn : L.length = n) : ∀ j, j < 40 → Lies w F ((n + j) * 10) (cc (mkC j)) := by
  subst hn; exact owns_marks h
/-- the Book behind the second loop -/
def Bs2 (w8 wr : World) (K F n : Nat) : Prop := ∃ A, BthE wr K K n 0 n n true true A ∧ (∀ b, b < w8.heap.size → b ≠ K → ¬ A b) ∧ (∀ b, b < w8.heap.size → b ≠ K → b ≠ F → wr.heap[b]? = w8.heap[b]?) ∧ w8.heap.size ≤ wr.heap.size ∧ wr.os = w8.os ∧ wr.tape = w8.tape ∧ wr.output = w8.output
theorem Bst.over {w8 wy wr : World} {K F n : Nat} (h : Bst w8 wy K n) (hF : F < w8.heap.size) (hFK : F ≠ K) (hb : But F wy wr) : Bs2 w8 wr K F n := by
  obtain ⟨A, h1, h2, h3⟩ := h
  refine ⟨A, h1.keep hb.size (fun b e => hb.block b (h1.lt b e) (fun k => h3 F hF hFK (k ▸ e))) hb.os hb.tape hb.output, h3, fun b h4 h5 h6 => (hb.block b (by have := h2.size; omega) h6).trans (h2.block b h4 h5), Nat.le_trans h2.size hb.size, hb.os.trans h2.os, hb.tape.trans h2.tape, hb.output.trans h2.output⟩
/-- the last plan is noted: what lay there ahead stays -/
theorem Bs2.plan {w8 wr w4 : World} {K F n : Nat} (h : Bs2 w8 wr K F n) (hg : G wr w4) (vi vl : Value) (p : Pl) (mark : Nat) (hi : OwnsI w4 wr.heap.size vi p.items) (hl : OwnsN w4 wr.heap.size vl p.left) (hne : vi.ownBlock = none ∨ vi.ownBlock ≠ vl.ownBlock)
    (hI : p.items.length ≤ 1000) (hR : p.left.length ≤ 1000) (hm : mark ≤ 100000) (hn : n ≤ 1000) :
    Calls Tryz.prog 10 #[.pointer (some ⟨K, 0, none⟩), .agg (prow vi vl p), .int .i64 mark] w4 fun e w' => e = .returned (.tuple #[]) ∧ (∃ A, BthE w' K K (n + 1) 0 (n + 1) (n + 1) true true A) ∧ (∀ b, b < w8.heap.size → b ≠ K → w'.heap[b]? = wr.heap[b]?) ∧ wr.heap.size ≤ w'.heap.size ∧ w'.os = wr.os ∧ w'.tape = wr.tape ∧ w'.output = wr.output := by
  obtain ⟨A, h1, h3, h2, hs, -⟩ := h
  have h4 : BthE w4 K K n 0 n n true true A := h1.up hg
  have hK : K ≤ wr.heap.size := Nat.le_of_lt h1.at.2.2.1
  have nA : ∀ b, wr.heap.size ≤ b → ¬ A b := fun b hb e => by have := h1.lt b e; omega
  refine (bookPlan h4 vi vl p.items p.left p.na p.ba p.nb p.bb mark (owns_low hi hK) (owns_low hl hK) hne (fun x hx => nA x (World.ownsRow.lt hi x hx).1) (fun x hx => nA x (World.ownsRow.lt hl x hx).1) hI hR hm hn).mono ?_
  rintro e w' ⟨rfl, A', h5, o⟩
  have nv : ∀ b, b < wr.heap.size → ¬ (vi.ownBlock = some b ∨ vl.ownBlock = some b) := fun b hb e => by
    rcases e with e | e
    · have := (World.ownsRow.lt hi b e).1; omega
    · have := (World.ownsRow.lt hl b e).1; omega
  refine ⟨rfl, ⟨A', h5⟩, fun b hb hk => ?_, Nat.le_trans hg.size o.size, o.os.trans hg.os, o.tape.trans hg.tape, o.output.trans hg.output⟩
  have hb' : b < wr.heap.size := by omega
  exact (o.block b (by have := hg.size; omega) (fun e => e.elim (h3 b hb hk) (nv b hb'))).1.trans (hg.block b hb')
end Go.Proofs.YtpenaeoodfgmpaaGreatDoor
namespace Go.Proofs.YtpenaeoodfgmpaaGreatDoor
open Go.RowKit Bk

theorem wpList_new {ops : Array Oper} {rest : List Oper} {o1 o2 : Oper} {a : Act} {w : World} {Q : Exit → Act → World → Prop} (t : TypeId) (cs : Array Value) (hb : Tryz.prog.built t [] = some cs) (h1 : o1.guard = none) (h2 : o2.guard = none) (ho1 : o1.op = .build t #[]) (x : Operand) (ho2 : o2.op = .box t x)
    (hx : (a.put o1.dst (.agg cs)).eval x = .agg cs) (h : wpList Tryz.prog ops Q rest ((a.put o1.dst (.agg cs)).put o2.dst (.pointer (some ⟨w.heap.size, 0, none⟩))) (w.alloc (.cells cs t))) : wpList Tryz.prog ops Q (o1 :: o2 :: rest) a w := by
  have em : (Array.map (fun (p : Nat × Operand) => (p.1, a.eval p.2)) #[]).toList = [] := by simp
  refine wpList_build h1 t #[] ho1 (by rw [em, hb]; simp only [Option.isSome_some]) ?_
  rw [em, hb, Option.getD_some]
  refine wpList_plain h2 fun K hK => ?_
  unfold Oper.wp execOp
  have ec : (Value.agg cs).cells = cs := rfl
  simp only [ho2, hx, Instr.box, newVar, Sem.run_bind, Sem.run_pure, ec]
  have hr : (newRow t cs).run Tryz.prog w = .ok ⟨w.heap.size, 0, none⟩ (w.alloc (.cells cs t)) := by simp [newRow]
  rw [hr]
  exact hK _ _ h
def bookCells : Array Value := ((List.range 148).map bookCell).toArray
def roomCells : Array Value := #[.slice none 0 0, .slice none 0 0, .slice none 0 0, .slice none 0 0, .slice none 0 0, .slice none 0 0, .slice none 0 0, .slice none 0 0, .slice none 0 0, .slice none 0 0, .slice none 0 0, .slice none 0 0, .slice none 0 0, .slice none 0 0, .slice none 0 0, .slice none 0 0, .slice none 0 0, .slice none 0 0, .slice none 0 0, .slice none 0 0, .slice none 0 0, .slice none 0 0, .slice none 0 0, .slice none 0 0, .slice none 0 0, .slice none 0 0]
theorem built48 : Tryz.prog.built 48 [] = some bookCells := by kernel_rfl
theorem built42 : Tryz.prog.built 42 [] = some roomCells := by kernel_rfl
theorem room_cell (i : Nat) (h : i < 26) : roomCells[i]? = some (.slice none 0 0) := by
  match i, h with
  | 0, _ | 1, _ | 2, _ | 3, _ | 4, _ | 5, _ | 6, _ | 7, _ | 8, _ | 9, _ | 10, _ | 11, _ | 12, _ | 13, _ | 14, _ | 15, _ | 16, _ | 17, _ | 18, _ | 19, _ | 20, _ | 21, _ | 22, _ | 23, _ | 24, _ | 25, _ => rfl
  | n + 26, h => exact absurd h (by omega)
theorem info24 : (Tryz.prog.info? 24).map (fun i => (i.zero, i.size, i.bytes)) = some (some (.agg #[.slice none 0 0]), 1, 24) := by kernel_rfl
theorem info55 : (Tryz.prog.info? 55).map (fun i => (i.zero, i.size, i.bytes)) = some (some (.agg z55), 6, 80) := by kernel_rfl

set_option maxHeartbeats 8000000 in
set_option maxRecDepth 100000 in
theorem all_walk (ao : Option Addr) (cp : Nat) (L : List Cd) (most : Int) (w : World) (hv : HasC w (.slice ao L.length cp) L) (hz : L = [] → .slice ao L.length cp = Value.slice none 0 0 ∨ ao ≠ none) (hl : L.length ≤ 9223372036854775807) :
    Calls Tryz.prog 3 #[.agg #[.slice ao L.length cp], .int .i64 most] w fun e w' => e = .returned (.bool true) ∧ G w w' := by
  obtain ⟨M, hM⟩ : ∃ M, w.heap.size = M := ⟨_, rfl⟩
  obtain ⟨w1, hw1⟩ : ∃ w1, w.alloc (.cells #[.slice ao L.length cp] 24) = w1 := ⟨_, rfl⟩
  have g1 : G w w1 := by rw [← hw1]; exact G.al _ _
  have r1 : w1.heap[M]? = some (.cells #[.slice ao L.length cp] 24 (0, 0)) := by rw [← hw1, ← hM]; exact heap_alloc_new _ _
  have HL1 := hid (lies_row r1)
  have A4 := hid (few_any ao cp L w1 (hv.up g1) hl)
  have HV := hid hv
  have HZ := hid hz
  have H1 := hid (And.intro g1 r1)
  clear g1 r1 hv hz
  obtain ⟨n, hn'⟩ : ∃ n, L.length = n := ⟨_, rfl⟩
  have HN := hid hn'
  rw [hn'] at HV HZ HL1 A4 H1 hw1 ⊢
  clear hn' hl
  obtain ⟨i0, hi, hz0, hz1, hz2⟩ := info_parts info24
  obtain ⟨j0, hj, hy0, hy1, hy2⟩ := info_parts info55
  go_enter Tryz.func3, Tryz.ntmps3
  go_upto_region 3 with (first
    | ((with_reducible refine wpList_execW (.agg #[.slice ao n cp]) w1 ?_ ?_ ?_); exact exec_load 24 _ rfl M 0 _ _ rfl _ HL1.out under24 rfl size24; kernel_rfl)
    | (go_at_call 4; refine A4.out.mono ?_; rintro e w2 ⟨b, rfl, hb, hg⟩; have H2 := hid (And.intro hb hg); clear hb hg; cases b))
  · go_ret
    exact ⟨rfl, H1.out.1.up H2.out.2⟩
  obtain ⟨R, hR⟩ : ∃ R, w2.heap.size = R := ⟨_, rfl⟩
  obtain ⟨w3, hw3⟩ : ∃ w3, w2.alloc (.cells roomCells 42) = w3 := ⟨_, rfl⟩
  have s3 : w3.heap.size = R + 1 := by rw [← hw3, World.size_alloc, hR]
  obtain ⟨w4, hw4⟩ : ∃ w4, w3.alloc (.cells bookCells 48) = w4 := ⟨_, rfl⟩
  have s4 : w4.heap.size = R + 1 + 1 := by rw [← hw4, World.size_alloc, s3]
  have hn3 : n ≤ 300 := by rw [← HN.out]; exact H2.out.1 (by first | rfl | trivial)
  have g2 := H2.out.2
  have g3 : G w2 w3 := by rw [← hw3]; exact G.al _ _
  have g4 : G w3 w4 := by rw [← hw4]; exact G.al _ _
  have gw : G w w4 := ((H1.out.1.up g2).up g3).up g4
  have hMR : M < R := by
    have h1 := (Array.getElem?_eq_some_iff.1 H1.out.2).1
    have h2 := g2.size
    omega
  have rR : w4.heap[R]? = some (.cells roomCells 42 (0, 0)) := (g4.block R (by omega)).trans (by rw [← hw3, ← hR]; exact heap_alloc_new _ _)
  have rM : w4.heap[M]? = some (.cells #[.slice ao n cp] 24 (0, 0)) := (g4.block M (by omega)).trans ((g3.block M (by omega)).trans ((g2.block M (Array.getElem?_eq_some_iff.1 H1.out.2).1).trans H1.out.2))
  have bk : BthE w4 (R + 1) (R + 1) 0 0 0 0 true true (fun b => b = R + 1) := by
    have := book_new w3 (R + 1) (by omega)
    rw [bookObj_eq, s3] at this
    rw [← hw4]
    exact this
  have hv4 : HasC w4 (.slice ao n cp) L := HV.out.up gw
  have HL4 := hid (lies_row rM)
  have A5 : Hid (Calls Tryz.prog 5 #[.pointer (some ⟨R, 0, none⟩), .agg #[.slice ao n cp]] w4 fun e w' => ∃ F c, e = .returned (.agg #[.slice (some ⟨F, 0, none⟩) n (n + 40)]) ∧ LaidC R L w4 F c w') := by
    have := roomMerge_any R ao cp L w4 (by rw [HN.out]; exact hv4) (by rw [HN.out]; exact HZ.out) (by rw [HN.out]; exact hn3) (by omega) (fun i hi => (cell_of_row w4 R i _ _ _ rR).trans (room_cell i hi)) (fun o => frozen_of_row w4 R o _ _ rR)
    rw [HN.out] at this
    exact this
  have H4 := hid (And.intro gw (And.intro rM (And.intro bk (And.intro hv4 hMR))))
  clear HL1 A4 g2 g3 g4 gw rR rM bk hv4 H1 H2 hw1
  go_upto_region 4 with (first
    | (refine wpList_new 42 roomCells built42 rfl rfl rfl _ rfl rfl ?_)
    | (refine wpList_new 48 bookCells built48 rfl rfl rfl _ rfl rfl ?_))
  go_upto_region 5 with (first
    | ((with_reducible refine wpList_execW (.agg #[.slice ao n cp]) w4 ?_ ?_ ?_); exact exec_load 24 _ rfl M 0 _ _ rfl _ HL4.out under24 rfl size24; kernel_rfl)
    | (go_at_call 5; refine A5.out.mono ?_; rintro e w5 ⟨F, c, rfl, h⟩; have H5 := hid h; clear h; obtain ⟨I, hI⟩ : ∃ I, w5.heap.size = I := ⟨_, rfl⟩))
  obtain ⟨w6, hw6⟩ : ∃ w6, w5.alloc (.cells #[.slice (some ⟨F, 0, none⟩) n (n + 40)] 24) = w6 := ⟨_, rfl⟩
  have g6 : G w5 w6 := by rw [← hw6]; exact G.al _ _
  have s6 : w6.heap.size = I + 1 := by rw [← hw6, World.size_alloc, hI]
  have hh := H5.out
  unfold LaidC at hh
  rw [HN.out] at hh
  obtain ⟨hroom, hF, hown, hbut, hfar⟩ := hh
  obtain ⟨gw, rM, bk, hv4, hMR⟩ := H4.out
  have hs5 := hbut.size
  have hFI : F < I := by have := (World.ownsRow.lt hown F rfl).2; omega
  have rM5 : w5.heap[M]? = some (.cells #[.slice ao n cp] 24 (0, 0)) := (hbut.block M (by omega) (by omega)).trans rM
  have rM6 : w6.heap[M]? = some (.cells #[.slice ao n cp] 24 (0, 0)) := (g6.block M (by omega)).trans rM5
  have rI6 : w6.heap[I]? = some (.cells #[.slice (some ⟨F, 0, none⟩) n (n + 40)] 24 (0, 0)) := by rw [← hw6, ← hI]; exact heap_alloc_new _ _
  have gw5 : G w w5 := gw.trans (hbut.below (by omega) gw.size)
  have gw6 : G w w6 := gw5.up g6
  have bk6 : BthE w6 (R + 1) (R + 1) 0 0 0 0 true true (fun b => b = R + 1) := by
    have b5 : BthE w5 (R + 1) (R + 1) 0 0 0 0 true true (fun b => b = R + 1) := bk.keep hbut.size (fun x hx => by subst hx; exact hbut.block (R + 1) (by omega) (by omega)) hbut.os hbut.tape hbut.output
    exact b5.up g6
  have HL6 := hid (lies_row rM6)
  obtain ⟨p, hp⟩ : ∃ p, planF L most = p := ⟨_, rfl⟩
  have hpl := plan_lens L most
  rw [hp, HN.out] at hpl
  have A6 : Hid (Calls Tryz.prog 6 #[.agg #[.slice ao n cp], .int .i64 most] w6 fun e w' => ∃ vi vl, e = .returned (.agg (prow vi vl p)) ∧ OwnsI w' w6.heap.size vi p.items ∧ OwnsN w' w6.heap.size vl p.left ∧ G w6 w') := by
    have := rOf_any ao cp L most w6 (by rw [HN.out]; exact HV.out.up gw6) (by rw [HN.out]; omega)
    rw [hp, HN.out] at this
    exact this
  have HP := hid hp
  have H6 := hid (And.intro gw6 (And.intro rM6 (And.intro rI6 (And.intro bk6 (And.intro hroom (And.intro hF (And.intro hown (And.intro hfar (And.intro hMR (And.intro s6 (And.intro g6 (And.intro s4 (And.intro hFI (And.intro (show M < w6.heap.size by omega) hpl))))))))))))))
  rw [hw6]
  clear g6 s6 hroom hF hown hbut hfar gw rM bk hv4 hMR hs5 hFI rM5 rM6 rI6 gw5 gw6 bk6 hp A5 H4 H5 HL4 hw6 hw4 hw3 s3 s4 hpl hI
  go_upto_region 6 with (first
    | ((with_reducible refine wpList_execW (.agg #[.slice ao n cp]) w6 ?_ ?_ ?_); exact exec_load 24 _ rfl M 0 _ _ rfl _ HL6.out under24 rfl size24; kernel_rfl)
    | (go_at_call 6; refine A6.out.mono ?_; rintro e w7 ⟨vi, vl, rfl, h⟩; have H7 := hid h; clear h; obtain ⟨W, hW⟩ : ∃ W, w7.heap.size = W := ⟨_, rfl⟩; have hone := prow_one H7.out.1 H7.out.2.1)
    | ((with_reducible refine wpList_execW (.pointer (some ⟨W, 0, none⟩)) (w7.alloc (.cells z55 55)) ?_ ?_ ?_); exact exec_allocT 55 z55 rfl zero55 _ _ hW; kernel_rfl)
    | ((with_reducible refine wpList_skipW (w7.alloc (.cells (prow vi vl p) 55)) ?_ ?_ ?_); exact exec_fill 55 _ _ rfl (prow vi vl p) z55 w7 (by rw [hW]; rfl) rfl size34 rfl hone; kernel_rfl))
  obtain ⟨w8, hw8⟩ : ∃ w8, w7.alloc (.cells (prow vi vl p) 55) = w8 := ⟨_, rfl⟩
  obtain ⟨K, hK⟩ : ∃ K, R + 1 = K := ⟨_, rfl⟩
  have ZS : Zst w w8 ao cp L p M R K I W F c vi vl := by
    obtain ⟨gw6, rM6, rI6, bk6, hroom, hF, hown, hfar, hMR, s6, g6, s4, hFI, hM6, hpl⟩ := H6.out
    obtain ⟨oi, ol, g7⟩ := H7.out
    have g8 : G w7 w8 := by rw [← hw8]; exact G.al _ _
    have g68 : G w6 w8 := g7.up g8
    have h67 := g7.size
    have hl : ∀ {x : Nat} {o : Obj}, w6.heap[x]? = some o → w8.heap[x]? = some o := fun e => (g68.block _ (Array.getElem?_eq_some_iff.1 e).1).trans e
    have hoc : OwnsC w8 (K + 1) (.slice (some ⟨F, 0, none⟩) (L.length + 40) c) (L ++ mksC 40) := by
      rw [HN.out]
      have o1 : OwnsC w5 (K + 1) (.slice (some ⟨F, 0, none⟩) (n + 40) c) (L ++ mksC 40) := owns_low hown (by omega)
      exact (o1.up g6).up g68
    have hr8 : RoomC w8 R F L.length c := by rw [HN.out]; exact (hroom.upG g6).upG g68
    refine ⟨gw6.up g68, by rw [HN.out]; exact hl rM6, by rw [HN.out]; exact hl rI6, by rw [← hw8, ← hW]; exact heap_alloc_new _ _, owns_low (oi.up g8) (by omega), owns_low (ol.up g8) (by omega), hoc, hr8, ?_, by omega, by omega, by omega, by omega, by omega, by omega, by omega⟩
    have f5 : ∀ x c, (w5.cell? ⟨R, 8, none⟩ = some (.slice (some ⟨x, 0, none⟩) 1 c) ∨ w5.cell? ⟨R, 9, none⟩ = some (.slice (some ⟨x, 0, none⟩) 1 c)) → x ≠ K ∧ x ≠ F := fun x c hx => by
      have := hfar x c hx
      exact ⟨by omega, this.2⟩
    exact far_but (K := w8.heap.size) hroom (But.of_below (g6.up g68)) (by have := g68.size; omega) f5
  have BS : Bst w8 w8 K 0 := by
    obtain ⟨gw6, rM6, rI6, bk6, -⟩ := H6.out
    have g8 : G w7 w8 := by rw [← hw8]; exact G.al _ _
    rw [hK] at bk6
    exact Bst.start (bk6.up (H7.out.2.2.up g8))
  have hpl := H6.out.2.2.2.2.2.2.2.2.2.2.2.2.2.2
  have ZH := hid ZS
  have BH := hid BS
  rw [hw8]
  rw [hK]
  simp only [Act.put, List.setIfInBounds_toArray, List.set_cons_zero, List.set_cons_succ]
  clear ZS BS H6 H7 hw8 A6 HL6 hone hW hK hR hz0 hz1 hz2 hy0 hy1 hy2 hi hj
  go_wp2
  go_loopg [9] 2 (fun gh i wr => ∃ k : Nat, k ≤ 2 ∧ gh = 2 - k ∧ i = .int .i64 (k : Int) ∧ Hid (Bst w8 wr K k))
  case atStart => exact ⟨0, by omega, rfl, rfl, BH.out⟩
  case round =>
    obtain ⟨k, hk, rfl, rfl, HB⟩ := hrel
    have HZr : Hid (Zst w wr ao cp L p M R K I W F c vi vl) := ZH.out.but HB.out.choose_spec.2.1
    have hsz : w8.heap.size ≤ wr.heap.size := HB.out.choose_spec.2.1.size
    by_cases hlt : k < 2
    · have kI : (k : Int) < 2 := by omega
      have HLi := hid (lies_row HZr.out.i)
      have hin : HasC wr (.slice (some ⟨F, 0, none⟩) n (n + 40)) L := by
        have := owns_hasc (cp := n + 40) HZr.out.oc HV.out.choose_spec.choose_spec.2.2
        rwa [HN.out] at this
      have A7 : Hid (Calls Tryz.prog 7 #[.agg #[.slice (some ⟨F, 0, none⟩) n (n + 40)], .int .i64 most] wr fun e w' => PlanAt wr w' e p) := by
        have := of_any (some ⟨F, 0, none⟩) (n + 40) L most wr (by rw [HN.out]; exact hin) (by rw [HN.out]; omega)
        rw [HP.out, HN.out] at this
        exact this
      rw [HN.out] at HLi
      clear hin
      go_upto_region 10 with (first
        | ((with_reducible refine wpList_execW (.agg #[.slice (some ⟨F, 0, none⟩) n (n + 40)]) wr ?_ ?_ ?_); exact exec_load 24 _ rfl I 0 _ _ rfl _ HLi.out under24 rfl size24; kernel_rfl)
        | (go_at_call 7; refine A7.out.mono ?_; rintro e w9 ⟨yi, yl, he, h⟩; have he' : e = .returned (.agg (prow yi yl p)) := he; clear he; subst he'; have H9 := hid h; clear h; obtain ⟨P, hP⟩ : ∃ P, w9.heap.size = P := ⟨_, rfl⟩; have hone := prow_one H9.out.1 H9.out.2.1)
        | ((with_reducible refine wpList_execW (.pointer (some ⟨P, 0, none⟩)) (w9.alloc (.cells z55 55)) ?_ ?_ ?_); exact exec_allocT 55 z55 rfl zero55 _ _ hP; kernel_rfl)
        | ((with_reducible refine wpList_skipW (w9.alloc (.cells (prow yi yl p) 55)) ?_ ?_ ?_); exact exec_fill 55 _ _ rfl (prow yi yl p) z55 w9 (by rw [hP]; rfl) rfl size34 rfl hone; kernel_rfl))
      obtain ⟨w10, hw10⟩ : ∃ w10, w9.alloc (.cells (prow yi yl p) 55) = w10 := ⟨_, rfl⟩
      have g10 : G w9 w10 := by rw [← hw10]; exact G.al _ _
      have gr10 : G wr w10 := H9.out.2.2.2.up g10
      have rP : w10.heap[P]? = some (.cells (prow yi yl p) 55 (0, 0)) := by rw [← hw10, ← hP]; exact heap_alloc_new _ _
      have hPr : wr.heap.size ≤ P := by have := H9.out.2.2.2.size; omega
      have Z10 := HZr.out.up gr10
      have oy : OwnsI w10 wr.heap.size yi p.items := H9.out.1.up g10
      have ol : OwnsN w10 wr.heap.size yl p.left := H9.out.2.1.up g10
      have nP1 : yi.ownBlock ≠ some P := fun e => by have := (World.ownsRow.lt H9.out.1 P e).2; omega
      have nP2 : yl.ownBlock ≠ some P := fun e => by have := (World.ownsRow.lt H9.out.2.1 P e).2; omega
      have A8 := hid (samePlan_p (OwnsI.has oy) (OwnsN.has ol) (OwnsI.has Z10.oi) (OwnsN.has Z10.ol) (by omega) (by omega))
      have HLp := hid (lies_row rP)
      have HLw := hid (lies_row Z10.wt)
      have H10 := hid (And.intro gr10 (And.intro rP (And.intro Z10 (And.intro oy (And.intro ol (And.intro H9.out.2.2.1 (And.intro hPr (And.intro nP1 nP2))))))))
      rw [hw10]
      simp only [Act.put, List.setIfInBounds_toArray, List.set_cons_zero, List.set_cons_succ]
      clear g10 gr10 rP hPr Z10 oy ol nP1 nP2 H9 hw10 A7 HLi hone hP
      have C9 : Hid (∀ w11, G w10 w11 → Calls Tryz.prog 9 #[.slice (some ⟨F, 0, none⟩) n (n + 40), .slice ao n cp] w11 fun e w' => e = .returned (.bool true) ∧ G w11 w') := fun w11 h11 => by
        have Z11 := H10.out.2.2.1.up h11
        have h1 := owns_hasc (cp := n + 40) Z11.oc HV.out.choose_spec.choose_spec.2.2
        have h2 : HasC w11 (.slice ao L.length cp) L := by rw [HN.out]; exact HV.out.up Z11.g
        have := sameCells_any (some ⟨F, 0, none⟩) ao (n + 40) cp L w11 h1 h2 (by rw [HN.out]; omega)
        rwa [HN.out] at this
      have Q11 : Hid (∀ w11, G w10 w11 → w11.cell? ⟨I, 0, none⟩ = some (.slice (some ⟨F, 0, none⟩) n (n + 40)) ∧ w11.cell? ⟨M, 0, none⟩ = some (.slice ao n cp)) := fun w11 h11 => by
        have Z11 := H10.out.2.2.1.up h11
        have q1 : w11.cell? ⟨I, 0, none⟩ = _ := cell_of_row w11 I 0 _ _ _ Z11.i
        have q2 : w11.cell? ⟨M, 0, none⟩ = _ := cell_of_row w11 M 0 _ _ _ Z11.m
        rw [HN.out] at q1 q2
        exact ⟨q1, q2⟩
      go_upto_region 12 with (first
        | ((with_reducible refine wpList_execW (.agg (prow yi yl p)) w10 ?_ ?_ ?_); exact exec_load 55 _ rfl P 0 _ _ rfl _ HLp.out under34 rfl size34; kernel_rfl)
        | ((with_reducible refine wpList_execW (.agg (prow vi vl p)) w10 ?_ ?_ ?_); exact exec_load 55 _ rfl W 0 _ _ rfl _ HLw.out under34 rfl size34; kernel_rfl)
        | (go_at_call 8; refine A8.out.mono ?_; rintro e w11 ⟨rfl, h11⟩; have H11 := hid h11; obtain ⟨q1, q2⟩ := Q11.out w11 h11; clear h11)
        | (go_at_call 9; refine (C9.out w11 H11.out).mono ?_; rintro e w12 ⟨rfl, h12⟩; have H12 := hid (H11.out.up h12); clear h12))
      have C10 : Hid (Calls Tryz.prog 10 #[.pointer (some ⟨K, 0, none⟩), .agg (prow yi yl p), .int .i64 (100 * (k : Int) + 1)] w12 fun e w' => e = .returned (.tuple #[]) ∧ Bst w8 w' K (k + 1)) := by
        obtain ⟨gr10, rP, Z10, oy, ol, hne, hPr, nP1, nP2⟩ := H10.out
        have hc : ((100 * k + 1 : Nat) : Int) = 100 * (k : Int) + 1 := by omega
        have := Bst.plan hsz HB.out (gr10.up H12.out) yi yl p (100 * k + 1) (oy.up H12.out) (ol.up H12.out) hne (by omega) (by omega) (by omega) (by omega)
        rw [hc] at this
        exact this.mono fun e w' h => ⟨h.1, h.2.1⟩
      have HLp2 : Hid (Lies w12 P 0 (prow yi yl p)) := HLp.out.up H12.out
      clear A8 C9 Q11 HLp HLw H11 H12 q1 q2 HZr
      go_upto_region 13 with (first
        | ((with_reducible refine wpList_execW (.agg (prow yi yl p)) w12 ?_ ?_ ?_); exact exec_load 55 _ rfl P 0 _ _ rfl _ HLp2.out under34 rfl size34; kernel_rfl)
        | (go_at_call 10; refine C10.out.mono ?_; rintro e w13 ⟨rfl, h13⟩; have H13 := hid h13; clear h13))
      have C11 := hid (H13.out.hold (by omega))
      clear C10 HLp2 H10
      go_wp2_with (go_at_call 11; refine C11.out.mono ?_; rintro e w14 ⟨rfl, h14⟩; have H14 := hid (H13.out.up h14); clear h14)
      go_roundg (2 - (k + 1))
      case measure => omega
      case rel => exact ⟨k + 1, by omega, rfl, by go_num, H14.out⟩
    · obtain rfl : k = 2 := by omega
      have HCL : Hid (CL wr wr (K + 1) F n c) := ⟨L, HN.out, by have := HZr.out.oc; rwa [HN.out] at this, HV.out.choose_spec.choose_spec.2.2, But.refl _ _⟩
      have FI : I ≠ F := HZr.out.iF
      have qI0 : wr.cell? ⟨I, 0, none⟩ = some (.slice (some ⟨F, 0, none⟩) n (n + 40)) := by
        have q1 : wr.cell? ⟨I, 0, none⟩ = _ := cell_of_row wr I 0 _ _ _ HZr.out.i
        rwa [HN.out] at q1
      have HQI := hid qI0
      obtain ⟨wy, hwy⟩ : ∃ wy, wr = wy := ⟨_, rfl⟩
      rw [hwy] at HCL HQI HZr HB ⊢
      clear qI0 hsz hwy
      go_upto_region 15 with fail
      go_wp2
      go_loopg [11] n (fun gh i wr => ∃ k : Nat, k ≤ n ∧ gh = n - k ∧ i = .int .i64 (k : Int) ∧ Hid (CL wy wr (K + 1) F n c))
      case atStart => exact ⟨0, by omega, rfl, rfl, HCL.out⟩
      case round =>
        obtain ⟨k, hk, rfl, rfl, HC⟩ := hrel
        have qI : wr.cell? ⟨I, 0, none⟩ = some (.slice (some ⟨F, 0, none⟩) n (n + 40)) := HC.out.choose_spec.2.2.2.cell HQI.out FI
        by_cases hlt : k < n
        · have kI : (k : Int) < (n : Int) := by omega
          have kJ : (0 : Int) ≤ (k : Int) := by omega
          obtain ⟨L', hl', oc', ok', hb'⟩ := HC.out
          obtain ⟨x, hx⟩ : ∃ x, L'[k]? = some x := ⟨L'[k]'(by omega), by simp⟩
          obtain ⟨lx, fz⟩ := cfacts oc' hx
          have c1 : wr.cell? ⟨F, k * 10 + 1, none⟩ = some (.int .i64 x.what) := lx 1 _ rfl
          have hok := ok' x (List.mem_of_getElem? hx)
          obtain ⟨wa, hwa⟩ : ∃ wa, wr.setCell ⟨F, k * 10 + 1, none⟩ (.int .i64 (1 + (k : Int) % 4)) = wa := ⟨_, rfl⟩
          have oa := cell_set (x' := { x with what := 1 + (k : Int) % 4 }) oc' hl' hx (j := 1) (by omega) rfl
          rw [hwa] at oa
          have ba : But F wr wa := by rw [← hwa]; exact (But.refl F wr).setCell _ _
          obtain ⟨la, fza⟩ := cfacts oa (set_at hx)
          have c2 : wa.cell? ⟨F, k * 10 + 2, none⟩ = some (.int .i64 x.side) := la 2 _ rfl
          have qIa : wa.cell? ⟨I, 0, none⟩ = some (.slice (some ⟨F, 0, none⟩) n (n + 40)) := ba.cell qI FI
          obtain ⟨wb, hwb⟩ : ∃ wb, wa.setCell ⟨F, k * 10 + 2, none⟩ (.int .i64 ((k : Int) % 3)) = wb := ⟨_, rfl⟩
          have ob := cell_set (x' := { x with what := 1 + (k : Int) % 4, side := (k : Int) % 3 }) oa (by rw [List.length_set]; exact hl') (set_at hx) (j := 2) (by omega) rfl
          rw [hwb, List.set_set] at ob
          have bb : But F wa wb := by rw [← hwb]; exact (But.refl F wa).setCell _ _
          obtain ⟨lb, fzb⟩ := cfacts ob (set_at hx)
          have c5 : wb.cell? ⟨F, k * 10 + 5, none⟩ = some (.int .i64 x.take) := lb 5 _ rfl
          have qIb : wb.cell? ⟨I, 0, none⟩ = some (.slice (some ⟨F, 0, none⟩) n (n + 40)) := bb.cell qIa FI
          have HBB := hid (And.intro ob (And.intro (hb'.trans (ba.trans bb)) (And.intro ok' (And.intro hl' (And.intro hx hok)))))
          have rT : InR x.take := hok.2.2.2.2.1
          unfold InR at rT
          clear lx la lb oa ob ba bb ok' hok oc' hb' hx
          go_upto_region 20 with fail
          go_region
          have HC2 : Hid (CL wy ((wb.setCell ⟨F, k * 10 + 5, none⟩ (.int .i64 (x.take.tdiv 2))).drew) (K + 1) F n c) := by
            obtain ⟨ob, b1, ok', hl', hx, hok⟩ := HBB.out
            have oc := cell_set (x' := { x with what := 1 + (k : Int) % 4, side := (k : Int) % 3, take := x.take.tdiv 2 }) ob (by rw [List.length_set]; exact hl') (set_at hx) (j := 5) (by omega) rfl
            rw [List.set_set] at oc
            have gd : G (wb.setCell ⟨F, k * 10 + 5, none⟩ (.int .i64 (x.take.tdiv 2))) ((wb.setCell ⟨F, k * 10 + 5, none⟩ (.int .i64 (x.take.tdiv 2))).drew) := ⟨rfl, rfl, rfl, Nat.le_refl _, fun _ _ => rfl⟩
            refine ⟨_, by rw [List.length_set]; exact hl', oc.up gd, ok_set ok' ?_, (b1.trans ((But.refl F wb).setCell _ _)).drew⟩
            obtain ⟨o1, o2, o3, o4, o5, o6⟩ := hok
            exact ⟨by unfold InR; constructor <;> (simp only; omega), by unfold InR; constructor <;> (simp only; omega), o3, o4, half_in o5, o6⟩
          generalize hwc : (wb.setCell ⟨F, k * 10 + 5, none⟩ (.int .i64 (x.take.tdiv 2))).drew = wc at HC2 ⊢
          clear hwc HBB rT c1 c2 c5 qIa qIb fz fza fzb hwa hwb qI HC
          (try simp only [Exit.inBlock, Exit.then])
          go_wp2
          go_roundg (n - (k + 1))
          case measure => omega
          case rel => exact ⟨k + 1, by omega, rfl, by go_num, HC2.out⟩
        · obtain rfl : k = n := by omega
          have kN : ¬ (k : Int) < (k : Int) := by omega
          obtain ⟨L', hl', oc', ok', bF⟩ := HC.out
          have Z8 := ZH.out
          have hF8 : F < w8.heap.size := (World.ownsRow.lt Z8.oc F rfl).2
          have hFK : F ≠ K := by have := Z8.fK; omega
          have B2 : Bs2 w8 wr K F 2 := HB.out.over hF8 hFK bF
          have hin : HasC wr (.slice (some ⟨F, 0, none⟩) L'.length (k + 40)) L' := owns_hasc (cp := k + 40) (by rw [hl']; exact oc') ok'
          obtain ⟨v15, w15, hr15, o15, g15, -⟩ := appC_run 22 (show OwnsC wr wr.heap.size (.slice none 0 0) [] from World.ownsRow_nil wr wr.heap.size 62 10) hin (Nat.le_refl _) (by simp; omega) (fun _ => .inr (by simp))
          have o15' : OwnsC w15 wr.heap.size v15 L' := o15
          obtain ⟨pn, cn, e15⟩ := row_form o15'
          rw [hl'] at e15 hr15
          subst e15
          have g15' : G wr w15 := grown_g g15
          obtain ⟨NN, hNN⟩ : ∃ NN, w15.heap.size = NN := ⟨_, rfl⟩
          have HR15 := hid hr15
          have H15 := hid (And.intro B2 (And.intro oc' (And.intro ok' (And.intro hl' (And.intro o15' (And.intro g15' (And.intro bF (And.intro hF8 hFK))))))))
          clear g15 g15' o15 o15' hin B2 Z8 oc' ok' hl' bF HC hr15 hF8 hFK
          go_upto_region 22 with (first
            | ((with_reducible refine wpList_execW (.slice pn k cn) w15 ?_ ?_ ?_); exact exec_appC (v := .slice none 0 0) (src := .slice (some ⟨F, 0, none⟩) k (k + 40)) rfl rfl rfl HR15.out; kernel_rfl)
            | ((with_reducible refine wpList_execW (.pointer (some ⟨NN, 0, none⟩)) (w15.alloc (.cells #[.slice none 0 0] 24)) ?_ ?_ ?_); exact exec_allocT 24 #[.slice none 0 0] rfl zero24 _ _ hNN; kernel_rfl)
            | ((with_reducible refine wpList_skipW (w15.alloc (.cells #[.slice pn k cn] 24)) ?_ ?_ ?_); exact exec_fill 24 _ _ rfl #[.slice pn k cn] #[.slice none 0 0] w15 (by rw [hNN]; rfl) rfl size24 rfl (by simp [Value.oneCell']); kernel_rfl))
          obtain ⟨w16, hw16⟩ : ∃ w16, w15.alloc (.cells #[.slice pn k cn] 24) = w16 := ⟨_, rfl⟩
          have g16 : G w15 w16 := by rw [← hw16]; exact G.al _ _
          have gr16 : G wr w16 := H15.out.2.2.2.2.2.1.up g16
          have rN : w16.heap[NN]? = some (.cells #[.slice pn k cn] 24 (0, 0)) := by rw [← hw16, ← hNN]; exact heap_alloc_new _ _
          have rI : wr.heap[I]? = some (.cells #[.slice (some ⟨F, 0, none⟩) k (k + 40)] 24 (0, 0)) := by
            have h1 := ((HB.out.choose_spec.2.1.block I (Array.getElem?_eq_some_iff.1 ZH.out.i).1 ZH.out.iK).trans ZH.out.i)
            have h2 := (H15.out.2.2.2.2.2.2.1.block I (Array.getElem?_eq_some_iff.1 h1).1 ZH.out.iF).trans h1
            rw [HN.out] at h2
            exact h2
          have rI16 := (gr16.block I (Array.getElem?_eq_some_iff.1 rI).1).trans rI
          have hl' := H15.out.2.2.2.1
          have hin : HasC w16 (.slice (some ⟨F, 0, none⟩) k (k + 40)) L' := by
            have := owns_hasc (cp := k + 40) (show OwnsC wr (K + 1) (.slice (some ⟨F, 0, none⟩) (L'.length + 40) c) (L' ++ mksC 40) by rw [hl']; exact H15.out.2.1) H15.out.2.2.1
            rw [hl'] at this
            exact this.up gr16
          have hnow : HasC w16 (.slice pn k cn) L' := ownsC_has (H15.out.2.2.2.2.1.up g16) H15.out.2.2.1
          obtain ⟨p2, hp2⟩ : ∃ p2, planF L' most = p2 := ⟨_, rfl⟩
          have hpl2 := plan_lens L' most
          rw [hp2, hl'] at hpl2
          have A7 : Hid (Calls Tryz.prog 7 #[.agg #[.slice (some ⟨F, 0, none⟩) k (k + 40)], .int .i64 most] w16 fun e w' => PlanAt w16 w' e p2) := by
            have := of_any (some ⟨F, 0, none⟩) (k + 40) L' most w16 (by rw [hl']; exact hin) (by rw [hl']; omega)
            rw [hp2, hl'] at this
            exact this
          have HLi := hid (lies_row rI16)
          have H16 := hid (And.intro gr16 (And.intro rN (And.intro rI16 (And.intro hin (And.intro hnow (And.intro hl' hp2))))))
          rw [hw16]
          simp only [Act.put, List.setIfInBounds_toArray, List.set_cons_zero, List.set_cons_succ]
          clear g16 gr16 rN rI rI16 hl' hin hnow hp2 hw16 HR15 hNN kN qI HQI HCL
          go_upto_region 23 with (first
            | ((with_reducible refine wpList_execW (.agg #[.slice (some ⟨F, 0, none⟩) k (k + 40)]) w16 ?_ ?_ ?_); exact exec_load 24 _ rfl I 0 _ _ rfl _ HLi.out under24 rfl size24; kernel_rfl)
            | (go_at_call 7; refine A7.out.mono ?_; rintro e w17 ⟨yi, yl, he, h⟩; have he' : e = .returned (.agg (prow yi yl p2)) := he; clear he; subst he'; have H17 := hid h; clear h; obtain ⟨P, hP⟩ : ∃ P, w17.heap.size = P := ⟨_, rfl⟩; have hone := prow_one H17.out.1 H17.out.2.1)
            | ((with_reducible refine wpList_execW (.pointer (some ⟨P, 0, none⟩)) (w17.alloc (.cells z55 55)) ?_ ?_ ?_); exact exec_allocT 55 z55 rfl zero55 _ _ hP; kernel_rfl)
            | ((with_reducible refine wpList_skipW (w17.alloc (.cells (prow yi yl p2) 55)) ?_ ?_ ?_); exact exec_fill 55 _ _ rfl (prow yi yl p2) z55 w17 (by rw [hP]; rfl) rfl size34 rfl hone; kernel_rfl))
          obtain ⟨w18, hw18⟩ : ∃ w18, w17.alloc (.cells (prow yi yl p2) 55) = w18 := ⟨_, rfl⟩
          have g18 : G w17 w18 := by rw [← hw18]; exact G.al _ _
          have g168 : G w16 w18 := H17.out.2.2.2.up g18
          have rP : w18.heap[P]? = some (.cells (prow yi yl p2) 55 (0, 0)) := by rw [← hw18, ← hP]; exact heap_alloc_new _ _
          obtain ⟨gr16, rN, rI16, hin, hnow, hl', hp2⟩ := H16.out
          have rN18 := (g168.block NN (Array.getElem?_eq_some_iff.1 rN).1).trans rN
          have rI18 := (g168.block I (Array.getElem?_eq_some_iff.1 rI16).1).trans rI16
          have oy : OwnsI w18 wr.heap.size yi p2.items := owns_low (H17.out.1.up g18) gr16.size
          have ol : OwnsN w18 wr.heap.size yl p2.left := owns_low (H17.out.2.1.up g18) gr16.size
          have A6 : Hid (∀ W, G w18 W → Calls Tryz.prog 6 #[.agg #[.slice pn k cn], .int .i64 most] W fun e w' => ∃ vi vl, e = .returned (.agg (prow vi vl p2)) ∧ OwnsI w' W.heap.size vi p2.items ∧ OwnsN w' W.heap.size vl p2.left ∧ G W w') := fun W hg => by
            have := rOf_any pn cn L' most W (by rw [hl']; exact (hnow.up g168).up hg) (by rw [hl']; omega)
            rw [hp2, hl'] at this
            exact this
          have A8 : Hid (∀ W vi vl lo, G w18 W → OwnsI W lo vi p2.items → OwnsN W lo vl p2.left → Calls Tryz.prog 8 #[.agg (prow yi yl p2), .agg (prow vi vl p2)] W fun e w' => e = .returned (.bool true) ∧ G W w') := fun W vi vl lo hg h1 h2 =>
            samePlan_p (OwnsI.has (oy.up hg)) (OwnsN.has (ol.up hg)) (OwnsI.has h1) (OwnsN.has h2) (by omega) (by omega)
          have A9 : Hid (∀ W, G w18 W → Calls Tryz.prog 9 #[.slice (some ⟨F, 0, none⟩) k (k + 40), .slice pn k cn] W fun e w' => e = .returned (.bool true) ∧ G W w') := fun W hg => by
            have := sameCells_any (some ⟨F, 0, none⟩) pn (k + 40) cn L' W (by rw [hl']; exact (hin.up g168).up hg) (by rw [hl']; exact (hnow.up g168).up hg) (by rw [hl']; omega)
            rw [hl'] at this
            exact this
          have Q18 : Hid (∀ W, G w18 W → Lies W P 0 (prow yi yl p2) ∧ Lies W NN 0 #[.slice pn k cn] ∧ W.cell? ⟨I, 0, none⟩ = some (.slice (some ⟨F, 0, none⟩) k (k + 40)) ∧ W.cell? ⟨NN, 0, none⟩ = some (.slice pn k cn)) := fun W hg =>
            ⟨(lies_row rP).up hg, (lies_row rN18).up hg, cell_of_row W I 0 _ _ _ ((hg.block I (Array.getElem?_eq_some_iff.1 rI18).1).trans rI18), cell_of_row W NN 0 _ _ _ ((hg.block NN (Array.getElem?_eq_some_iff.1 rN18).1).trans rN18)⟩
          have H18 := hid (And.intro (gr16.up g168) (And.intro oy (And.intro ol H17.out.2.2.1)))
          rw [hw18]
          simp only [Act.put, List.setIfInBounds_toArray, List.set_cons_zero, List.set_cons_succ]
          clear g18 g168 rP gr16 rN rI16 hin hnow hl' hp2 rN18 rI18 oy ol H17 hw18 A7 HLi hone hP H16
          have A10 : Hid (∀ W, G w18 W → Calls Tryz.prog 10 #[.pointer (some ⟨K, 0, none⟩), .agg (prow yi yl p2), .int .i64 1001] W fun e w' => e = .returned (.tuple #[]) ∧ (∃ A, BthE w' K K 3 0 3 3 true true A) ∧ RoomC w' R F k c ∧ G w w') := fun W hg => by
            obtain ⟨B2, oc', ok', hl', o15', g15', bF, hF8, hFK⟩ := H15.out
            obtain ⟨gr18, oy, ol, hne⟩ := H18.out
            refine (Bs2.plan B2 (gr18.up hg) yi yl p2 1001 (oy.up hg) (ol.up hg) hne (by omega) (by omega) (by omega) (by omega)).mono ?_
            rintro e w' ⟨rfl, hb, hblk, hs, ho1, ho2, ho3⟩
            obtain ⟨-, -, -, hw8, hs8', q1, q2, q3⟩ := B2
            have Z8 := ZH.out
            have hall : ∀ b, b < w8.heap.size → b ≠ K → b ≠ F → w'.heap[b]? = w8.heap[b]? := fun b h1 h2 h3 => (hblk b h1 h2).trans (hw8 b h1 h2 h3)
            have oc2 : OwnsC w' (K + 1) (.slice (some ⟨F, 0, none⟩) (k + 40) c) (L' ++ mksC 40) := rowB oc' fun x hx => by
              have : x = F := by simpa [Value.ownBlock] using hx.symm
              subst this
              exact hblk x hF8 hFK
            have room8 : RoomC w8 R F k c := by have := Z8.room; rwa [HN.out] at this
            refine ⟨rfl, hb, room8.far_same hall Z8.rK Z8.rF Z8.far (owns_marks' oc2 hl'), ⟨ho1.trans (q1.trans Z8.g.os), ho2.trans (q2.trans Z8.g.tape), ho3.trans (q3.trans Z8.g.output), by have := Z8.g.size; omega, fun b hb' => ?_⟩⟩
            have h1 := Z8.hK
            have h2 := Z8.fK
            have h3 := Z8.g.size
            exact (hall b (by omega) (by omega) (by omega)).trans (Z8.g.block b hb')
          have A11 : Hid (∀ W, (∃ A, BthE W K K 3 0 3 3 true true A) → Calls Tryz.prog 11 #[.pointer (some ⟨K, 0, none⟩)] W fun e w' => e = .returned (.bool true) ∧ G W w') := fun W ⟨A, h⟩ => hold_all h (by omega) (by omega)
          have A12 : Hid (∀ W, RoomC W R F k c → Calls Tryz.prog 12 #[.pointer (some ⟨R, 0, none⟩)] W fun e w' => e = .returned (.bool true) ∧ G W w') := fun W h => roomHold_any R F k c W h hn3
          obtain ⟨qi, di, ei⟩ := row_form H18.out.2.1
          obtain ⟨ql, dl, el⟩ := row_form H18.out.2.2.1
          obtain ⟨wd, hwd⟩ : ∃ wd, w18.drew = wd := ⟨_, rfl⟩
          have gd : G w18 wd := by rw [← hwd]; exact ⟨rfl, rfl, rfl, Nat.le_refl _, fun _ _ => rfl⟩
          have HGD := hid gd
          have HQ6 : Hid (∀ W, G w18 W → W.cell? ⟨P, 0, none⟩ = some yi ∧ W.cell? ⟨P, 1, none⟩ = some yl ∧ W.cell? ⟨P, 2, none⟩ = some (.int .i64 p2.na) ∧ W.cell? ⟨P, 3, none⟩ = some (.int .i64 p2.ba) ∧ W.cell? ⟨P, 4, none⟩ = some (.int .i64 p2.nb) ∧ W.cell? ⟨P, 5, none⟩ = some (.int .i64 p2.bb)) := fun W hg => by
            have h := (Q18.out W hg).1
            exact ⟨h 0 _ rfl, h 1 _ rfl, h 2 _ rfl, h 3 _ rfl, h 4 _ rfl, h 5 _ rfl⟩
          obtain ⟨r0, r1, r2, r3, r4, r5⟩ := HQ6.out wd gd
          obtain ⟨-, -, q1, q2⟩ := Q18.out wd gd
          subst ei el
          unfold prow pRow at A8 A6
          obtain ⟨i0, hi, hz0, hz1, hz2⟩ := info_parts info24
          obtain ⟨j0, hj, hy0, hy1, hy2⟩ := info_parts info55
          clear gd
          go_region_law (first
            | (rw [if_pos (by rfl)]; go_simp; go_at_call 6; refine (A6.out wd HGD.out).mono ?_; rintro e w19 ⟨xi, xl, rfl, h19⟩; have H19 := hid h19; have HG19 := hid (HGD.out.up h19.2.2); obtain ⟨s0, s1, s2, s3, s4, s5⟩ := HQ6.out w19 HG19.out; clear h19 r0 r1 r2 r3 r4 r5 q1 q2)
            | (rw [if_pos (by rfl)]; go_simp; go_at_call 8; refine (A8.out w19 xi xl _ HG19.out H19.out.1 H19.out.2.1).mono ?_; rintro e w20 ⟨rfl, h20⟩; have HG20 := hid (HG19.out.up h20); obtain ⟨-, -, q3, q4⟩ := Q18.out w20 HG20.out; clear h20 s0 s1 s2 s3 s4 s5)
            | (rw [if_pos (by rfl)]; go_simp; go_at_call 9; refine (A9.out w20 HG20.out).mono ?_; rintro e w21 ⟨rfl, h21⟩; have HG21 := hid (HG20.out.up h21); clear h21))
          all_goals
            have HLp := hid (Q18.out w21 HG21.out).1
            have C10 := hid (A10.out w21 HG21.out)
            clear A6 A8 A9 Q18 HQ6 HG19 HG20 H19 HGD q3 q4
            go_wp2_with (first
              | ((with_reducible refine wpList_execW (.agg (prow (.slice qi p2.items.length di) (.slice ql p2.left.length dl) p2)) w21 ?_ ?_ ?_); exact exec_load 55 _ rfl P 0 _ _ rfl _ HLp.out under34 rfl size34; kernel_rfl)
              | (go_at_call 10; refine C10.out.mono ?_; rintro e w22 ⟨rfl, h22⟩; have H22 := hid h22; have C11 := hid (A11.out w22 h22.1); clear h22)
              | (go_at_call 11; refine C11.out.mono ?_; rintro e w23 ⟨rfl, h23⟩; have H23 := hid h23; have C12 := hid (A12.out w23 (H22.out.2.1.upG h23)); clear h23)
              | (go_at_call 12; refine C12.out.mono ?_; rintro e w24 ⟨rfl, h24⟩; have H24 := hid h24; clear h24))
            go_ret
            exact ⟨rfl, (H22.out.2.2.up H23.out).up H24.out⟩
end Go.Proofs.YtpenaeoodfgmpaaGreatDoor
