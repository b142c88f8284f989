import Derived.Test.YtlelgboklkmkdaaDRefR
set_option maxRecDepth 100000
set_option maxHeartbeats 8000000
/-
  The reference's joining of two lists of entries, step by step.
-/
namespace Go.Proofs.Ytlelgboklkmkdaa.Rf
open Go.RowKit Ch
def oE (a b : List Et) (i k : Nat) : Int := match a[i]?, b[k]? with
  | none, _ => 1
  | some _, none => -1
  | some x, some y => cmpL (tl x.p) (tl y.p)
def gL (a : List Et) (i : Nat) : List Cd := match a[i]? with | none => [] | some x => [⟨x.p, cvV x.v, Ch.vz⟩]
def gR (b : List Et) (k : Nat) : List Cd := match b[k]? with | none => [] | some y => [⟨y.p, Ch.vz, cvV y.v⟩]
def gB (a b : List Et) (i k : Nat) : List Cd := match a[i]?, b[k]? with | some x, some y => if x.v = y.v then [] else [⟨x.p, cvV x.v, cvV y.v⟩] | _, _ => []
def st (a b : List Et) (i k : Nat) : List Cd := if oE a b i k < 0 then gL a i else if 0 < oE a b i k then gR b k else gB a b i k
def ni (a b : List Et) (i k : Nat) : Nat := if oE a b i k ≤ 0 then i + 1 else i
def nk (a b : List Et) (i k : Nat) : Nat := if 0 ≤ oE a b i k then k + 1 else k
def rm (a b : List Et) (i k : Nat) : Nat := (a.length - i) + (b.length - k)
def rsF (a b : List Et) : Nat → Nat → Nat → List Cd
  | 0, _, _ => []
  | f + 1, i, k => if i < a.length ∨ k < b.length then st a b i k ++ rsF a b f (ni a b i k) (nk a b i k) else []
theorem o_left {a b : List Et} {i k : Nat} (ho : oE a b i k ≤ 0) : i < a.length := by
  unfold oE at ho
  by_cases hi : i < a.length
  · exact hi
  · rw [List.getElem?_eq_none (by omega)] at ho
    simp at ho
theorem o_right {a b : List Et} {i k : Nat} (h : i < a.length ∨ k < b.length) (ho : 0 ≤ oE a b i k) : k < b.length := by
  unfold oE at ho
  by_cases hj : k < b.length
  · exact hj
  · have hi : i < a.length := by omega
    rw [List.getElem?_eq_none (l := b) (by omega), List.getElem?_eq_getElem hi] at ho
    simp at ho
theorem rm_next {a b : List Et} {i k : Nat} (h : i < a.length ∨ k < b.length) : rm a b (ni a b i k) (nk a b i k) < rm a b i k := by
  unfold rm ni nk
  by_cases h1 : oE a b i k ≤ 0
  · have := o_left h1
    rw [if_pos h1]
    split
    · rename_i h2
      have := o_right h h2
      omega
    · omega
  · have h2 : 0 ≤ oE a b i k := by omega
    have := o_right h h2
    rw [if_neg h1, if_pos h2]
    omega
theorem rsF_succ (a b : List Et) (f i k : Nat) : rsF a b (f + 1) i k = if i < a.length ∨ k < b.length then st a b i k ++ rsF a b f (ni a b i k) (nk a b i k) else [] := rfl
theorem rsF_more (a b : List Et) : ∀ (f i k : Nat), rm a b i k ≤ f → rsF a b (f + 1) i k = rsF a b f i k
  | 0, i, k, h => by
    unfold rm at h
    rw [rsF_succ, if_neg (by omega)]
    rfl
  | f + 1, i, k, h => by
    rw [rsF_succ a b (f + 1) i k, rsF_succ a b f i k]
    split
    · rename_i hc
      rw [rsF_more a b f _ _ (by have := rm_next hc; omega)]
    · rfl
theorem rsF_enough (a b : List Et) (i k : Nat) : ∀ m, rsF a b (rm a b i k + m) i k = rsF a b (rm a b i k) i k
  | 0 => rfl
  | m + 1 => by rw [← Nat.add_assoc, rsF_more a b _ i k (by omega), rsF_enough a b i k m]
/-- what comes from a place on -/
def rs (a b : List Et) (i k : Nat) : List Cd := rsF a b (rm a b i k) i k
theorem rs_step {a b : List Et} {i k : Nat} (h : i < a.length ∨ k < b.length) : rs a b i k = st a b i k ++ rs a b (ni a b i k) (nk a b i k) := by
  have h1 := rm_next h
  obtain ⟨m, hm⟩ : ∃ m, rm a b i k = rm a b (ni a b i k) (nk a b i k) + m + 1 := ⟨rm a b i k - rm a b (ni a b i k) (nk a b i k) - 1, by omega⟩
  unfold rs
  rw [hm, rsF_succ, if_pos h, rsF_enough]
theorem rs_done {a b : List Et} {i k : Nat} (h : ¬ (i < a.length ∨ k < b.length)) : rs a b i k = [] := by
  unfold rs rm
  rw [show a.length - i + (b.length - k) = 0 by omega]
  rfl
theorem st_one (a b : List Et) (i k : Nat) : (st a b i k).length ≤ 1 := by
  unfold st gL gR gB
  repeat' split
  all_goals simp
theorem rsF_len (a b : List Et) : ∀ f i k, (rsF a b f i k).length ≤ f
  | 0, _, _ => by simp [rsF]
  | f + 1, i, k => by
    rw [rsF_succ]
    split
    · rw [List.length_append]
      have := st_one a b i k
      have := rsF_len a b f (ni a b i k) (nk a b i k)
      omega
    · simp
theorem tlen {a : List Et} {A : List DO.Ent} (h : Tells2 a A) : a.length = A.length := by
  induction h with
  | nil => rfl
  | cons _ _ ih => simp [ih]
theorem tat {a : List Et} {A : List DO.Ent} (h : Tells2 a A) : ∀ {i : Nat} {x : Et}, a[i]? = some x → ∃ d, A[i]? = some d ∧ Tells x d := by
  induction h with
  | nil => intro i x hi; simp at hi
  | @cons e d a b h t ih =>
    intro i x hi
    cases i with
    | zero => simp at hi; subst hi; exact ⟨d, rfl, h⟩
    | succ i => exact ih (by simpa using hi)
theorem drop_at {A : List DO.Ent} {i : Nat} {d : DO.Ent} (h : A[i]? = some d) : A.drop i = d :: A.drop (i + 1) := by
  obtain ⟨hlt, e⟩ := List.getElem?_eq_some_iff.1 h
  rw [List.drop_eq_getElem_cons hlt, e]
/-- the steps are the joining -/
theorem rsF_mg {a b : List Et} {A B : List DO.Ent} (ha : Tells2 a A) (hb : Tells2 b B) : ∀ (f i k : Nat), rsF a b f i k = (DO.mgE f (A.drop i) (B.drop k)).map toC
  | 0, _, _ => rfl
  | f + 1, i, k => by
    have la := tlen ha
    have lb := tlen hb
    rw [rsF_succ]
    cases hx : a[i]? with
    | none =>
      have hi : ¬ i < a.length := by simpa using hx
      have eA : A.drop i = [] := List.drop_of_length_le (by omega)
      cases hy : b[k]? with
      | none =>
        have hk : ¬ k < b.length := by simpa using hy
        rw [if_neg (by omega), eA, List.drop_of_length_le (l := B) (by omega)]
        rfl
      | some y =>
        have hk : k < b.length := (List.getElem?_eq_some_iff.1 hy).1
        obtain ⟨d, hd, h1, h2, h3⟩ := tat hb hy
        have ho : oE a b i k = 1 := by simp [oE, hx]
        rw [if_pos (by omega), rsF_mg ha hb f, eA, drop_at hd]
        simp only [st, ni, nk, ho, gR, hy, DO.mgE]
        simp only [show ¬ ((1 : Int) < 0) by omega, show (0 : Int) < 1 by omega, show ¬ ((1 : Int) ≤ 0) by omega, show (0 : Int) ≤ 1 by omega, if_true, if_false, List.map_cons, List.singleton_append]
        rw [eA, h1, h2]
        rfl
    | some x =>
      have hi : i < a.length := (List.getElem?_eq_some_iff.1 hx).1
      obtain ⟨d, hd, h1, h2, h3⟩ := tat ha hx
      cases hy : b[k]? with
      | none =>
        have hk : ¬ k < b.length := by simpa using hy
        have eB : B.drop k = [] := List.drop_of_length_le (by omega)
        have ho : oE a b i k = -1 := by simp [oE, hx, hy]
        rw [if_pos (by omega), rsF_mg ha hb f, eB, drop_at hd]
        simp only [st, ni, nk, ho, gL, hx, DO.mgE]
        simp only [show ((-1 : Int) < 0) by omega, show ((-1 : Int) ≤ 0) by omega, show ¬ ((0 : Int) ≤ -1) by omega, if_true, if_false, List.map_cons, List.singleton_append]
        rw [eB, h1, h2]
        rfl
      | some y =>
        have hk : k < b.length := (List.getElem?_eq_some_iff.1 hy).1
        obtain ⟨d', hd', h1', h2', h3'⟩ := tat hb hy
        have ho : oE a b i k = cmpP d.p d'.p := by
          simp only [oE, hx, hy]
          rw [h1, h1', tl_ofB, tl_ofB, cmpL_join h3 h3']
        rw [if_pos (by omega), rsF_mg ha hb f, drop_at hd, drop_at hd', DO.mgE]
        simp only [st, ni, nk, ho]
        rcases Int.lt_trichotomy (cmpP d.p d'.p) 0 with q | q | q
        · simp only [q, show cmpP d.p d'.p ≤ 0 by omega, show ¬ (0 ≤ cmpP d.p d'.p) by omega, if_true, if_false, gL, hx, List.map_cons, List.singleton_append]
          rw [drop_at hd', h1, h2]
          rfl
        · simp only [q, show ¬ ((0 : Int) < 0) by omega, show (0 : Int) ≤ 0 by omega, if_true, if_false, gB, hx, hy, List.map_append]
          rw [h1, h2, h2']
          by_cases e : d.v = d'.v
          · simp [e]
          · simp [e, toC]
        · simp only [q, show ¬ (cmpP d.p d'.p < 0) by omega, show ¬ (cmpP d.p d'.p ≤ 0) by omega, show (0 ≤ cmpP d.p d'.p) by omega, if_true, if_false, gR, hy, List.map_cons, List.singleton_append]
          rw [drop_at hd, h1', h2']
          rfl
end Go.Proofs.Ytlelgboklkmkdaa.Rf
namespace Go.Proofs.Ytlelgboklkmkdaa
open Go.RowKit Ch
def flatA (v : Vd) (m : Md) (ks : F) : List Et := ⟨⟨#[]⟩, v, m⟩ :: flatK ⟨#[]⟩ ks
theorem flatA_tells {v : Vd} {m : Md} {ks : F} (h : goodN ks) : Tells2 (flatA v m ks) (DO.flatN v ks) :=
  .cons ⟨rfl, rfl, fun _ h => by cases h⟩ (flat_tells ks [] (fun _ h => by cases h) h)
/-- the reference's answer is the walk's -/
theorem rs_difs {v v2 : Vd} {m m2 : Md} {k k2 : K} (p p2 : Nat) (h1 : DO.Rise k.flat ∧ goodN k.flat) (h2 : DO.Rise k2.flat ∧ goodN k2.flat) : Rf.rs (flatA v m k.flat) (flatA v2 m2 k2.flat) 0 0 = (dl [] (some ⟨⟨#[]⟩, p, v, m, k⟩) (some ⟨⟨#[]⟩, p2, v2, m2, k2⟩)).map toC := by
  unfold Rf.rs
  rw [Rf.rsF_mg (flatA_tells h1.2) (flatA_tells h2.2)]
  simp only [List.drop_zero]
  have e : Rf.rm (flatA v m k.flat) (flatA v2 m2 k2.flat) 0 0 = k.flat.size + k2.flat.size + 2 := by
    simp only [Rf.rm, flatA, List.length_cons, flatK_len]
    omega
  rw [e, DO.mg_root h1.1 h2.1 _ (by omega)]
  rfl
end Go.Proofs.Ytlelgboklkmkdaa
/-
  twineref13.Of (6) by contract.
-/
namespace Go.Proofs.Ytlelgboklkmkdaa
open Go.RowKit Ch
theorem ent_at {w : World} {lo g n c : Nat} {L : List Et} (h : OwnsE w lo (.slice (some ⟨g, 0, none⟩) n c) L) {i : Nat} {x : Et} (hi : L[i]? = some x) : w.cell? ⟨g, 0 + i * 40, none⟩ = some (.string x.p) ∧ Ch.Lies w g (0 + i * 40 + 1) (vx x.v).toArray := by
  have hat : ∀ j, j < 40 → w.cell? ⟨g, i * 40 + j, none⟩ = (ec x)[j]? := fun j hj => by
    have e := Ch.flat_at (f := ec) ec_size hi hj
    cases hv : (ec x)[j]? with
    | none => rw [Array.getElem?_eq_none_iff] at hv; rw [ec_size] at hv; omega
    | some u => exact h.at _ u (e.trans hv)
  refine ⟨?_, fun j u hj => ?_⟩
  · have := hat 0 (by omega)
    rw [Nat.zero_add]
    rw [Nat.add_zero] at this
    rw [this]
    rfl
  · have hj35 : j < 35 := by have := (Array.getElem?_eq_some_iff.1 hj).1; simpa [vx_len] using this
    have := hat (1 + j) (by omega)
    rw [show 0 + i * 40 + 1 + j = i * 40 + (1 + j) by omega, this]
    simp only [ec, List.getElem?_toArray]
    rw [Nat.add_comm 1 j, List.getElem?_cons_succ, List.getElem?_append_left (by rw [vx_len]; exact hj35)]
    simpa using hj
/-- what Of's loop holds -/
def OI (EA EB : List Et) (w : World) (ga na ca gb nb cb B0 : Nat) (i k : Nat) (v : Value) (wr : World) : Prop :=
  ∃ R, R ++ Rf.rs EA EB i k = Rf.rs EA EB 0 0 ∧ OwnsR wr B0 v R ∧ Below w.heap.size w wr ∧ OwnsE wr w.heap.size (.slice (some ⟨ga, 0, none⟩) na ca) EA ∧ OwnsE wr w.heap.size (.slice (some ⟨gb, 0, none⟩) nb cb) EB ∧ ga < B0 ∧ gb < B0 ∧ B0 ≤ wr.heap.size ∧ w.heap.size ≤ B0
theorem OI.up {EA EB : List Et} {w : World} {ga na ca gb nb cb B0 i k : Nat} {v : Value} {wr wz : World} (h : OI EA EB w ga na ca gb nb cb B0 i k v wr) (hb : Below wr.heap.size wr wz) : OI EA EB w ga na ca gb nb cb B0 i k v wz := by
  obtain ⟨R, h1, h2, h3, h4, h5, h6, h7, h8, h9⟩ := h
  exact ⟨R, h1, h2.up hb, Below.up h3 hb, h4.up hb, h5.up hb, h6, h7, Nat.le_trans h8 hb.size, h9⟩
theorem OI.few {EA EB : List Et} {w : World} {ga na ca gb nb cb B0 i k : Nat} {v : Value} {wr : World} (h : OI EA EB w ga na ca gb nb cb B0 i k v wr) : ∃ n cap p, v = .slice p n cap := by
  obtain ⟨R, h1, h2, _⟩ := h
  obtain ⟨p, c, e⟩ := h2.form
  exact ⟨_, c, p, e⟩
theorem OI.ne {g b B : Nat} (h : g = b) (h1 : g < B) (h2 : B ≤ b) : False := by omega
/-- a change is laid behind what is joined so far -/
theorem OI.app {EA EB : List Et} {w : World} {ga na ca gb nb cb B0 i k : Nat} {v : Value} {wr : World} (h : OI EA EB w ga na ca gb nb cb B0 i k v wr) (hl : EA.length + EB.length ≤ 90000) (hc : i < EA.length ∨ k < EB.length) (c : Cd) (hst : Rf.st EA EB i k = [c]) (D : Nat) (hD : wr.drew.heap.size = D) :
    ∃ v2 w1 w2, wr.drew.alloc (.cells (cc c) 44) = w1 ∧ (Builtin.append_ #[35, 35] 35 #[v, .slice (some ⟨D, 0, none⟩) 1 1]).run Try.prog w1 = .ok v2 w2 ∧ OI EA EB w ga na ca gb nb cb B0 (Rf.ni EA EB i k) (Rf.nk EA EB i k) v2 w2 := by
  obtain ⟨R, h1, h2, h3, h4, h5, h6, h7, h8, h9⟩ := h.up (Below.drews (Below.refl _ wr) ⟨1, rfl⟩)
  have hR : R.length + 1 ≤ 100000 := by
    have := Rf.rsF_len EA EB (Rf.rm EA EB 0 0) 0 0
    rw [show Rf.rsF EA EB (Rf.rm EA EB 0 0) 0 0 = Rf.rs EA EB 0 0 from rfl, ← h1, List.length_append] at this
    unfold Rf.rm at this
    omega
  obtain ⟨v2, w2, r1, r2, r3, r4, r5, _⟩ := app_one 35 c _ rfl h2 h8 hR D hD
  refine ⟨v2, _, w2, rfl, r1, R ++ [c], ?_, r2, h3.trans (r3.mono h9), ?_, ?_, h6, h7, Nat.le_trans h8 r3.size, h9⟩
  · rw [← h1, Rf.rs_step hc, hst]
    simp
  · exact Bk.rowB h4 fun b hb => r4 b (World.ownsRow.lt h4 b hb).2 fun e => OI.ne (by simpa [Value.ownBlock] using hb) h6 (World.ownsRow.lt h2 b e).1
  · exact Bk.rowB h5 fun b hb => r4 b (World.ownsRow.lt h5 b hb).2 fun e => OI.ne (by simpa [Value.ownBlock] using hb) h7 (World.ownsRow.lt h2 b e).1
theorem OI.skip {EA EB : List Et} {w : World} {ga na ca gb nb cb B0 i k : Nat} {v : Value} {wr : World} (h : OI EA EB w ga na ca gb nb cb B0 i k v wr) (hc : i < EA.length ∨ k < EB.length) (hst : Rf.st EA EB i k = []) : OI EA EB w ga na ca gb nb cb B0 (Rf.ni EA EB i k) (Rf.nk EA EB i k) v wr := by
  obtain ⟨R, h1, h2⟩ := h
  refine ⟨R, ?_, h2⟩
  rw [← h1, Rf.rs_step hc, hst]
  simp
theorem refOf_any (c1 c2 : Array Value) (nm1 nm2 : ByteArray) (v1 v2 : Vd) (m1 m2 : Md) (k1 k2 : F) (w : World) (hN1 : HasN w c1 nm1 v1 m1 k1) (hN2 : HasN w c2 nm2 v2 m2 k2) (hw1 : k1.weight ≤ 6000) (hw2 : k2.weight ≤ 6000) (hp1 : ∀ e ∈ flatA v1 m1 k1, e.p.size ≤ 1048576) (hp2 : ∀ e ∈ flatA v2 m2 k2, e.p.size ≤ 1048576) :
    Calls Try.prog 6 #[.agg c1, .agg c2] w fun e w' => ∃ v, e = .returned v ∧ OwnsR w' w.heap.size v (Rf.rs (flatA v1 m1 k1) (flatA v2 m2 k2) 0 0) ∧ Below w.heap.size w w' := by
  have cs1 : c1.size = 41 := by obtain ⟨_, rfl, _⟩ := hN1; exact nc_size ..
  have cs2 : c2.size = 41 := by obtain ⟨_, rfl, _⟩ := hN2; exact nc_size ..
  obtain ⟨EA, hEA⟩ : ∃ EA, flatA v1 m1 k1 = EA := ⟨_, rfl⟩
  obtain ⟨EB, hEB⟩ : ∃ EB, flatA v2 m2 k2 = EB := ⟨_, rfl⟩
  have lA : EA.length ≤ 40000 := by rw [← hEA]; simp only [flatA, List.length_cons, flatK_len]; have := k1.size_le_weight; omega
  have lB : EB.length ≤ 40000 := by rw [← hEB]; simp only [flatA, List.length_cons, flatK_len]; have := k2.size_le_weight; omega
  obtain ⟨B, hB⟩ : ∃ B, w.heap.size = B := ⟨_, rfl⟩
  obtain ⟨W1, hW1⟩ : ∃ W1, (w.alloc (.cells c1 30)).alloc (.cells c2 30) = W1 := ⟨_, rfl⟩
  have g1 : Below w.heap.size w W1 := by rw [← hW1]; exact ((Below.refl _ w).alloc (Nat.le_refl _) _).alloc (by simp) _
  have r1 : W1.heap[B]? = some (.cells c1 30 (0, 0)) := by rw [← hW1, ← hB]; exact (heap_alloc_old _ _ (by simp)).trans (heap_alloc_new _ _)
  have r2 : W1.heap[B + 1]? = some (.cells c2 30 (0, 0)) := by
    rw [← hW1, ← hB]
    have := heap_alloc_new (w.alloc (.cells c1 30)) (.cells c2 30)
    rwa [World.size_alloc] at this
  have l1 : Lies W1 B 0 c1 := fun j u hj => by rw [Nat.zero_add]; exact (cell_of_row _ _ j _ _ _ r1).trans hj
  have l2 : Lies W1 (B + 1) 0 c2 := fun j u hj => by rw [Nat.zero_add]; exact (cell_of_row _ _ j _ _ _ r2).trans hj
  have HPA := hid hp1
  have HPB := hid hp2
  rw [hEA] at HPA ⊢
  rw [hEB] at HPB ⊢
  have HN := hid (And.intro hN1 (And.intro hN2 (And.intro hEA (And.intro hEB g1))))
  clear hN1 hN2 hp1 hp2 hEA hEB g1 r1 r2
  go_enter Try.func6, Try.ntmps6
  go_upto_region 1 with fail
  refine regoF B c1 c2 (fun u W => ∃ ga na ca, u = .slice (some ⟨ga, 0, none⟩) na ca ∧ OwnsE W w.heap.size u EA ∧ Below W1.heap.size W1 W) (fun r => ∃ ga na ca gb nb cb, r.u1 = .slice (some ⟨ga, 0, none⟩) na ca ∧ r.u2 = .slice (some ⟨gb, 0, none⟩) nb cb ∧ OwnsE r.w2 w.heap.size r.u1 EA ∧ OwnsE r.w2 w.heap.size r.u2 EB ∧ Below w.heap.size w r.w2) _ W1 rfl rfl rfl l1 l2 cs1 cs2 ?hG ?hC1 ?hC2 fun r hF => ?_
  case hG =>
    rintro u W ⟨_, _, _, _, _, h⟩
    exact h
  case hC1 =>
    have hd : Below W1.heap.size W1 W1.drew := Below.drews (Below.refl _ _) ⟨1, rfl⟩
    refine (flat20_any nm1 v1 m1 k1 c1 W1.drew ((HN.out.1.below HN.out.2.2.2.2).below hd) (by omega)).mono ?_
    rintro e W ⟨g, n, cap, rfl, ho, hb⟩
    refine ⟨_, rfl, g, n, cap, rfl, ?_, Below.up hd hb⟩
    have := HN.out.2.2.1
    unfold flatA at this
    rw [this] at ho
    exact row_low ho (by have := HN.out.2.2.2.2.size; show _ ≤ W1.heap.size; omega)
  case hC2 =>
    rintro u1 w1 ⟨ga, na, ca, rfl, hoA, hb1⟩
    refine (flat20_any nm2 v2 m2 k2 c2 w1 ((HN.out.2.1.below HN.out.2.2.2.2).below hb1) (by omega)).mono ?_
    rintro e W ⟨g, n, cap, rfl, ho, hb⟩
    have := HN.out.2.2.2.1
    unfold flatA at this
    rw [this] at ho
    have b01 := Below.up HN.out.2.2.2.2 hb1
    exact ⟨_, rfl, ga, na, ca, g, n, cap, rfl, rfl, hoA.up hb, row_low ho b01.size, Below.up b01 hb⟩
  rw [foldoF]
  obtain ⟨ga, na, ca, gb, nb, cb, e1, e2, oA, oB, bl⟩ := hF
  obtain ⟨u1, ww1, u2, W2⟩ := r
  simp only at e1 e2 oA oB bl
  subst e1 e2
  obtain ⟨B0, hB0⟩ : ∃ B0, W2.heap.size = B0 := ⟨_, rfl⟩
  have hna : EA.length = na := by
    obtain ⟨_, ⟨e, _⟩ | ⟨_, _, _, e, _⟩⟩ := oA
    · cases e
    · injection e with _ e _; exact e.symm
  have hnb : EB.length = nb := by
    obtain ⟨_, ⟨e, _⟩ | ⟨_, _, _, e, _⟩⟩ := oB
    · cases e
    · injection e with _ e _; exact e.symm
  have H0 : Hid (OI EA EB w ga na ca gb nb cb B0 0 0 (.slice none 0 0) W2) := ⟨[], by simp, World.ownsRow_nil _ _ _ _, bl, oA, oB, by have := (World.ownsRow.lt oA ga rfl).2; omega, by have := (World.ownsRow.lt oB gb rfl).2; omega, by omega, by have := bl.size; omega⟩
  have HA := hid hna
  have HB := hid hnb
  clear oA oB bl l1 l2 hna hnb
  go_simp
  go_wp2
  go_loopg [7, 8, 9] (na + nb) (fun gh v i8 i9 wr => ∃ (i k : Nat), i ≤ na ∧ k ≤ nb ∧ gh = (na - i) + (nb - k) ∧ i8 = .int .i64 (i : Int) ∧ i9 = .int .i64 (k : Int) ∧ Hid (OI EA EB w ga na ca gb nb cb B0 i k v wr))
  case atStart => exact ⟨0, 0, Nat.zero_le _, Nat.zero_le _, by omega, rfl, rfl, H0.out⟩
  case round =>
    obtain ⟨i, k, hi, hk, rfl, rfl, rfl, HR⟩ := hrel
    by_cases hc : i < EA.length ∨ k < EB.length
    · go_upto_region 4 with fail
      go_cut [24] (fun s24 wx => s24 = .bool true ∧ wx = wr)
      case first =>
        by_cases h1 : (i : Int) < (na : Int)
        · go_wp2
          go_meet
          exact ⟨rfl, rfl⟩
        · have h2 : (k : Int) < (nb : Int) := by have := HA.out; have := HB.out; omega
          go_wp2
          go_meet
          exact ⟨rfl, rfl⟩
      case rest =>
      obtain ⟨rfl, rfl⟩ := hcut
      go_upto_if 28 with fail
      go_cut [10] (fun s10 wx => s10 = .int .i64 (Rf.oE EA EB i k) ∧ Hid (Below wc.heap.size wc wx))
      case first =>
        by_cases h1 : i = na
        · have h1' : ((i : Int) == (na : Int)) = true := by simp [h1]
          have ho : Rf.oE EA EB i k = 1 := by unfold Rf.oE; rw [List.getElem?_eq_none (by have := HA.out; omega)]
          have HO := hid ho
          clear ho
          go_wp2
          go_meet
          exact ⟨by rw [HO.out], Below.refl _ _⟩
        · have h1' : ((i : Int) == (na : Int)) = false := by simp; omega
          have hi1 : i < EA.length := by have := HA.out; omega
          obtain ⟨x, hx⟩ : ∃ x, EA[i]? = some x := ⟨EA[i], by simp⟩
          by_cases h2 : k = nb
          · have h2' : ((k : Int) == (nb : Int)) = true := by simp [h2]
            have ho : Rf.oE EA EB i k = -1 := by unfold Rf.oE; rw [hx, List.getElem?_eq_none (by have := HB.out; omega)]
            have HO := hid ho
            clear ho
            go_wp2
            go_meet
            exact ⟨by rw [HO.out], Below.refl _ _⟩
          · have h2' : ((k : Int) == (nb : Int)) = false := by simp; omega
            have hj1 : k < EB.length := by have := HB.out; omega
            obtain ⟨y, hy⟩ : ∃ y, EB[k]? = some y := ⟨EB[k], by simp⟩
            obtain ⟨R, q1, q2, q3, q4, q5, _⟩ := HR.out
            have la := ent_at q4 hx
            have lb := ent_at q5 hy
            have ho : cmpL (tl x.p) (tl y.p) = Rf.oE EA EB i k := by unfold Rf.oE; rw [hx, hy]
            obtain ⟨cm, hcm⟩ : ∃ cm, Rf.oE EA EB i k = cm := ⟨_, rfl⟩
            rw [hcm] at ho
            have HCM := hid hcm
            have HLL := hid (And.intro la lb)
            have HS := hid (And.intro (HPA.out x (List.mem_of_getElem? hx)) (HPB.out y (List.mem_of_getElem? hy)))
            have HO := hid ho
            clear la lb ho hcm hx hy q1 q2 q3 q4 q5
            go_upto_region 10 with fail
            refine regoP ga 0 na ca i x gb 0 nb cb k y cm _ wc rfl rfl rfl rfl rfl (by omega) (by omega) HLL.out.1.1 HLL.out.1.2 (by omega) (by omega) HLL.out.2.1 HLL.out.2.2 HS.out.1 HS.out.2 HO.out fun _ wz hz => ?_
            rw [foldoP]
            go_simp
            go_wp2
            go_meet
            exact ⟨by rw [HCM.out], hz⟩
      case rest =>
      obtain ⟨rfl, HC⟩ := hcut
      rename_i wcO wc
      obtain ⟨od, hod⟩ : ∃ od, Rf.oE EA EB i k = od := ⟨_, rfl⟩
      have HOD := hid hod
      rw [hod]
      have HR2 := hid (HR.out.up HC.out)
      obtain ⟨on, oc, op', hov⟩ := HR.out.few
      subst hov
      rcases Int.lt_trichotomy od 0 with hneg | hzero | hpos
      · have o1 : od < 0 := hneg
        rw [← HOD.out] at hneg
        have hlt : i < EA.length := Rf.o_left (a := EA) (b := EB) (i := i) (k := k) (by omega)
        obtain ⟨x, hx⟩ : ∃ x, EA[i]? = some x := ⟨EA[i], by simp⟩
        have hst : Rf.st EA EB i k = [⟨x.p, cvV x.v, Ch.vz⟩] := by unfold Rf.st; rw [if_pos hneg]; simp [Rf.gL, hx]
        have hni : Rf.ni EA EB i k = i + 1 := by unfold Rf.ni; rw [if_pos (by omega)]
        have hnk : Rf.nk EA EB i k = k := by unfold Rf.nk; rw [if_neg (by omega)]
        obtain ⟨D, hD⟩ : ∃ D, wc.drew.heap.size = D := ⟨_, rfl⟩
        obtain ⟨v', w1, w2, e1, r1, n1⟩ := HR2.out.app (by omega) hc _ hst D hD
        rw [hni, hnk] at n1
        have hF := n1.few
        have HN1 := hid n1
        obtain ⟨R, q1, q2, q3, q4, q5, _⟩ := HR2.out
        have la := ent_at q4 hx
        have HNA : Hid (i < na) := by have := HA.out; show i < na; omega
        obtain ⟨vn, vc, vp, hv'⟩ := hF
        subst hv'
        have HLL := hid (And.intro la (And.intro hD (And.intro e1 r1)))
        clear n1 la hst hni hnk hx q1 q2 q3 q4 q5 hneg hD e1 r1
        go_upto_region 12 with fail
        refine regoL ga 0 na ca i x D (.slice op' on oc) (.slice vp vn vc) w1 w2 _ wc rfl rfl rfl rfl (by have := HNA.out; omega) (by omega) HLL.out.1.1 HLL.out.1.2 HLL.out.2.1 HLL.out.2.2.1 HLL.out.2.2.2 fun _ => ?_
        rw [foldoL]
        generalize Value.agg (cc ⟨x.p, cvV x.v, Ch.vz⟩) = YC
        generalize Value.agg (vx x.v).toArray = YV
        go_simp
        go_wp2
        have := HNA.out
        go_roundg ((na - (i + 1)) + (nb - k))
        case measure => omega
        case rel => exact ⟨i + 1, k, by omega, by omega, rfl, by go_num, by go_num, HN1.out⟩
      · subst hzero
        have hzero := HOD.out
        have hlt : i < EA.length := Rf.o_left (a := EA) (b := EB) (i := i) (k := k) (by omega)
        have hlk : k < EB.length := Rf.o_right hc (by omega)
        obtain ⟨x, hx⟩ : ∃ x, EA[i]? = some x := ⟨EA[i], by simp⟩
        obtain ⟨y, hy⟩ : ∃ y, EB[k]? = some y := ⟨EB[k], by simp⟩
        have hst : Rf.st EA EB i k = if x.v = y.v then [] else [⟨x.p, cvV x.v, cvV y.v⟩] := by unfold Rf.st; rw [if_neg (by omega), if_neg (by omega)]; simp [Rf.gB, hx, hy]
        have hni : Rf.ni EA EB i k = i + 1 := by unfold Rf.ni; rw [if_pos (by omega)]
        have hnk : Rf.nk EA EB i k = k + 1 := by unfold Rf.nk; rw [if_pos (by omega)]
        obtain ⟨R, q1, q2, q3, q4, q5, _⟩ := HR2.out
        have HLL := hid (And.intro (ent_at q4 hx) (ent_at q5 hy))
        have HNA : Hid (i < na ∧ k < nb) := by have := HA.out; have := HB.out; show i < na ∧ k < nb; omega
        have HST := hid (And.intro hst (And.intro hni hnk))
        clear hst hni hnk hx hy q1 q2 q3 q4 q5 hzero
        go_upto_region 17 with fail
        by_cases hv : x.v = y.v
        · have n1 := HR2.out.skip hc (by rw [HST.out.1, if_pos hv])
          rw [HST.out.2.1, HST.out.2.2] at n1
          refine regoQ ga 0 na ca i x gb 0 nb cb k y false _ wc rfl rfl rfl rfl rfl (by have := HNA.out; omega) (by omega) HLL.out.1.1 HLL.out.1.2 (by have := HNA.out; omega) (by omega) HLL.out.2.1 HLL.out.2.2 (by simp [hv]) fun _ wz hz => ?_
          have HN1 := hid (n1.up hz.below)
          rw [foldoQ]
          generalize Value.agg (vx x.v).toArray = YV
          generalize Value.agg (vx y.v).toArray = YW
          clear n1 hz
          go_simp
          go_wp2
          have := HNA.out
          go_roundg ((na - (i + 1)) + (nb - (k + 1)))
          case measure => omega
          case rel => exact ⟨i + 1, k + 1, by omega, by omega, rfl, by go_num, by go_num, HN1.out⟩
        · refine regoQ ga 0 na ca i x gb 0 nb cb k y true _ wc rfl rfl rfl rfl rfl (by have := HNA.out; omega) (by omega) HLL.out.1.1 HLL.out.1.2 (by have := HNA.out; omega) (by omega) HLL.out.2.1 HLL.out.2.2 (by simp [hv]) fun _ wz hz => ?_
          obtain ⟨D, hD⟩ : ∃ D, wz.drew.heap.size = D := ⟨_, rfl⟩
          have hR3 := HR2.out.up hz.below
          obtain ⟨v', w1, w2, e1, r1, n1⟩ := hR3.app (by omega) hc _ (by rw [HST.out.1, if_neg hv]) D hD
          rw [HST.out.2.1, HST.out.2.2] at n1
          obtain ⟨vn, vc, vp, hv'⟩ := n1.few
          subst hv'
          have HN1 := hid n1
          have HZZ := hid (And.intro hz (And.intro hD (And.intro e1 r1)))
          rw [foldoQ]
          generalize Value.agg (vx x.v).toArray = YV
          generalize Value.agg (vx y.v).toArray = YW
          clear n1 hz hD e1 r1 hR3
          go_simp
          go_upto_region 18 with fail
          refine regoB ga 0 na ca i x gb 0 nb cb k y D (.slice op' on oc) (.slice vp vn vc) w1 w2 _ wz rfl rfl rfl rfl rfl rfl (by have := HNA.out; omega) (by omega) ((HZZ.out.1.cell _).trans HLL.out.1.1) (HLL.out.1.2.drew HZZ.out.1) (by have := HNA.out; omega) (by omega) ((HZZ.out.1.cell _).trans HLL.out.2.1) (HLL.out.2.2.drew HZZ.out.1) HZZ.out.2.1 HZZ.out.2.2.1 HZZ.out.2.2.2 fun _ => ?_
          rw [foldoB]
          generalize Value.agg (cc ⟨x.p, cvV x.v, cvV y.v⟩) = YC
          generalize Value.agg (vx x.v).toArray = YV2
          generalize Value.agg (vx y.v).toArray = YW2
          go_simp
          go_wp2
          have := HNA.out
          go_roundg ((na - (i + 1)) + (nb - (k + 1)))
          case measure => omega
          case rel => exact ⟨i + 1, k + 1, by omega, by omega, rfl, by go_num, by go_num, HN1.out⟩
      · have o1 : ¬ od < 0 := by omega
        have o2 : 0 < od := hpos
        rw [← HOD.out] at hpos
        have hlk : k < EB.length := Rf.o_right hc (by omega)
        obtain ⟨y, hy⟩ : ∃ y, EB[k]? = some y := ⟨EB[k], by simp⟩
        have hst : Rf.st EA EB i k = [⟨y.p, Ch.vz, cvV y.v⟩] := by unfold Rf.st; rw [if_neg (by omega), if_pos hpos]; simp [Rf.gR, hy]
        have hni : Rf.ni EA EB i k = i := by unfold Rf.ni; rw [if_neg (by omega)]
        have hnk : Rf.nk EA EB i k = k + 1 := by unfold Rf.nk; rw [if_pos (by omega)]
        obtain ⟨D, hD⟩ : ∃ D, wc.drew.heap.size = D := ⟨_, rfl⟩
        obtain ⟨v', w1, w2, e1, r1, n1⟩ := HR2.out.app (by omega) hc _ hst D hD
        rw [hni, hnk] at n1
        have hF := n1.few
        have HN1 := hid n1
        obtain ⟨R, q1, q2, q3, q4, q5, _⟩ := HR2.out
        have la := ent_at q5 hy
        have HNA : Hid (k < nb) := by have := HB.out; show k < nb; omega
        obtain ⟨vn, vc, vp, hv'⟩ := hF
        subst hv'
        have HLL := hid (And.intro la (And.intro hD (And.intro e1 r1)))
        clear n1 la hst hni hnk hy q1 q2 q3 q4 q5 hpos hD e1 r1
        go_upto_region 15 with fail
        refine regoR gb 0 nb cb k y D (.slice op' on oc) (.slice vp vn vc) w1 w2 _ wc rfl rfl rfl rfl (by have := HNA.out; omega) (by omega) HLL.out.1.1 HLL.out.1.2 HLL.out.2.1 HLL.out.2.2.1 HLL.out.2.2.2 fun _ => ?_
        rw [foldoR]
        generalize Value.agg (cc ⟨y.p, Ch.vz, cvV y.v⟩) = YC
        generalize Value.agg (vx y.v).toArray = YV
        go_simp
        go_wp2
        have := HNA.out
        go_roundg ((na - i) + (nb - (k + 1)))
        case measure => omega
        case rel => exact ⟨i, k + 1, by omega, by omega, rfl, by go_num, by go_num, HN1.out⟩
    · have h1 : ¬ ((i : Int) < (na : Int)) := by have := HA.out; omega
      have h2 : ¬ ((k : Int) < (nb : Int)) := by have := HB.out; omega
      obtain ⟨on, oc, op', hov⟩ := HR.out.few
      subst hov
      have HRD := hid (Rf.rs_done hc)
      go_wp2
      go_ret
      obtain ⟨R, q1, q2, q3, _, _, _, _, _, q9⟩ := HR.out
      rw [HRD.out, List.append_nil] at q1
      rw [← q1]
      exact ⟨_, rfl, row_low q2 (by omega), by first | exact q3 | (rw [hB] at q3; exact q3)⟩
end Go.Proofs.Ytlelgboklkmkdaa
