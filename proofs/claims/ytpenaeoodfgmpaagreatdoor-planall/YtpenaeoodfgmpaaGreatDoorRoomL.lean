/-
  The Room of one list of cells: how it is laid.
-/
import Derived.Test.YtpenaeoodfgmpaaGreatDoorSameP
namespace Go.Proofs.YtpenaeoodfgmpaaGreatDoor
open Go.RowKit

def OwnsC (w : World) (lo : Nat) (v : Value) (R : List Cd) : Prop := w.ownsRow lo 62 10 v R.length (flat cc R)
theorem OwnsC.up {w w' : World} {lo : Nat} {v : Value} {R : List Cd} (h : OwnsC w lo v R) (hb : G w w') : OwnsC w' lo v R := World.ownsRow.kept h (grown_of hb) (by cases hv : v.ownBlock <;> simp)
theorem OwnsC.lies {w : World} {lo g n c : Nat} {R : List Cd} (h : OwnsC w lo (.slice (some ⟨g, 0, none⟩) n c) R) {i : Nat} {x : Cd} (hi : R[i]? = some x) : Lies w g (i * 10) (cc x) := by
  have h0 : w.ownsRow lo 62 10 (.slice (some ⟨g, 0, none⟩) R.length c) R.length (flat cc R) := by
    obtain ⟨h1, h2⟩ := h
    refine ⟨h1, ?_⟩
    rcases h2 with ⟨e, _⟩ | ⟨g', cap, cur, e, h3⟩
    · cases e
    · injection e with e1 e2 e3
      injection e1 with e1
      injection e1 with e1 _
      subst e1 e3
      exact .inr ⟨_, _, cur, rfl, h3⟩
  intro j u hj
  have hj' : j < 10 := by have := (Array.getElem?_eq_some_iff.1 hj).1; simpa [cc_size] using this
  have hlt := (List.getElem?_eq_some_iff.1 hi).1
  rw [World.ownsRow.cellAt h0 _ (by omega), flat_at cc_size hi hj']
  exact hj
/-- a mark -/
def lotV (i : Nat) : Int := if i % 2 = 0 then -7701 else -7702
def mkC (i : Nat) : Cd := ⟨⟨#[]⟩, lotV i, 0, 0, 0, 0, 0, 0, 0, 0⟩
def mksC (m : Nat) : List Cd := (List.range m).map mkC
theorem mksC_next (m : Nat) : mksC (m + 1) = mksC m ++ [mkC m] := by simp [mksC, List.range_succ]
theorem mksC_len (m : Nat) : (mksC m).length = m := by simp [mksC]
set_option maxRecDepth 100000 in
theorem lot_any (i : Nat) (w : World) (hi : i ≤ 1000000) : Calls Tryz.prog 88 #[.int .i64 (i : Int)] w fun e w' => e = .returned (.int .i64 (lotV i)) ∧ w' = w := by
  by_cases h : i % 2 = 0
  · have e : lotV i = -7701 := by simp [lotV, h]
    have hz : ((i : Int).tmod 2 == 0) = true := by rw [Int.tmod_eq_emod_of_nonneg (by omega)]; simp; omega
    rw [e]; clear e
    go_enter Tryz.func88, Tryz.ntmps88
    go_wp2
    all_goals go_ret
    all_goals exact ⟨rfl, rfl⟩
  · have e : lotV i = -7702 := by simp [lotV, h]
    have hz : ((i : Int).tmod 2 == 0) = false := by rw [Int.tmod_eq_emod_of_nonneg (by omega)]; simp; omega
    rw [e]; clear e
    go_enter Tryz.func88, Tryz.ntmps88
    go_wp2
    all_goals go_ret
    all_goals exact ⟨rfl, rfl⟩
set_option maxRecDepth 100000 in
/-- a list of cells is put behind one's own -/
theorem appC_run {w : World} {lo : Nat} {v : Value} {ao : Option Addr} {cp : Nat} {R L : List Cd} (ty : TypeId) (h : OwnsC w lo v R) (hs : HasC w (.slice ao L.length cp) L) (hb : lo ≤ w.heap.size) (hl : R.length + L.length ≤ 1000) (hz : L = [] → .slice ao L.length cp = Value.slice none 0 0 ∨ ao ≠ none) :
    ∃ v' w', (Builtin.append_ #[22, 22] ty #[v, .slice ao L.length cp]).run Tryz.prog w = .ok v' w' ∧ OwnsC w' lo v' (R ++ L) ∧ w.grownBy w' v.ownBlock ∧ (v ≠ .slice none 0 0 → v' ≠ .slice none 0 0) := by
  obtain ⟨i0, hi, hz0, hz1, hz2⟩ := info_parts Tryz.info43
  cases ao with
  | none =>
    have hL : L = [] := by
      cases L with
      | nil => rfl
      | cons x L =>
        obtain ⟨g, o, e, _⟩ := hasC_at hs (i := 0) (x := x) rfl
        cases e
    subst hL
    rcases hz rfl with e | e
    · rw [e]
      exact ⟨v, w, run_append_owned_none (P := Tryz.prog) (w := w) lo 22 ty 62 i0 10 Tryz.underlying22 hi v _ _ h, by simpa using h, ⟨rfl, rfl, rfl, Nat.le_refl _, fun _ _ _ => rfl⟩, fun h => h⟩
    · exact absurd rfl e
  | some ad =>
    obtain ⟨v', w', h1, h2, h3, h4, _⟩ := run_append_own_at (P := Tryz.prog) w lo 22 ty 62 i0 _ 10 88 Tryz.underlying22 hi hz0 hz1 hz2 rfl (by omega) v R.length (flat cc R) h ad L.length cp (flat cc L) (flat_len cc_size L) (fun j u hj => by
      have hlt : j < L.length * 10 := by have := (List.getElem?_eq_some_iff.1 hj).1; rwa [flat_len cc_size] at this
      obtain ⟨x, hx⟩ : ∃ x, L[j / 10]? = some x := ⟨L[j / 10]'(by omega), by simp⟩
      obtain ⟨g, o, e, hl2⟩ := hasC_at hs hx
      injection e with e
      subst e
      have hm : j % 10 < 10 := Nat.mod_lt _ (by omega)
      have e2 := flat_at (f := cc) cc_size hx hm
      rw [show j / 10 * 10 + j % 10 = j by omega, hj] at e2
      have := hl2 (j % 10) u e2.symm
      rw [addr_add]
      rw [show o + j = o + j / 10 * 10 + j % 10 by omega]
      exact this) (flat_one cc_one L) (by unfold maxLen; omega) (by omega) hb
    refine ⟨v', w', h1, ?_, h3, fun hv e => hv (h4.1 e).1⟩
    unfold OwnsC
    rw [List.length_append, flat_app]
    exact h2
theorem exec_appC {o : Oper} {a : Act} {s x : Operand} (ho : o.op = .call { callee := .builtin .append, args := #[s, x], argTypes := #[22, 22] }) {v src v' : Value} {w w' : World} (hs : a.eval s = v) (hx : a.eval x = src)
    (hr : (Builtin.append_ #[22, 22] o.type #[v, src]).run Tryz.prog w = .ok v' w') : (execOp a.eval o).run Tryz.prog w = .ok (.value v') w' := by
  unfold execOp
  simp only [ho, resolve, invoke, builtin, Sem.run_bind, Sem.run_pure, Result.andThen_ok, List.map_toArray, List.map_cons, List.map_nil, hs, hx, hr]
theorem Tryz.info22 : (Tryz.prog.info? 22).map (fun i => (i.zero, i.size, i.bytes)) = some (some (.slice none 0 0), 1, 24) := by kernel_rfl
/-- the Room at R holds one list of n cells at F, forty marks behind it -/
structure RoomC (w : World) (R F n c : Nat) : Prop where
  idle : ∀ i, i < 26 → ¬ (8 ≤ i ∧ i < 10) → w.cell? ⟨R, i, none⟩ = some (.slice none 0 0)
  one : ∃ ra ca, w.cell? ⟨R, 8, none⟩ = some (.slice (some ⟨ra, 0, none⟩) 1 ca) ∧ w.cell? ⟨ra, 0, none⟩ = some (.slice (some ⟨F, 0, none⟩) (n + 40) c)
  two : ∃ rb cb, w.cell? ⟨R, 9, none⟩ = some (.slice (some ⟨rb, 0, none⟩) 1 cb) ∧ w.cell? ⟨rb, 0, none⟩ = some (.int .i64 (n : Int))
  marks : ∀ j, j < 40 → Lies w F ((n + j) * 10) (cc (mkC j))
theorem RoomC.up {w w' : World} {R F n c : Nat} (h : RoomC w R F n c) (hb : ∀ p u, w.cell? p = some u → (p.block = F → n * 10 ≤ p.off) → w'.cell? p = some u) (hF : ∀ ra ca, w.cell? ⟨R, 8, none⟩ = some (.slice (some ⟨ra, 0, none⟩) 1 ca) → ra ≠ F) (hG : ∀ rb cb, w.cell? ⟨R, 9, none⟩ = some (.slice (some ⟨rb, 0, none⟩) 1 cb) → rb ≠ F) (hR : R ≠ F) : RoomC w' R F n c := by
  obtain ⟨h1, ⟨ra, ca, h2, h3⟩, ⟨rb, cb, h4, h5⟩, h6⟩ := h
  refine ⟨fun i a b => hb _ _ (h1 i a b) (fun e => absurd e hR), ⟨ra, ca, hb _ _ h2 (fun e => absurd e hR), hb _ _ h3 (fun e => absurd e (hF ra ca h2))⟩, ⟨rb, cb, hb _ _ h4 (fun e => absurd e hR), hb _ _ h5 (fun e => absurd e (hG rb cb h4))⟩, fun j hj i u hu => hb _ _ (h6 j hj i u hu) (fun _ => by show n * 10 ≤ (n + j) * 10 + i; omega)⟩
theorem RoomC.upG {w w' : World} {R F n c : Nat} (h : RoomC w R F n c) (hb : G w w') : RoomC w' R F n c := by
  have k : ∀ p u, w.cell? p = some u → w'.cell? p = some u := fun p u hu => by rw [hb.cell (World.block_lt_of_cell? w _ hu)]; exact hu
  obtain ⟨h1, ⟨ra, ca, h2, h3⟩, ⟨rb, cb, h4, h5⟩, h6⟩ := h
  exact ⟨fun i a b => k _ _ (h1 i a b), ⟨ra, ca, k _ _ h2, k _ _ h3⟩, ⟨rb, cb, k _ _ h4, k _ _ h5⟩, fun j hj => (h6 j hj).up hb⟩
/-- the Room's own rows lie in new blocks beside the list -/
def FarC (w w' : World) (R F : Nat) : Prop := ∀ x c, (w'.cell? ⟨R, 8, none⟩ = some (.slice (some ⟨x, 0, none⟩) 1 c) ∨ w'.cell? ⟨R, 9, none⟩ = some (.slice (some ⟨x, 0, none⟩) 1 c)) → w.heap.size ≤ x ∧ x ≠ F
set_option maxHeartbeats 4000000 in
set_option maxRecDepth 100000 in
/-- layCells of a fresh Room -/
theorem layCells_any (R : Nat) (ao : Option Addr) (cp : Nat) (L : List Cd) (w : World) (hv : HasC w (.slice ao L.length cp) L) (hz : L = [] → .slice ao L.length cp = Value.slice none 0 0 ∨ ao ≠ none) (hn : L.length ≤ 300) (hR : R < w.heap.size)
    (hid0 : ∀ i, i < 26 → w.cell? ⟨R, i, none⟩ = some (.slice none 0 0)) (hf : ∀ o, w.frozen? ⟨R, o, none⟩ = false) :
    Calls Tryz.prog 59 #[.pointer (some ⟨R, 0, none⟩), .slice ao L.length cp, .int .i64 40] w fun e w' => ∃ F c, e = .returned (.slice (some ⟨F, 0, none⟩) L.length (L.length + 40)) ∧ RoomC w' R F L.length c ∧ w.heap.size ≤ F ∧ OwnsC w' w.heap.size (.slice (some ⟨F, 0, none⟩) (L.length + 40) c) (L ++ mksC 40) ∧ But R w w' ∧ FarC w w' R F := by
  obtain ⟨n, hn'⟩ : ∃ n, L.length = n := ⟨_, rfl⟩
  obtain ⟨B0, hB0⟩ : ∃ B0, w.heap.size = B0 := ⟨_, rfl⟩
  have HV := hid hv
  have HN := hid hn'
  have HI := hid hid0
  have HF := hid hf
  obtain ⟨i0, hi, hz0, hz1, hz2⟩ := info_parts Tryz.info43
  clear hv hid0 hf
  rw [hn'] at hn HV ⊢
  go_enter Tryz.func59, Tryz.ntmps59
  go_upto_region 2 with fail
  obtain ⟨w1, hw1⟩ : ∃ w1, w.alloc (.cells #[] 62) = w1 := ⟨_, rfl⟩
  have g1 : G w w1 := by rw [← hw1]; exact G.al _ _
  have o1 : OwnsC w1 B0 (.slice (some ⟨B0, 0, none⟩) 0 0) [] := ⟨rfl, .inr ⟨B0, 0, #[], rfl, Nat.le_refl _, by rw [← hw1, ← hB0]; exact heap_alloc_new _ _, Nat.le_refl _, by unfold maxLen; omega, rfl, rfl⟩⟩
  obtain ⟨v2, w2, hr2, o2, gr2, nn2⟩ := appC_run 22 o1 (by have := HV.out.up g1; rwa [← HN.out] at this) (by rw [← hw1]; simp; omega) (by simp; rw [HN.out]; omega) hz
  rw [List.nil_append] at o2
  have g2 : G w w2 := by
    refine ⟨gr2.os.trans g1.os, gr2.tape.trans g1.tape, gr2.output.trans g1.output, Nat.le_trans g1.size gr2.size, fun k hk => (gr2.block k (Nat.lt_of_lt_of_le hk g1.size) (fun e => ?_)).trans (g1.block k hk)⟩
    simp [Value.ownBlock] at e
    omega
  rw [HN.out] at hr2
  have HR2 := hid hr2
  have H2 : Hid (OwnsC w2 B0 v2 (L ++ mksC 0) ∧ v2 ≠ .slice none 0 0 ∧ G w w2) := ⟨by simpa [mksC] using o2, nn2 (by simp), g2⟩
  rw [hw1]
  clear hw1 g1 o1 hr2 o2 gr2 nn2 g2 hz
  go_upto_region 3 with ((with_reducible refine wpList_execW v2 w2 ?_ ?_ ?_); exact exec_appC (v := .slice (some ⟨B0, 0, none⟩) 0 0) (src := .slice ao n cp) rfl rfl rfl HR2.out; kernel_rfl)
  clear HR2
  go_wp2
  go_loopg [7, 8] 40 (fun gh v i wr => ∃ k : Nat, k ≤ 40 ∧ gh = 40 - k ∧ i = .int .i64 (k : Int) ∧ Hid (OwnsC wr B0 v (L ++ mksC k) ∧ v ≠ .slice none 0 0 ∧ G w wr))
  case atStart => exact ⟨0, Nat.zero_le _, rfl, rfl, H2.out⟩
  case round =>
    clear H2
    obtain ⟨k, hk, rfl, rfl, HR⟩ := hrel
    obtain ⟨a3, c3, e3⟩ := owns_form HR.out.1
    rw [List.length_append, HN.out, mksC_len] at e3
    have h0 := HR.out.2.1
    rw [e3] at h0
    have HOC := hid HR.out.1
    have HGW := hid HR.out.2.2
    rw [e3] at HOC
    subst e3
    have hlL : (L ++ mksC k).length = n + k := by rw [List.length_append, HN.out, mksC_len]
    by_cases hlt : k < 40
    · have kI : (k : Int) < 40 := by omega
      have k0 : (0 : Int) ≤ (k : Int) := by omega
      have CL := hid (lot_any k wr (by omega))
      obtain ⟨lv, hlv⟩ : ∃ lv, lotV k = lv := ⟨_, rfl⟩
      have HMK : Hid (cc (mkC k) = #[.string ⟨#[]⟩, .int .i64 lv, .int .i64 0, .int .i64 0, .int .i64 0, .int .i64 0, .int .i64 0, .int .i64 0, .int .i64 0, .int .i64 0]) := by rw [← hlv]; rfl
      rw [hlv] at CL
      obtain ⟨B1, hB1⟩ : ∃ B1, wr.heap.size = B1 := ⟨_, rfl⟩
      obtain ⟨LK, hLK⟩ : ∃ LK, L ++ mksC k = LK := ⟨_, rfl⟩
      have HLK := hid hLK
      rw [hLK] at HOC hlL
      clear hLK
      have HO : Hid (OwnsC (wr.alloc (.cells #[.string ⟨#[]⟩, .int .i64 lv, .int .i64 0, .int .i64 0, .int .i64 0, .int .i64 0, .int .i64 0, .int .i64 0, .int .i64 0, .int .i64 0] 62)) B0 (.slice a3 (n + k) c3) LK) := HOC.out.up (G.al _ _)
      have HLL := hid hlL
      have HSZ := hid HGW.out.size
      have HB := hid hB0
      clear hlv hlL HR h0
      go_wp2_with (first
        | (go_at_call 88; refine CL.out.mono ?_; rintro e wq ⟨rfl, rfl⟩)
        | (at_builtin; refine wpList_append_lies _ rfl _ _ _ rfl B0 62 i0 _ 10 88 Tryz.underlying22 hi hz0 hz1 hz2 rfl (by omega) (.slice a3 (n + k) c3) LK.length (flat cc LK) rfl HO.out ⟨B1, 0, none⟩ 1 1 (cc (mkC k)).toList rfl rfl ?c1 ?c2 (by omega) (by have := HLL.out; unfold maxLen; omega) (by have := HLL.out; omega) ?c3 (B1 + 1) ?c4 ?_))
      case c1 =>
        intro i u hj
        rw [HMK.out] at hj
        rw [addr_add, Nat.zero_add, ← hB1, new_cell]
        simpa using hj
      case c2 => intro u hu; exact (Array.all_eq_true_iff_forall_mem.1 (cc_one (mkC k))) u (by simpa using hu)
      case c3 => simp; have := HSZ.out; omega
      case c4 => simp [hB1]
      intro g2 cap2 w3 hown hgr hat hlt2
      have HE : Hid (OwnsC w3 B0 (.slice (some ⟨g2, 0, none⟩) (LK.length + 1) cap2) (L ++ mksC (k + 1)) ∧ G w w3) := by
        refine ⟨?_, ?_⟩
        · rw [mksC_next, ← List.append_assoc, HLK.out]
          unfold OwnsC
          rw [flat_snoc, List.length_append]
          exact hown
        · exact grow_below HGW.out (G.al _ _) (fun b hb => by have := (World.ownsRow.lt HO.out b hb).1; have := HB.out; omega) hgr
      clear hown hgr hat
      go_wp2
      go_roundg (40 - (k + 1))
      case measure => omega
      case rel => exact ⟨k + 1, by omega, rfl, by go_num, HE.out.1, by simp, HE.out.2⟩
    · obtain rfl : k = 40 := by omega
      have kI : ¬ ((40 : Nat) : Int) < 40 := by omega
      obtain ⟨F, hF⟩ : ∃ F, a3 = some ⟨F, 0, none⟩ := by
        obtain ⟨_, ⟨e, _⟩ | ⟨g, cap, cur, e, _⟩⟩ := HOC.out
        · exact absurd e h0
        · injection e with e1 _ _
          exact ⟨g, e1⟩
      subst hF
      obtain ⟨C0, hC0⟩ : ∃ C0, wr.heap.size = C0 := ⟨_, rfl⟩
      have hsz := HGW.out.size
      have hFlt := World.ownsRow.lt HOC.out F rfl
      have r8 := (HGW.out.cell (p := ⟨R, 8, none⟩) (by simpa using hR)).trans (HI.out 8 (by omega))
      have r9 := (HGW.out.cell (p := ⟨R, 9, none⟩) (by simpa using hR)).trans (HI.out 9 (by omega))
      obtain ⟨j0, hj, hy0, hy1, hy2⟩ := info_parts Tryz.info22
      obtain ⟨l0, hl, hx0, hx1, hx2⟩ := info_parts Tryz.info3
      have nRC : ¬ R = C0 := by omega
      have HNIL : Hid ((wr.alloc (.cells #[.slice (some ⟨F, 0, none⟩) (n + 40) c3] 22)).ownsRow C0 22 1 (.slice none 0 0) 0 []) := World.ownsRow_nil _ _ _ _
      have HFR := hid (And.intro hFlt hsz)
      clear h0 hlL HR hFlt hsz
      go_upto_region 8 with (at_builtin; refine wpList_append_lies _ rfl _ _ _ rfl C0 22 j0 _ 1 24 Tryz.underlying32 hj hy0 hy1 hy2 rfl (by omega) (.slice none 0 0) 0 [] rfl HNIL.out ⟨C0, 0, none⟩ 1 1 [.slice (some ⟨F, 0, none⟩) (n + 40) c3] rfl rfl ?c1 ?c2 (by omega) (by unfold maxLen; omega) (by omega) ?c3 (C0 + 1) ?c4 ?_)
      case c2 => rfl
      intro ga ca w3 hown hgr hat hlt3
      have gA : G wr w3 := by
        have h1 := G.al wr (.cells #[.slice (some ⟨F, 0, none⟩) (n + 40) c3] 22)
        refine ⟨hgr.os.trans h1.os, hgr.tape.trans h1.tape, hgr.output.trans h1.output, Nat.le_trans h1.size hgr.size, fun k hk => (hgr.block k (Nat.lt_of_lt_of_le hk h1.size) (fun e => by simp [Value.ownBlock] at e)).trans (h1.block k hk)⟩
      have hga : ga = C0 + 1 := by
        rcases hat with h | h
        · simp [Value.ownBlock] at h
        · exact h
      have qa : w3.cell? ⟨ga, 0, none⟩ = some (.slice (some ⟨F, 0, none⟩) (n + 40) c3) := by
        rw [World.ownsRow.cellAt hown 0 (by omega)]; rfl
      have hRC : R < C0 := by have := HFR.out.2; omega
      have s8 := (gA.cell (p := ⟨R, 8, none⟩) (by simp only; omega)).trans r8
      have s9 := (gA.cell (p := ⟨R, 9, none⟩) (by simp only; omega)).trans r9
      have f8 : w3.frozen? ⟨R, 8, none⟩ = false := (gA.frozen (p := ⟨R, 8, none⟩) (by simp only; omega)).trans ((HGW.out.frozen (p := ⟨R, 8, none⟩) (by simpa using hR)).trans (HF.out 8))
      have f9 : w3.frozen? ⟨R, 9, none⟩ = false := (gA.frozen (p := ⟨R, 9, none⟩) (by simp only; omega)).trans ((HGW.out.frozen (p := ⟨R, 9, none⟩) (by simpa using hR)).trans (HF.out 9))
      obtain ⟨w4, hw4⟩ : ∃ w4, w3.setCell ⟨R, 8, none⟩ (.slice (some ⟨ga, 0, none⟩) 1 ca) = w4 := ⟨_, rfl⟩
      have b4 : But R w3 w4 := by rw [← hw4]; exact (But.refl _ w3).setCell 8 _
      have t8 : w4.cell? ⟨R, 8, none⟩ = some (.slice (some ⟨ga, 0, none⟩) 1 ca) := by rw [← hw4]; exact World.cell?_setCell_same _ _ _ s8
      have t9 : w4.cell? ⟨R, 9, none⟩ = some (.slice none 0 0) := by rw [← hw4]; exact (World.cell?_setCell_other _ _ _ _ (by simp)).trans s9
      have u9 : w4.frozen? ⟨R, 9, none⟩ = false := by
        rw [← hw4]
        have := f9
        simp only [World.frozen?, World.setCell, Array.getElem?_modify, if_true] at this ⊢
        cases hh : w3.heap[R]? with
        | none => simp
        | some y => rw [hh] at this; cases y <;> simp_all
      have HI4 : Hid (∀ i, i < 26 → ¬ (8 ≤ i ∧ i < 10) → w4.cell? ⟨R, i, none⟩ = some (.slice none 0 0)) := fun i h1 h2 => by
        rw [← hw4]
        refine (World.cell?_setCell_other _ _ _ _ (by intro e; injection e with _ e2 _; omega)).trans ?_
        exact (gA.cell (p := ⟨R, i, none⟩) (by simp only; omega)).trans ((HGW.out.cell (p := ⟨R, i, none⟩) (by simpa using hR)).trans (HI.out i h1))
      have HA := hid (And.intro gA (And.intro qa (And.intro hga (And.intro b4 hlt3))))
      obtain ⟨D0, hD0⟩ : ∃ D0, w4.heap.size = D0 := ⟨_, rfl⟩
      have hD1 : C0 + 1 < D0 := by have := b4.size; omega
      have nRD : ¬ R = D0 := by omega
      have HNL2 : Hid ((w4.alloc (.cells #[.int .i64 (n : Int)] 3)).ownsRow D0 3 1 (.slice none 0 0) 0 []) := World.ownsRow_nil _ _ _ _
      clear hown hgr hat hlt3 gA hga qa b4 s9 f9 r8 r9
      go_upto_region 9 with (at_builtin; refine wpList_append_lies _ rfl _ _ _ rfl D0 3 l0 _ 1 8 Tryz.underlying28 hl hx0 hx1 hx2 rfl (by omega) (.slice none 0 0) 0 [] rfl HNL2.out ⟨D0, 0, none⟩ 1 1 [.int .i64 (n : Int)] rfl rfl ?d1 ?d2 (by omega) (by unfold maxLen; omega) (by omega) ?d3 (D0 + 1) ?d4 ?_)
      case d1 =>
        intro i u hj2
        match i, hj2 with
        | 0, hj2 => simp at hj2; subst hj2; rw [← hD0]; simp [Addr.add]
      case d2 => intro u hu; simp at hu; subst hu; rfl
      case d3 => simp; omega
      case d4 => simp [hD0]
      intro gb cb w5 hown hgr hat hlt5
      have g5 : G w4 w5 := by
        have h1 := G.al w4 (.cells #[.int .i64 (n : Int)] 3)
        refine ⟨hgr.os.trans h1.os, hgr.tape.trans h1.tape, hgr.output.trans h1.output, Nat.le_trans h1.size hgr.size, fun k hk => (hgr.block k (Nat.lt_of_lt_of_le hk h1.size) (fun e => by simp [Value.ownBlock] at e)).trans (h1.block k hk)⟩
      have qb : w5.cell? ⟨gb, 0, none⟩ = some (.int .i64 (n : Int)) := by
        rw [World.ownsRow.cellAt hown 0 (by omega)]; rfl
      have hgb : gb = D0 + 1 := by
        rcases hat with h | h
        · simp [Value.ownBlock] at h
        · exact h
      have v8 := (g5.cell (p := ⟨R, 8, none⟩) (by simp only; omega)).trans t8
      have v9 := (g5.cell (p := ⟨R, 9, none⟩) (by simp only; omega)).trans t9
      have x9 := (g5.frozen (p := ⟨R, 9, none⟩) (by simp only; omega)).trans u9
      obtain ⟨w6, hw6⟩ : ∃ w6, w5.setCell ⟨R, 9, none⟩ (.slice (some ⟨gb, 0, none⟩) 1 cb) = w6 := ⟨_, rfl⟩
      have b6 : But R w5 w6 := by rw [← hw6]; exact (But.refl _ w5).setCell 9 _
      obtain ⟨gA, qa, hga, b4, hlt3⟩ := HA.out
      have hRB : R < B0 := by omega
      have hFB := HFR.out.1
      have ROOM : Hid (RoomC w6 R F n c3) := by
        refine ⟨fun i h1 h2 => ?_, ⟨ga, ca, ?_, ?_⟩, ⟨gb, cb, ?_, ?_⟩, fun j hj3 => ?_⟩
        · rw [← hw6]
          refine (World.cell?_setCell_other _ _ _ _ (by intro e; injection e with _ e2 _; omega)).trans ?_
          exact (g5.cell (p := ⟨R, i, none⟩) (by simp only; omega)).trans (HI4.out i h1 h2)
        · rw [← hw6]
          exact (World.cell?_setCell_other _ _ _ _ (by intro e; injection e with _ e2 _; omega)).trans v8
        · refine b6.cell ?_ (show ga ≠ R by omega)
          refine (g5.cell (p := ⟨ga, 0, none⟩) (by simp only; omega)).trans ?_
          exact b4.cell qa (show ga ≠ R by omega)
        · rw [← hw6]; exact World.cell?_setCell_same _ _ _ v9
        · exact b6.cell qb (show gb ≠ R by omega)
        · have hm : (L ++ mksC 40)[n + j]? = some (mkC j) := by
            rw [List.getElem?_append_right (by rw [HN.out]; omega), HN.out, Nat.add_sub_cancel_left]
            simp [mksC, hj3]
          have l1 := (HOC.out.lies hm).up gA
          intro i u hu
          have hl1 := l1 i u hu
          refine b6.cell ?_ (show F ≠ R by omega)
          have hl4 := b4.cell hl1 (show F ≠ R by omega)
          exact (g5.cell (World.block_lt_of_cell? w4 _ hl4)).trans hl4
      have FAR : Hid (FarC w w6 R F) := by
        intro x c h
        rw [hB0]
        have s1 := HGW.out.size
        rcases h with h | h
        · have hq : w6.cell? ⟨R, 8, none⟩ = some (.slice (some ⟨ga, 0, none⟩) 1 ca) := by
            rw [← hw6]
            exact (World.cell?_setCell_other _ _ _ _ (by intro e; injection e with _ e2 _; omega)).trans v8
          rw [hq] at h
          injection h with h
          injection h with h _ _
          injection h with h
          injection h with h _ _
          omega
        · have hq : w6.cell? ⟨R, 9, none⟩ = some (.slice (some ⟨gb, 0, none⟩) 1 cb) := by rw [← hw6]; exact World.cell?_setCell_same _ _ _ v9
          rw [hq] at h
          injection h with h
          injection h with h _ _
          injection h with h
          injection h with h _ _
          omega
      have OWN : Hid (OwnsC w6 B0 (.slice (some ⟨F, 0, none⟩) (n + 40) c3) (L ++ mksC 40)) := by
        have o3 := HOC.out.up gA
        have o4 : OwnsC w4 B0 (.slice (some ⟨F, 0, none⟩) (n + 40) c3) (L ++ mksC 40) := World.ownsRow.kept o3 (but_grown b4) (.inr (fun e => by simp [Value.ownBlock] at e; omega))
        have o5 := o4.up g5
        exact World.ownsRow.kept o5 (but_grown b6) (.inr (fun e => by simp [Value.ownBlock] at e; omega))
      have BUT : Hid (But R w w6) := by
        refine ⟨b6.os.trans (g5.os.trans (b4.os.trans (gA.os.trans HGW.out.os))), b6.tape.trans (g5.tape.trans (b4.tape.trans (gA.tape.trans HGW.out.tape))), b6.output.trans (g5.output.trans (b4.output.trans (gA.output.trans HGW.out.output))), ?_, fun k hk hn2 => ?_⟩
        · have := b6.size; have := g5.size; have := b4.size; have := gA.size; have := HGW.out.size; omega
        · have s1 := HGW.out.size
          have s2 := gA.size
          have s3 := b4.size
          have s4 := g5.size
          exact (b6.block k (by omega) hn2).trans ((g5.block k (by omega)).trans ((b4.block k (by omega) hn2).trans ((gA.block k (by omega)).trans (HGW.out.block k hk))))
      have hcap : n + 40 ≤ c3 := by
        obtain ⟨_, ⟨e, _⟩ | ⟨g, cap, cur, e, _, _, hc, _⟩⟩ := HOC.out
        · cases e
        · injection e with _ _ e3
          rw [List.length_append, HN.out, mksC_len] at hc
          omega
      have hcI : (n : Int) + 40 ≤ (c3 : Int) := by omega
      clear hown hgr hat g5 qb b6 b4 gA qa v8 s8 f8 t8 t9 u9 hw4 HNIL HNL2 hgb hga hlt3
      go_wp2
      go_ret
      rw [hB0]
      exact ⟨F, c3, rfl, ROOM.out, hFB.1, OWN.out, BUT.out, FAR.out⟩
end Go.Proofs.YtpenaeoodfgmpaaGreatDoor
