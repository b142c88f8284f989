/-
  plan.Of by contract.
-/
import Derived.Test.YtpenaeoodfgmpaaGreatDoorNeed
namespace Go.Proofs.YtpenaeoodfgmpaaGreatDoor
open Go.RowKit

/-- a plan lies in new memory -/
def PlanAt (w w' : World) (e : Ending) (p : Pl) : Prop :=
  ∃ vi vl, e = .returned (.agg #[vi, vl, .int .i64 p.na, .int .i64 p.ba, .int .i64 p.nb, .int .i64 p.bb]) ∧ OwnsI w' w.heap.size vi p.items ∧ OwnsN w' w.heap.size vl p.left ∧ (vi.ownBlock = none ∨ vi.ownBlock ≠ vl.ownBlock) ∧ G w w'
theorem size34 : (Tryz.prog.info? 55).map (·.size) = some 6 := by kernel_rfl
theorem under34 : Tryz.prog.underlying 55 = some (.struct (Tryz.prog.fieldsOf 55)) := by kernel_rfl
theorem exec_storeT {o : Oper} {a : Act} (t : TypeId) (x y : Operand) (ho : o.op = .store t x y) (g : Nat) (c old : Array Value) (hx : a.eval x = .pointer (some ⟨g, 0, none⟩)) (hy : a.eval y = .agg c) (w : World) (hg : w.heap[g]? = some (.cells old t (0, 0)))
    (hz : (Tryz.prog.info? t).map (·.size) = some c.size) (hs' : old.size = c.size) (h1 : c.all (·.oneCell') = true) : (execOp a.eval o).run Tryz.prog w = .ok .skip (w.setRow g c) := by
  unfold execOp
  simp only [ho, hx, hy, Instr.storeAt, Instr.sureAddr, Sem.run_bind, Sem.run_pure, Result.andThen_ok, run_storeVar_row (P := Tryz.prog) w g t t old c hg hz hs' h1]
theorem owns_low {w : World} {lo lo' s n : Nat} {T : TypeId} {v : Value} {xs : List Value} (h : w.ownsRow lo T s v n xs) (hl : lo' ≤ lo) : w.ownsRow lo' T s v n xs := by
  obtain ⟨h1, h | ⟨g, cap, cur, hv, hg, hr⟩⟩ := h
  · exact ⟨h1, .inl h⟩
  · exact ⟨h1, .inr ⟨g, cap, cur, hv, Nat.le_trans hl hg, hr⟩⟩
theorem owns_but {w w' : World} {lo s n B : Nat} {T : TypeId} {v : Value} {xs : List Value} (h : w.ownsRow lo T s v n xs) (hb : But B w w') (hl : B < lo) : w'.ownsRow lo T s v n xs :=
  World.ownsRow.kept h (row := some B) ⟨hb.os, hb.tape, hb.output, hb.size, fun k hk hn => hb.block k hk (fun e => hn (by rw [e]))⟩ (.inr fun e => by have := (World.ownsRow.lt h B e).1; omega)
set_option maxHeartbeats 4000000 in
set_option maxRecDepth 100000 in
theorem of_any (ao : Option Addr) (cp : Nat) (L : List Cd) (most : Int) (w : World) (hv : HasC w (.slice ao L.length cp) L) (hn : L.length ≤ 400) :
    Calls Tryz.prog 7 #[.agg #[.slice ao L.length cp], .int .i64 most] w fun e w' => PlanAt w w' e (planF L most) := by
  obtain ⟨n, hn'⟩ : ∃ n, L.length = n := ⟨_, rfl⟩
  obtain ⟨C, hC⟩ : ∃ C, L.map cnt = C := ⟨_, rfl⟩
  have hCl : C.length = n := by rw [← hC, List.length_map, hn']
  have hCp : ∀ c ∈ C, c.pos := by
    rw [← hC]; intro c hc; obtain ⟨d, _, rfl⟩ := List.mem_map.1 hc; exact cnt_pos d
  have hCo : ∀ c ∈ C, c.ok := by
    rw [← hC]; intro c hc; obtain ⟨d, hd, rfl⟩ := List.mem_map.1 hc; exact cnt_ok (hv.choose_spec.choose_spec.2.2 d hd)
  obtain ⟨M, hM⟩ : ∃ M, cap most = M := ⟨_, rfl⟩
  have hMb : 1 ≤ M ∧ M ≤ 1048576 := by rw [← hM]; exact cap_bd most
  obtain ⟨M1, hM1⟩ : ∃ M1, (if most < 1 then 1 else most) = M1 := ⟨_, rfl⟩
  have hM2 : (if 1048576 < M1 then 1048576 else M1) = M := by
    rw [← hM, ← hM1]; unfold cap mn mx; repeat' split
    all_goals omega
  obtain ⟨B, hB⟩ : ∃ B, leave C M = B := ⟨_, rfl⟩
  have hBl : B.length = C.length := by rw [← hB]; exact leave_len C M
  obtain ⟨T, hT⟩ : ∃ T, its C B n = T := ⟨_, rfl⟩
  have hTl : T.length ≤ 400 := by have := its_len C B n; rw [hT] at this; omega
  have hTc : ∀ t ∈ T, ∃ (i : Nat) (c : Cd), C[i]? = some c ∧ t.cell = (i : Int) := by
    intro t ht; rw [← hT] at ht
    obtain ⟨i, c, _, h2⟩ := its_cell C B n t ht
    exact ⟨i, c, h2⟩
  have HPL : Hid (planF L most = ⟨T, pls B n, (acc C T 0 T.length).1.2, (acc C T 0 T.length).2.2, (acc C T 1 T.length).1.2, (acc C T 1 T.length).2.2⟩) := by
    unfold planF Hid
    simp only [hC, hM, hB, hBl, hCl, hT]
  have K1 := hid (fun W hW => counted_any ao cp L W hW hn)
  have K2 := hid (fun a c W hW => leaveOut_any a c C M W hW (by omega) hCp (by omega) hMb.2)
  have K3 := hid (fun a c b W hW hR => itemsOf_any a c C b B W hW hR (by omega) hBl)
  have K4 := hid (fun b W hR => placesOf_any b B W hR (by omega))
  have K5 := hid (fun a b c d v W hW hI => need_any a b c d C T v W hW hI hCp hTc hTl)
  rw [hC] at K1
  rw [hCl, hB] at K2
  rw [hCl, hT] at K3
  rw [hBl, hCl] at K4
  rw [hCl] at K5
  rw [hn'] at K1
  have HV := hid (hv.up ((G.al w (.cells #[.slice ao L.length cp] 24)).up (G.al _ (.cells #[.slice none 0 0, .slice none 0 0, .int .i64 0, .int .i64 0, .int .i64 0, .int .i64 0] 55))))
  have HC := hid (And.intro hCl hCo)
  rw [hn'] at HV ⊢
  clear hTc hTl hT hBl hB hM hCo hCp hCl hC hv hn hn'
  rw [HPL.out]
  generalize pls B n = PL at *
  clear HPL
  obtain ⟨h, hh⟩ : ∃ h, w.heap.size = h := ⟨_, rfl⟩
  go_enter Tryz.func7, Tryz.ntmps7
  go_upto_region 2 with (go_at_call 19; refine (K1.out _ HV.out).mono ?_; rintro e w1 ⟨rfl, hr1, hb1⟩; simp only [World.size_alloc, hh] at hr1; have H1 := hid (And.intro hr1 hb1); clear hr1 hb1)
  have HH := hid hh
  clear hh
  have A2 := hid (K2.out (some ⟨h + 1 + 1, 0, none⟩) n w1 (H1.out.1.has HC.out.2 HC.out.1))
  obtain ⟨b, hb⟩ : ∃ b, w1.heap.size = b := ⟨_, rfl⟩
  rw [hb] at A2
  go_upto_region 3 with (go_at_call 20; refine A2.out.mono ?_; rintro e w2 ⟨rfl, hr2, hb2⟩; have H2 := hid (And.intro hr2 hb2); clear hr2 hb2)
  have HB := hid hb
  clear hb A2
  have A3 := hid (K3.out (some ⟨h + 1 + 1, 0, none⟩) n b w2 ((H1.out.1.keep H2.out.2).has HC.out.2 HC.out.1) H2.out.1)
  go_upto_region 4 with (go_at_call 21; refine A3.out.mono ?_; rintro e w3 ⟨vi, rfl, h3⟩; obtain ⟨a3, c3, e3⟩ := owns_form h3.1; subst e3; have H3 := hid h3; clear h3)
  clear A3
  have HG3 := hid (H2.out.2.up H3.out.2)
  have A4 := hid (K4.out b w3 (H2.out.1.keep H3.out.2))
  have A5 := hid (fun v W (hW : G w3 W) => K5.out (some ⟨h + 1 + 1, 0, none⟩) a3 n c3 v W (((H1.out.1.keep HG3.out).keep hW).has HC.out.2 HC.out.1) (H3.out.1.has.up hW))
  obtain ⟨g0, z0⟩ : G w w1 ∧ w1.heap[h + 1]? = some (.cells #[.slice none 0 0, .slice none 0 0, .int .i64 0, .int .i64 0, .int .i64 0, .int .i64 0] 55 (0, 0)) := by
    have g1 := G.al w (.cells #[.slice ao n cp] 24)
    have g2 := G.al (w.alloc (.cells #[.slice ao n cp] 24)) (.cells #[.slice none 0 0, .slice none 0 0, .int .i64 0, .int .i64 0, .int .i64 0, .int .i64 0] 55)
    refine ⟨(g1.up g2).up H1.out.2, ?_⟩
    rw [H1.out.2.block _ (by have := HH.out; simp; omega)]
    have := heap_alloc_new (w.alloc (.cells #[.slice ao n cp] 24)) (.cells #[.slice none 0 0, .slice none 0 0, .int .i64 0, .int .i64 0, .int .i64 0, .int .i64 0] 55)
    simpa [HH.out] using this
  have H0 := hid (And.intro g0 z0)
  clear g0 z0
  go_upto_region 5 with (first
    | (go_at_call 22; refine A4.out.mono ?_; rintro e w4 ⟨vl, rfl, h4⟩; obtain ⟨a4, c4, e4⟩ := owns_form h4.1; subst e4; have H4 := hid h4; clear h4)
    | (go_at_call_of 23 (Value.int .i64 0); refine (A5.out 0 _ H4.out.2).mono ?_; rintro e w5 ⟨rfl, h5⟩; have H5 := hid h5; clear h5)
    | (go_at_call_of 23 (Value.int .i64 1); refine (A5.out 1 _ (H4.out.2.up H5.out)).mono ?_; rintro e w6 ⟨rfl, h6⟩; have H6 := hid h6; clear h6; have HZ := hid ((((H2.out.2.up H3.out.2).up H4.out.2).up (H5.out.up H6.out)).block (h + 1) (Array.getElem?_eq_some_iff.1 H0.out.2).1 |>.trans H0.out.2))
    | ((with_reducible refine wpList_skipW (w6.setRow (h + 1) #[.slice a3 T.length c3, .slice a4 PL.length c4, .int .i64 (acc C T 0 T.length).1.2, .int .i64 (acc C T 0 T.length).2.2, .int .i64 (acc C T 1 T.length).1.2, .int .i64 (acc C T 1 T.length).2.2]) ?_ ?_ ?_); exact exec_storeT 55 _ _ rfl (h + 1) #[.slice a3 T.length c3, .slice a4 PL.length c4, .int .i64 (acc C T 0 T.length).1.2, .int .i64 (acc C T 0 T.length).2.2, .int .i64 (acc C T 1 T.length).1.2, .int .i64 (acc C T 1 T.length).2.2] _ rfl rfl _ HZ.out size34 rfl (by simp [Value.oneCell']); kernel_rfl))
  have hb : But (h + 1) w6 (w6.setRow (h + 1) #[.slice a3 T.length c3, .slice a4 PL.length c4, .int .i64 (acc C T 0 T.length).1.2, .int .i64 (acc C T 0 T.length).2.2, .int .i64 (acc C T 1 T.length).1.2, .int .i64 (acc C T 1 T.length).2.2]) := ⟨rfl, rfl, rfl, by simp [World.setRow], fun k _ hn => setRow_other w6 _ _ _ hn⟩
  have hh1 : h + 1 < w1.heap.size := (Array.getElem?_eq_some_iff.1 H0.out.2).1
  have s2 := H2.out.2.size
  have s3 := H3.out.2.size
  have hw : w.heap.size = h := HH.out
  refine bodyPost_ret (results_cell_row (P := Tryz.prog) (p := 4) (ty := 55) rfl _ _ (h + 1) 55 #[.slice a3 T.length c3, .slice a4 PL.length c4, .int .i64 (acc C T 0 T.length).1.2, .int .i64 (acc C T 0 T.length).2.2, .int .i64 (acc C T 1 T.length).1.2, .int .i64 (acc C T 1 T.length).2.2] (0, 0) _ rfl (setRow_heap w6 _ _ _ _ _ HZ.out) under34 rfl size34) rfl ⟨_, _, rfl, ?_, ?_, ?_, ?_⟩
  · exact owns_low (owns_but ((H3.out.1.up H4.out.2).up (H5.out.up H6.out)) hb (by omega)) (by omega)
  · exact owns_low (owns_but (H4.out.1.up (H5.out.up H6.out)) hb (by omega)) (by omega)
  · cases hv : (Value.slice a3 T.length c3).ownBlock with
    | none => exact .inl rfl
    | some x =>
      refine .inr fun e => ?_
      have h1 := (World.ownsRow.lt H3.out.1 x hv).2
      have h2 := (World.ownsRow.lt H4.out.1 x e.symm).1
      omega
  · exact ((H0.out.1.up H2.out.2).up ((H3.out.2.up H4.out.2).up (H5.out.up H6.out))).trans (hb.below (by omega) (by have := H0.out.1.size; have := ((H3.out.2.up H4.out.2).up (H5.out.up H6.out)).size; omega))
end Go.Proofs.YtpenaeoodfgmpaaGreatDoor
