/-
  THE REFERENCE's READER: take.
-/
import Derived.Test.YtfigneaaeakbcaaDoorUa
namespace Go.Proofs.YtfigneaaeakbcaaDoor
open Go.RowKit Hm
attribute [local go_sem] Oper.semAt_some

theorem Rr.kpe {S : Nat → Prop} {c e : Nat} {st : St} {y : Er} {w w' : World} (h : Rr c e (failS st y) w) (k : Kp S w w') (hc : ¬ S c) : Rr c e (failS st y) w' := by
  have hl := h.lt
  cases st with
  | ok ws => obtain ⟨h0, p, n, cap, h1⟩ := h; exact ⟨h0, p, n, cap, (k.block c hl hc).trans h1⟩
  | error z => obtain ⟨h0, p, n, cap, h1⟩ := h; exact ⟨h0, p, n, cap, (k.block c hl hc).trans h1⟩
theorem results_r {fn : Func} {p u : Tmp} (h : fn.results = #[.cell p 65, .tmp u]) (tmps : Array Value) (w : World) (g : Nat) (cs : Array Value)
    (hp : tmps.getD p undef = .pointer (some ⟨g, 0, none⟩)) (hg : w.heap[g]? = some (.cells cs 65 (0, 0))) (hs : cs.size = 3) :
    (results fn tmps).run Tryd.prog w = .ok (.tuple #[.agg cs, tmps.getD u undef]) w := by
  have hp' : tmps[p]?.getD undef = .pointer (some ⟨g, 0, none⟩) := by simpa using hp
  simp [results, h, hp', asAddr, run_loadVar_row (P := Tryd.prog) w g 65 65 cs (0, 0) _ hg Tryd.underlying65 rfl (by rw [siz65, hs])]
/-- a word taken -/
def takeS (st : St) (e : Nat) : Except Er (W × List W) := match st with
  | .ok ws => takeW ws e
  | .error y => .error y
abbrev Z3 : Array Value := #[.int .i64 0, .string ⟨#[]⟩, .int .i64 0]
/-- what take answers -/
def TrP (c e : Nat) (st : St) (w : World) (E : Ending) (w' : World) : Prop := Kp (fun g => g = c) w w' ∧ match takeS st e with
  | .ok (x, r) => E = .returned (.tuple #[.agg (rc x), .bool true]) ∧ Rr c e (.ok r) w'
  | .error y => E = .returned (.tuple #[.agg #[.int .i64 0, .string ⟨#[]⟩, .int .i64 0], .bool false]) ∧ Rr c e (.error y) w'
set_option maxRecDepth 100000 in
set_option maxHeartbeats 4000000 in
theorem rtake_any (c e : Nat) (st : St) (w : World) (h : Rr c e st w) : Calls Tryd.prog 16 #[.pointer (some ⟨c, 0, none⟩)] w (TrP c e st w) := by
  have CF := hid (fun (st' : St) (a r : Nat) (hr : r ≠ 0) (W : World) (h' : Rr c e st' W) => fail_any c e st' a r hr W h')
  have hcl := h.lt
  cases st with
  | error y =>
    have HH := hid h
    obtain ⟨h0, p, n, cap, hb⟩ := h
    have HB := hid hb
    have b1 : ((y.2 : Int) != 0) = true := by simp; omega
    clear hb h0
    go_enter Tryd.func16, Tryd.ntmps16
    go_wp2_with (first
      | ((with_reducible refine pl_alloc 2 65 #[.int .i64 0, .string ⟨#[]⟩, .int .i64 0] ?_ ?_ ?_ ?_ ?_); rfl; rfl; kernel_rfl; exact zero65; intro w1 b1 hb1 hu1 hv1 hs1; have H1 := hid (⟨hb1, hu1, hv1, hs1⟩ : _ ∧ _ ∧ _ ∧ _); clear hb1 hu1 hv1 hs1; have c3 : w1.cell? ⟨c, 3, none⟩ = some (.int .i64 (y.2 : Int)) := (by rw [cell_heap ((H1.out.2.1.block c hcl).trans HB.out)]; rfl))
      | ((with_reducible refine pl_store 65 (.tmp 2) (.tmp 11) b1 #[.int .i64 0, .string ⟨#[]⟩, .int .i64 0] #[.int .i64 0, .string ⟨#[]⟩, .int .i64 0] ?_ ?_ ?_ ?_ ?_ ?_ ?_ ?_ ?_ ?_); rfl; rfl; kernel_rfl; rfl; rfl; exact H1.out.2.2.1; exact siz65; exact rfl; exact (by simp [Value.oneCell']); intro w4 k4 v4 s4; have H4 := hid (⟨k4, v4, s4⟩ : _ ∧ _ ∧ _); clear k4 v4 s4))
    refine bodyPost_ret (results_r (p := 2) (u := 3) rfl _ _ b1 #[.int .i64 0, .string ⟨#[]⟩, .int .i64 0] rfl H4.out.2.1 rfl) rfl ?_
    obtain ⟨p1, p2, p3, p4⟩ := H1.out
    obtain ⟨q1, q2, q3⟩ := H4.out
    have g4 : G w w4 := g_new p2 q1 (by omega)
    exact ⟨Kp.of g4, rfl, HH.out.up g4⟩
  | ok ws =>
    have HH := hid h
    obtain ⟨p, cap, hb, hl⟩ := h
    cases ws with
    | nil =>
      have HB := hid hb
      clear hb hl
      go_enter Tryd.func16, Tryd.ntmps16
      go_wp2_with (first
        | ((with_reducible refine pl_alloc 2 65 #[.int .i64 0, .string ⟨#[]⟩, .int .i64 0] ?_ ?_ ?_ ?_ ?_); rfl; rfl; kernel_rfl; exact zero65; intro w1 b1 hb1 hu1 hv1 hs1; have H1 := hid (⟨hb1, hu1, hv1, hs1⟩ : _ ∧ _ ∧ _ ∧ _); clear hb1 hu1 hv1 hs1; have c3 : w1.cell? ⟨c, 3, none⟩ = some (.int .i64 0) := (by rw [cell_heap ((H1.out.2.1.block c hcl).trans HB.out)]; rfl); have c1 : w1.cell? ⟨c, 1, none⟩ = some (.int .i64 (e : Int)) := (by rw [cell_heap ((H1.out.2.1.block c hcl).trans HB.out)]; rfl); have c0 : w1.cell? ⟨c, 0, none⟩ = some (.slice p 0 cap) := (by rw [cell_heap ((H1.out.2.1.block c hcl).trans HB.out)]; rfl))
        | (go_at_call 17; refine (CF.out (.ok []) e 204 (by decide) w1 (HH.out.up H1.out.2.1)).mono ?_; rintro E w3 ⟨rfl, k3, r3⟩; have H3 := hid (⟨k3, r3⟩ : _ ∧ _); clear k3 r3)
        | ((with_reducible refine pl_store 65 (.tmp 2) (.tmp 24) b1 #[.int .i64 0, .string ⟨#[]⟩, .int .i64 0] #[.int .i64 0, .string ⟨#[]⟩, .int .i64 0] ?_ ?_ ?_ ?_ ?_ ?_ ?_ ?_ ?_ ?_); rfl; rfl; kernel_rfl; rfl; rfl; exact ((H3.out.1.block b1 (by have := H1.out; omega) (by have := H1.out; omega)).trans H1.out.2.2.1); exact siz65; exact rfl; exact (by simp [Value.oneCell']); intro w4 k4 v4 s4; have H4 := hid (⟨k4, v4, s4⟩ : _ ∧ _ ∧ _); clear k4 v4 s4))
      refine bodyPost_ret (results_r (p := 2) (u := 3) rfl _ _ b1 #[.int .i64 0, .string ⟨#[]⟩, .int .i64 0] rfl H4.out.2.1 rfl) rfl ?_
      obtain ⟨p1, p2, p3, p4⟩ := H1.out
      obtain ⟨q1, q2, q3⟩ := H4.out
      obtain ⟨f1, f2⟩ := H3.out
      exact ⟨((Kp.of p2 : Kp (fun g => g = c) w w1).snd f1).new q1 (by omega), rfl, Rr.kpe f2 q1 (by omega)⟩
    | cons x r =>
      obtain ⟨g, o, rfl, hgc, ⟨gcs, gf, hty⟩, hcap, hat⟩ := hl (by simp)
      have HTY := hid hty
      clear hty
      have hL0 := hat 0 (rc x) rfl
      rw [Nat.zero_mul, Nat.add_zero] at hL0
      obtain ⟨X, hX⟩ : ∃ X, X = rc x := ⟨_, rfl⟩
      have hXs : X.size = 3 := by rw [hX]; rfl
      have hX1 : X.all (·.oneCell') = true := by rw [hX]; exact rc_one x
      rw [← hX] at hL0
      simp only [List.length_cons] at hb hcap
      have HB := hid (⟨hb, hat, hL0⟩ : _ ∧ _ ∧ _)
      have HX := hid hX
      have hgl : g < w.heap.size := World.block_lt_of_cell? w _ (hL0 0 (X[0]'(by omega)) (by simp))
      obtain ⟨o2, ho2⟩ : ∃ o2, o2 = if cap = 1 then o else o + 3 := ⟨_, rfl⟩
      have hsl : ∀ W, (Instr.slice 39 (.slice (some ⟨g, o, none⟩) (r.length + 1) cap) (some (.int .i64 1)) none none).run Tryd.prog W = .ok (.slice (some ⟨g, o2, none⟩) r.length (cap - 1)) W := fun W => by rw [ho2]; exact slice_tail ek39 g o r.length cap hcap W
      have HS := hid hsl
      have HO := hid ho2
      have hu39 := Tryd.underlying39
      have i9 : ¬ (r.length : Int) + 1 = 0 := by omega
      have i8 : ¬ ((r.length + 1 : Nat) : Int) = 0 := by omega
      have i7 : (((r.length + 1 : Nat) : Int) == 0) = false := by simp; omega
      have i6 : (((r.length : Int) + 1) == 0) = false := by simp; omega
      clear hb hl hat hL0 hX ho2 hsl
      go_enter Tryd.func16, Tryd.ntmps16
      go_upto_region 7 with (first
        | ((with_reducible refine pl_alloc 2 65 #[.int .i64 0, .string ⟨#[]⟩, .int .i64 0] ?_ ?_ ?_ ?_ ?_); rfl; rfl; kernel_rfl; exact zero65; intro w1 b1 hb1 hu1 hv1 hs1; have H1 := hid (⟨hb1, hu1, hv1, hs1⟩ : _ ∧ _ ∧ _ ∧ _); clear hb1 hu1 hv1 hs1; have c3 : w1.cell? ⟨c, 3, none⟩ = some (.int .i64 0) := (by rw [cell_heap ((H1.out.2.1.block c hcl).trans HB.out.1)]; rfl); have c1 : w1.cell? ⟨c, 0, none⟩ = some (.slice (some ⟨g, o, none⟩) (r.length + 1) cap) := (by rw [cell_heap ((H1.out.2.1.block c hcl).trans HB.out.1)]; rfl))
        | ((with_reducible refine pl_load 30 65 (.tmp 29) g o X _ ?_ ?_ ?_ ?_ ?_ Tryd.underlying65 ?_ ?_ ?_); rfl; rfl; kernel_rfl; rfl; exact (HB.out.2.2.below H1.out.2.1); rfl; exact (by rw [siz65, hXs]))
        | ((with_reducible refine pl_alloc 4 65 #[.int .i64 0, .string ⟨#[]⟩, .int .i64 0] ?_ ?_ ?_ ?_ ?_); rfl; rfl; kernel_rfl; exact zero65; intro w2 b2 hb2 hu2 hv2 hs2; have H2 := hid (⟨hb2, hu2, hv2, hs2⟩ : _ ∧ _ ∧ _ ∧ _); clear hb2 hu2 hv2 hs2)
        | ((with_reducible refine pl_store 65 (.tmp 4) (.tmp 30) b2 X #[.int .i64 0, .string ⟨#[]⟩, .int .i64 0] ?_ ?_ ?_ ?_ ?_ ?_ ?_ ?_ ?_ ?_); rfl; rfl; kernel_rfl; rfl; rfl; exact H2.out.2.2.1; exact (by rw [siz65, hXs]); exact hXs.symm; exact hX1; intro w3 k3 v3 s3; have H3 := hid (⟨k3, v3, s3⟩ : _ ∧ _ ∧ _); clear k3 v3 s3))
      go_simp
      have e3 : w3.heap[c]? = some (.cells #[.slice (some ⟨g, o, none⟩) (r.length + 1) cap, .int .i64 (e : Int), .int .i64 0, .int .i64 0] 41 (0, 0)) := by
        obtain ⟨p1, p2, p3, p4⟩ := H1.out
        obtain ⟨q1, q2, q3, q4⟩ := H2.out
        obtain ⟨s1, s2, s3⟩ := H3.out
        exact (s1.block c (by omega) (by omega)).trans ((q2.block c (by omega)).trans ((p2.block c hcl).trans HB.out.1))
      have c3' : w3.cell? ⟨c, 0, none⟩ = some (.slice (some ⟨g, o, none⟩) (r.length + 1) cap) := by rw [cell_heap e3]; rfl
      have f3 : w3.frozen? ⟨c, 0, none⟩ = false := by simp [World.frozen?, e3]
      have hk4 := Kp.set w3 c 0 (.slice (some ⟨g, o2, none⟩) r.length (cap - 1))
      have e4 : (w3.setCell ⟨c, 0, none⟩ (.slice (some ⟨g, o2, none⟩) r.length (cap - 1))).heap[c]? = some (.cells #[.slice (some ⟨g, o2, none⟩) r.length (cap - 1), .int .i64 (e : Int), .int .i64 0, .int .i64 0] 41 (0, 0)) := by rw [heap_setCell_at _ e3]; rfl
      have s4 : (w3.setCell ⟨c, 0, none⟩ (.slice (some ⟨g, o2, none⟩) r.length (cap - 1))).heap.size = w3.heap.size := by simp
      obtain ⟨w4, hw4⟩ : ∃ w4, w4 = w3.setCell ⟨c, 0, none⟩ (.slice (some ⟨g, o2, none⟩) r.length (cap - 1)) := ⟨_, rfl⟩
      rw [← hw4] at hk4 e4 s4
      have hW4 : Kp (fun g => g = c) w w4 ∧ w4.heap[b2]? = some (.cells (rc x) 65 (0, 0)) ∧ w4.heap[b1]? = some (.cells #[.int .i64 0, .string ⟨#[]⟩, .int .i64 0] 65 (0, 0)) ∧ c < b1 ∧ b1 < b2 ∧ b2 < w4.heap.size ∧ w.heap.size ≤ b1 ∧ Rr c e (.ok r) w4 ∧ (r ≠ [] → g < b1) ∧ w4.heap[c]? = some (.cells #[.slice (some ⟨g, o2, none⟩) r.length (cap - 1), .int .i64 (e : Int), .int .i64 0, .int .i64 0] 41 (0, 0)) := by
        obtain ⟨p1, p2, p3, p4⟩ := H1.out
        obtain ⟨q1, q2, q3, q4⟩ := H2.out
        obtain ⟨s1, s2, s3⟩ := H3.out
        have k13 : Kp (fun g => g = c) w w3 := ((Kp.of p2 : Kp (fun g => g = c) w w1).snd (Kp.of q2)).new s1 (by omega)
        refine ⟨k13.snd hk4, ?_, ?_, by omega, by omega, by omega, by omega, ⟨_, _, e4, fun hn => ⟨g, o2, rfl, hgc, ⟨gcs, gf, ((k13.snd hk4).block g hgl hgc).trans HTY.out⟩, ?_, fun i y hi => ?_⟩⟩, fun _ => by omega, e4⟩
        · rw [hk4.block b2 (by omega) (by omega), ← HX.out]; exact s2
        · rw [hk4.block b1 (by omega) (by omega), s1.block b1 (by omega) (by omega), q2.block b1 (by omega)]; exact p3
        · have := List.length_pos_iff.2 hn
          omega
        · have hr1 : 1 ≤ r.length := List.length_pos_iff.2 hn
          have ho : o2 = o + 3 := by rw [HO.out, if_neg (by omega)]
          have := HB.out.2.1 (i + 1) y (by simpa using hi)
          rw [show o + (i + 1) * 3 = o2 + i * 3 by omega] at this
          exact Lies.kp this (k13.snd hk4) hgc
      have HW4 := hid hW4
      have HQ := hid hw4
      have cc0 : w4.cell? ⟨b2, 0, none⟩ = some (.int .i64 ((x.kind + 1 : Nat) : Int)) := by rw [cell_heap hW4.2.1]; rfl
      have cc2 : w4.cell? ⟨b2, 2, none⟩ = some (.int .i64 (x.pl : Int)) := by rw [cell_heap hW4.2.1]; rfl
      clear e3 hk4 e4 s4 hw4 hW4
      go_upto_region 8 with (first
        | ((with_reducible refine pl_val 36 (.slice (some ⟨g, o2, none⟩) r.length (cap - 1)) w3 ?_ ?_ ?_ ?_); rfl; kernel_rfl; (have q9 := HS.out w3; unfold execOp; simp [q9, hu39, go_sem]))
        | ((with_reducible refine st_at 39 (.tmp 38) (.tmp 36) w4 ?_ ?_ ?_ ?_ ?_); rfl; rfl; kernel_rfl; (rw [HQ.out]; unfold execOp; simp [c3', f3, go_sem])))
      by_cases hk2 : x.kind = 2
      · have b2' : (((x.kind + 1 : Nat) : Int) == 3) = true := by simp [hk2]
        have b3' : (((x.kind : Int) + 1) == 3) = true := by simp [hk2]
        have ht : Hid (takeS (.ok (x :: r)) e = .error (x.pl, 200)) := if_pos hk2
        go_wp2_with (first
          | (go_at_call 17; refine (CF.out (.ok r) x.pl 200 (by decide) w4 HW4.out.2.2.2.2.2.2.2.1).mono ?_; rintro E w5 ⟨rfl, f1, f2⟩; have H5 := hid (⟨f1, f2⟩ : _ ∧ _); clear f1 f2)
          | ((with_reducible refine pl_store 65 (.tmp 2) (.tmp 46) b1 #[.int .i64 0, .string ⟨#[]⟩, .int .i64 0] #[.int .i64 0, .string ⟨#[]⟩, .int .i64 0] ?_ ?_ ?_ ?_ ?_ ?_ ?_ ?_ ?_ ?_); rfl; rfl; kernel_rfl; rfl; rfl; exact ((H5.out.1.block b1 (by have := HW4.out; omega) (by have := HW4.out; omega)).trans HW4.out.2.2.1); exact siz65; exact rfl; exact (by simp [Value.oneCell']); intro w6 k6 v6 s6; have H6 := hid (⟨k6, v6, s6⟩ : _ ∧ _ ∧ _); clear k6 v6 s6))
        refine bodyPost_ret (results_r (p := 2) (u := 3) rfl _ _ b1 #[.int .i64 0, .string ⟨#[]⟩, .int .i64 0] rfl H6.out.2.1 rfl) rfl ?_
        obtain ⟨k1, _, k3, k4, k5, k6, k7, _⟩ := HW4.out
        obtain ⟨f1, f2⟩ := H5.out
        obtain ⟨q1, q2, q3⟩ := H6.out
        refine ⟨(k1.snd f1).new q1 (by omega), ?_⟩
        rw [ht.out]
        exact ⟨rfl, Rr.kpe f2 q1 (by omega)⟩
      · have b2' : (((x.kind + 1 : Nat) : Int) == 3) = false := by simp; omega
        have b3' : (((x.kind : Int) + 1) == 3) = false := by simp; omega
        have ht : Hid (takeS (.ok (x :: r)) e = .ok (x, r)) := if_neg hk2
        go_wp2_with (first
          | ((with_reducible refine pl_load 47 65 (.tmp 4) b2 0 (rc x) _ ?_ ?_ ?_ ?_ ?_ Tryd.underlying65 ?_ ?_ ?_); rfl; rfl; kernel_rfl; rfl; exact (Lies.of_heap HW4.out.2.1); rfl; exact siz65)
          | ((with_reducible refine pl_store 65 (.tmp 2) (.tmp 47) b1 (rc x) #[.int .i64 0, .string ⟨#[]⟩, .int .i64 0] ?_ ?_ ?_ ?_ ?_ ?_ ?_ ?_ ?_ ?_); rfl; rfl; kernel_rfl; rfl; rfl; exact HW4.out.2.2.1; exact siz65; exact rfl; exact (rc_one x); intro w5 k5 v5 s5; have H5 := hid (⟨k5, v5, s5⟩ : _ ∧ _ ∧ _); clear k5 v5 s5))
        refine bodyPost_ret (results_r (p := 2) (u := 3) rfl _ _ b1 (rc x) rfl H5.out.2.1 rfl) rfl ?_
        obtain ⟨k1, _, k3, k4, k5, k6, k7, k8, k9, k10⟩ := HW4.out
        obtain ⟨q1, q2, q3⟩ := H5.out
        refine ⟨k1.new q1 (by omega), ?_⟩
        rw [ht.out]
        refine ⟨rfl, ?_⟩
        obtain ⟨p8, cap8, e8, l8⟩ := k8
        refine ⟨p8, cap8, (q1.block c (by omega) (by omega)).trans e8, fun hn => ?_⟩
        obtain ⟨g8, o8, z1, z2, ⟨zs, zf, z3⟩, z4, z5⟩ := l8 hn
        rw [k10] at e8
        injection e8 with e8
        injection e8 with e8
        simp only [Array.mk.injEq, List.cons.injEq, Value.slice.injEq] at e8
        have e9 : g = g8 := by rw [z1] at e8; simpa using congrArg (fun o : Option Addr => o.map (·.block)) e8.1.1
        have hg8 : g8 < b1 := by rw [← e9]; exact k9 hn
        exact ⟨g8, o8, z1, z2, ⟨zs, zf, (q1.block g8 (Array.getElem?_eq_some_iff.1 z3).1 (by omega)).trans z3⟩, z4, fun i y hi => Lies.kp (z5 i y hi) q1 (by omega)⟩
end Go.Proofs.YtfigneaaeakbcaaDoor
