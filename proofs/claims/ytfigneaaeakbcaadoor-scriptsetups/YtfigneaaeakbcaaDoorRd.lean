/-
  A SETUP'S READER, the program's: what lies in memory; take.
-/
import Derived.Test.YtfigneaaeakbcaaDoorCv
namespace Go.Proofs.YtfigneaaeakbcaaDoor
open Go.RowKit Hm
attribute [local go_sem] Oper.semAt_some

theorem zero90 : (Tryd.prog.info? 90).bind (·.zero) = some (.agg #[.int .i64 0, .int .i64 0, .string ⟨#[]⟩]) := by kernel_rfl
theorem siz90 : (Tryd.prog.info? 90).map (·.size) = some 3 := by kernel_rfl
/-- a reader -/
def Cr (c : Nat) (ws : List W) (e : Nat) (w : World) : Prop := ∃ p cap, w.heap[c]? = some (.cells #[.slice p ws.length cap, .int .i64 (e : Int)] 52 (0, 0)) ∧
  (ws ≠ [] → ∃ g o, p = some ⟨g, o, none⟩ ∧ g ≠ c ∧ (∃ cs f, w.heap[g]? = some (.cells cs 90 f)) ∧ ws.length ≤ cap ∧ ∀ i x, (ws.map wc)[i]? = some x → Lies w g (o + i * 3) x)
/-- a fault -/
def Flt (w : World) (v : Value) (x : Er) : Prop := ∃ N, v = .iface 58 (.pointer (some ⟨N, 0, none⟩)) ∧ w.heap[N]? = some (.cells #[.int .i64 (x.1 : Int), .string ⟨#[]⟩, .int .i64 (x.2 : Int)] 61 (0, 0))
theorem Cr.lt {c : Nat} {ws : List W} {e : Nat} {w : World} (h : Cr c ws e w) : c < w.heap.size := by
  obtain ⟨p, cap, h, _⟩ := h
  exact (Array.getElem?_eq_some_iff.1 h).1
theorem Lies.kp {S : Nat → Prop} {w w' : World} {g o : Nat} {x : Array Value} (h : Lies w g o x) (k : Kp S w w') (hS : ¬ S g) : Lies w' g o x := fun j u hj => by
  have := h j u hj
  have hl := World.block_lt_of_cell? w _ this
  rw [← this]
  exact World.cell?_of_block (k.block g hl hS)
theorem Cr.up {c : Nat} {ws : List W} {e : Nat} {w w' : World} (h : Cr c ws e w) (k : G w w') : Cr c ws e w' := by
  obtain ⟨p, cap, h1, h2⟩ := h
  refine ⟨p, cap, (k.block c (Array.getElem?_eq_some_iff.1 h1).1).trans h1, fun hn => ?_⟩
  obtain ⟨g, o, e1, e2, ⟨cs, f, ec⟩, e3, e4⟩ := h2 hn
  exact ⟨g, o, e1, e2, ⟨cs, f, (k.block g (Array.getElem?_eq_some_iff.1 ec).1).trans ec⟩, e3, fun i x hi => (e4 i x hi).below k⟩
theorem Cr.kp {S : Nat → Prop} {c : Nat} {ws : List W} {e : Nat} {w w' : World} (h : Cr c ws e w) (k : Kp S w w') (hc : ¬ S c) (hS : ∀ g cs f, S g → w.heap[g]? ≠ some (.cells cs 90 f)) : Cr c ws e w' := by
  obtain ⟨p, cap, h1, h2⟩ := h
  refine ⟨p, cap, (k.block c (Array.getElem?_eq_some_iff.1 h1).1 hc).trans h1, fun hn => ?_⟩
  obtain ⟨g, o, e1, e2, ⟨cs, f, ec⟩, e3, e4⟩ := h2 hn
  exact ⟨g, o, e1, e2, ⟨cs, f, (k.block g (Array.getElem?_eq_some_iff.1 ec).1 (fun q => hS g _ _ q ec)).trans ec⟩, e3, fun i x hi => Lies.kp (e4 i x hi) k (fun q => hS g _ _ q ec)⟩
theorem Flt.kp {S : Nat → Prop} {w w' : World} {v : Value} {x : Er} (h : Flt w v x) (k : Kp S w w') (hS : ∀ g cs, S g → w.heap[g]? ≠ some (.cells cs 61 (0, 0))) : Flt w' v x := by
  obtain ⟨N, h1, h2⟩ := h
  exact ⟨N, h1, (k.block N (Array.getElem?_eq_some_iff.1 h2).1 (fun q => hS N _ q h2)).trans h2⟩
theorem Flt.up {w w' : World} {v : Value} {x : Er} (h : Flt w v x) (k : G w w') : Flt w' v x := h.kp (S := fun _ => False) (Kp.of k) (fun _ _ q => q.elim)
set_option maxRecDepth 100000 in
theorem fault_any (at_ er : Nat) (w : World) : Calls Tryd.prog 11 #[.int .i64 (at_ : Int), .int .i64 (er : Int)] w fun e w' => ∃ v, e = .returned v ∧ Flt w' v (at_, er) ∧ G w w' := by
  go_enter Tryd.func11, Tryd.ntmps11
  go_wp2
  go_ret
  exact ⟨_, rfl, ⟨w.heap.size, rfl, World.alloc_heap_new w _⟩, (Below.refl _ _).alloc (Nat.le_refl _) _⟩
theorem wc_one (x : W) : (wc x).all (·.oneCell') = true := by simp [wc, Value.oneCell']
theorem has_more (c : Nat) (ws : List W) (e : Nat) (w : World) (h : Cr c ws e w) : Calls Tryd.prog 38 #[.pointer (some ⟨c, 0, none⟩)] w fun E w' => E = .returned (.bool (!ws.isEmpty)) ∧ w' = w := by
  obtain ⟨p, cap, h1, _⟩ := h
  have hc0 : w.cell? ⟨c, 0, none⟩ = some (.slice p ws.length cap) := by rw [cell_heap h1]; rfl
  cases ws with
  | nil =>
    simp only [List.length_nil] at hc0
    go_enter Tryd.func38, Tryd.ntmps38
    go_wp2
    go_ret
    simp
  | cons x r =>
    have hp : (0 : Int) < ((r.length + 1 : Nat) : Int) := by omega
    have hp2 : (0 : Int) < (r.length : Int) + 1 := by omega
    simp only [List.length_cons] at hc0
    go_enter Tryd.func38, Tryd.ntmps38
    go_wp2
    go_ret
    simp
set_option maxRecDepth 100000 in
theorem is_any (x : W) (s : ByteArray) (w : World) : Calls Tryd.prog 36 #[.agg (wc x), .string s] w fun E w' => E = .returned (.bool (decide (x.kind = 0 ∧ x.text = tl s))) ∧ G w w' := by
  obtain ⟨X, hX⟩ : ∃ X, X = wc x := ⟨_, rfl⟩
  rw [← hX]
  have hg : G w (w.alloc (.cells X 90)) := (Below.refl _ _).alloc (Nat.le_refl _) _
  have hh := World.alloc_heap_new w (.cells X 90)
  obtain ⟨w1, hw1⟩ : ∃ w1, w1 = w.alloc (.cells X 90) := ⟨_, rfl⟩
  rw [← hw1] at hg hh
  obtain ⟨b, hb⟩ : ∃ b, w.heap.size = b := ⟨_, rfl⟩
  rw [hb] at hh
  rw [hX] at hh
  have c1 : w1.cell? ⟨b, 1, none⟩ = some (.int .i64 (x.kind : Int)) := by rw [cell_heap hh]; rfl
  have c2 : w1.cell? ⟨b, 2, none⟩ = some (.string ⟨x.text.toArray⟩) := by rw [cell_heap hh]; rfl
  have HG := hid hg
  have HW := hid hw1
  have HB := hid hb
  clear hg hh hw1 hb hX
  by_cases h0 : x.kind = 0
  · have hkt : ((x.kind : Int) == 0) = true := by simp [h0]
    go_enter Tryd.func36, Tryd.ntmps36
    go_wp2_with ((with_reducible refine pl_val 2 (.pointer (some ⟨b, 0, none⟩)) w1 ?_ ?_ ?_ ?_); rfl; kernel_rfl; (rw [HW.out]; exact exec_boxT 90 (.tmp 0) rfl X rfl w b HB.out))
    go_ret
    exact ⟨by show Ending.returned (Value.bool (x.text == s.toList)) = _; simp [h0, Bool.beq_eq_decide_eq], HG.out⟩
  · have hkf : ((x.kind : Int) == 0) = false := by simp; omega
    go_enter Tryd.func36, Tryd.ntmps36
    go_wp2_with ((with_reducible refine pl_val 2 (.pointer (some ⟨b, 0, none⟩)) w1 ?_ ?_ ?_ ?_); rfl; kernel_rfl; (rw [HW.out]; exact exec_boxT 90 (.tmp 0) rfl X rfl w b HB.out))
    go_ret
    exact ⟨by simp [h0], HG.out⟩

theorem results_w {fn : Func} {p u : Tmp} (h : fn.results = #[.cell p 90, .tmp u]) (tmps : Array Value) (w : World) (g : Nat) (cs : Array Value)
    (hp : tmps.getD p undef = .pointer (some ⟨g, 0, none⟩)) (hg : w.heap[g]? = some (.cells cs 90 (0, 0))) (hs : cs.size = 3) :
    (results fn tmps).run Tryd.prog w = .ok (.tuple #[.agg cs, tmps.getD u undef]) w := by
  have hp' : tmps[p]?.getD undef = .pointer (some ⟨g, 0, none⟩) := by simpa using hp
  simp [results, h, hp', asAddr, run_loadVar_row (P := Tryd.prog) w g 90 90 cs (0, 0) _ hg Tryd.underlying90 rfl (by rw [siz90, hs])]
theorem slice_tail {sT eT s : Nat} (hk : Ek sT eT s) (g o n cap : Nat) (hc : n + 1 ≤ cap) (W : World) : (Instr.slice sT (.slice (some ⟨g, o, none⟩) (n + 1) cap) (some (.int .i64 1)) none none).run Tryd.prog W = .ok (.slice (some ⟨g, if cap = 1 then o else o + s, none⟩) n (cap - 1)) W := by
  obtain ⟨hu, hp, hp2, z, bt, hz, _, hi⟩ := hk
  obtain ⟨i0, hi, hz0, hz1, hz2⟩ := info_parts hi
  have hsz : (sizeOf eT).run Tryd.prog W = .ok s W := by simp [sizeOf, typeInfo, hi, hz1]
  by_cases h1 : cap = 1
  · subst h1
    have hn : n = 0 := by omega
    subst hn
    simp [Instr.slice, run_underlying hu, Instr.sliceBounds, run_sliceBound, hsz]
  · have e1 : (if cap = 1 then o else o + s) = o + s := if_neg h1
    rw [e1]
    have i1 : ¬ (cap : Int) < (n : Int) + 1 := by omega
    have i2 : (n : Int) + 1 ≤ cap := by omega
    have i3 : (0 : Int) ≤ n := by omega
    have i5 : (1 : Int) ≤ ((n + 1 : Nat) : Int) := by omega
    have i6 := run_sliceBound (P := Tryd.prog) W .i64 1 (n + 1) .sliceB (by omega) i5
    simp [Instr.slice, run_underlying hu, Instr.sliceBounds, i6, hsz, h1, Addr.add_mid]
/-- what take answers -/
def TkP (c : Nat) (ws : List W) (e : Nat) (w : World) (E : Ending) (w' : World) : Prop := Kp (fun g => g = c) w w' ∧ match takeW ws e with
  | .ok (x, r) => E = .returned (.tuple #[.agg (wc x), .nilIface]) ∧ Cr c r e w'
  | .error y => ∃ v, E = .returned (.tuple #[.agg #[.int .i64 0, .int .i64 0, .string ⟨#[]⟩], v]) ∧ Flt w' v y
theorem Hm.Kp.snd {S : Nat → Prop} {w w1 w2 : World} (h : Kp S w w1) (k : Kp S w1 w2) : Kp S w w2 := h.trans k fun _ _ e => e
theorem Hm.Kp.new {S : Nat → Prop} {b : Nat} {w w1 w2 : World} (h : Kp S w w1) (k : Kp (fun g => g = b) w1 w2) (hb : w.heap.size ≤ b) : Kp S w w2 := h.trans k fun g hg e => by have e : g = b := e; omega
set_option maxRecDepth 100000 in
set_option maxHeartbeats 4000000 in
theorem take_any (c : Nat) (ws : List W) (e : Nat) (w : World) (h : Cr c ws e w) : Calls Tryd.prog 35 #[.pointer (some ⟨c, 0, none⟩)] w (TkP c ws e w) := by
  have CM := hid (fun W (k : G w W) => has_more c ws e W (h.up k))
  have CF := hid (fun (a r : Nat) (W : World) => fault_any a r W)
  have hcl := h.lt
  obtain ⟨p, cap, hb, hl⟩ := h
  cases ws with
  | nil =>
    have HB := hid hb
    clear hb hl
    go_enter Tryd.func35, Tryd.ntmps35
    go_wp2_with (first
      | ((with_reducible refine pl_alloc 2 90 #[.int .i64 0, .int .i64 0, .string ⟨#[]⟩] ?_ ?_ ?_ ?_ ?_); rfl; rfl; kernel_rfl; exact zero90; intro w1 b1 hb1 hu1 hv1 hs1; have H1 := hid (⟨hb1, hu1, hv1, hs1⟩ : _ ∧ _ ∧ _ ∧ _); clear hb1 hu1 hv1 hs1)
      | (go_at_call 38; refine (CM.out _ H1.out.2.1).mono ?_; rintro E W ⟨rfl, hW⟩; rw [hW]; clear hW W; have c1 : w1.cell? ⟨c, 1, none⟩ = some (.int .i64 (e : Int)) := (by rw [cell_heap ((H1.out.2.1.block c hcl).trans HB.out)]; rfl))
      | (go_at_call 11; refine (CF.out e 204 w1).mono ?_; rintro E w3 ⟨v3, rfl, f1, f2⟩; have H3 := hid (⟨f1, f2⟩ : _ ∧ _); clear f1 f2)
      | ((with_reducible refine pl_store 90 (.tmp 2) (.tmp 8) b1 #[.int .i64 0, .int .i64 0, .string ⟨#[]⟩] #[.int .i64 0, .int .i64 0, .string ⟨#[]⟩] ?_ ?_ ?_ ?_ ?_ ?_ ?_ ?_ ?_ ?_); rfl; rfl; kernel_rfl; rfl; rfl; exact ((H3.out.2.block b1 (by have := H1.out; omega)).trans H1.out.2.2.1); exact siz90; exact rfl; exact (by simp [Value.oneCell']); intro w4 k4 v4 s4; have H4 := hid (⟨k4, v4, s4⟩ : _ ∧ _ ∧ _); clear k4 v4 s4))
    refine bodyPost_ret (results_w (p := 2) (u := 3) rfl _ _ b1 #[.int .i64 0, .int .i64 0, .string ⟨#[]⟩] rfl H4.out.2.1 rfl) rfl ?_
    obtain ⟨p1, p2, p3, p4⟩ := H1.out
    obtain ⟨q1, q2, q3⟩ := H4.out
    obtain ⟨f1, f2⟩ := H3.out
    refine ⟨((Kp.of p2 : Kp (fun g => g = c) w w1).snd (Kp.of f2)).new q1 (by omega), v3, rfl, f1.kp q1 (fun g cs e hc => ?_)⟩
    have e : g = b1 := e
    rw [e, (f2.block b1 (by omega)).trans p3] at hc
    cases hc
  | cons x r =>
    obtain ⟨g, o, rfl, hgc, ⟨gcs, gf, hty⟩, hcap, hat⟩ := hl (by simp)
    have HTY := hid hty
    clear hty
    have hL0 := hat 0 (wc x) rfl
    rw [Nat.zero_mul, Nat.add_zero] at hL0
    obtain ⟨X, hX⟩ : ∃ X, X = wc x := ⟨_, rfl⟩
    have hXs : X.size = 3 := by rw [hX]; rfl
    have hX1 : X.all (·.oneCell') = true := by rw [hX]; exact wc_one x
    rw [← hX] at hL0
    simp only [List.length_cons] at hb hcap
    have HB := hid (⟨hb, hat, hL0⟩ : _ ∧ _ ∧ _)
    have HX := hid hX
    have hgl : g < w.heap.size := World.block_lt_of_cell? w _ (hL0 0 (X[0]'(by omega)) (by simp))
    obtain ⟨o2, ho2⟩ : ∃ o2, o2 = if cap = 1 then o else o + 3 := ⟨_, rfl⟩
    have hsl : ∀ W, (Instr.slice 50 (.slice (some ⟨g, o, none⟩) (r.length + 1) cap) (some (.int .i64 1)) none none).run Tryd.prog W = .ok (.slice (some ⟨g, o2, none⟩) r.length (cap - 1)) W := fun W => by rw [ho2]; exact slice_tail ek50 g o r.length cap hcap W
    have HS := hid hsl
    have HO := hid ho2
    have hu50 := Tryd.underlying50
    clear hb hl hat hL0 hX ho2 hsl
    go_enter Tryd.func35, Tryd.ntmps35
    go_upto_region 4 with (first
      | ((with_reducible refine pl_alloc 2 90 #[.int .i64 0, .int .i64 0, .string ⟨#[]⟩] ?_ ?_ ?_ ?_ ?_); rfl; rfl; kernel_rfl; exact zero90; intro w1 b1 hb1 hu1 hv1 hs1; have H1 := hid (⟨hb1, hu1, hv1, hs1⟩ : _ ∧ _ ∧ _ ∧ _); clear hb1 hu1 hv1 hs1)
      | (go_at_call 38; refine (CM.out _ H1.out.2.1).mono ?_; rintro E W ⟨rfl, hW⟩; rw [hW]; clear hW W; have c1 : w1.cell? ⟨c, 0, none⟩ = some (.slice (some ⟨g, o, none⟩) (r.length + 1) cap) := (by rw [cell_heap ((H1.out.2.1.block c hcl).trans HB.out.1)]; rfl))
      | ((with_reducible refine pl_load 19 90 (.tmp 18) g o X _ ?_ ?_ ?_ ?_ ?_ Tryd.underlying90 ?_ ?_ ?_); rfl; rfl; kernel_rfl; rfl; exact (HB.out.2.2.below H1.out.2.1); rfl; exact (by rw [siz90, hXs]))
      | ((with_reducible refine pl_alloc 4 90 #[.int .i64 0, .int .i64 0, .string ⟨#[]⟩] ?_ ?_ ?_ ?_ ?_); rfl; rfl; kernel_rfl; exact zero90; intro w2 b2 hb2 hu2 hv2 hs2; have H2 := hid (⟨hb2, hu2, hv2, hs2⟩ : _ ∧ _ ∧ _ ∧ _); clear hb2 hu2 hv2 hs2)
      | ((with_reducible refine pl_store 90 (.tmp 4) (.tmp 19) b2 X #[.int .i64 0, .int .i64 0, .string ⟨#[]⟩] ?_ ?_ ?_ ?_ ?_ ?_ ?_ ?_ ?_ ?_); rfl; rfl; kernel_rfl; rfl; rfl; exact H2.out.2.2.1; exact (by rw [siz90, hXs]); exact hXs.symm; exact hX1; intro w3 k3 v3 s3; have H3 := hid (⟨k3, v3, s3⟩ : _ ∧ _ ∧ _); clear k3 v3 s3))
    go_simp
    have e3 : w3.heap[c]? = some (.cells #[.slice (some ⟨g, o, none⟩) (r.length + 1) cap, .int .i64 (e : Int)] 52 (0, 0)) := by
      obtain ⟨p1, p2, p3, p4⟩ := H1.out
      obtain ⟨q1, q2, q3, q4⟩ := H2.out
      obtain ⟨s1, s2, s3⟩ := H3.out
      exact (s1.block c (by omega) (by omega)).trans ((q2.block c (by omega)).trans ((p2.block c hcl).trans HB.out.1))
    have c3 : w3.cell? ⟨c, 0, none⟩ = some (.slice (some ⟨g, o, none⟩) (r.length + 1) cap) := by rw [cell_heap e3]; rfl
    have f3 : w3.frozen? ⟨c, 0, none⟩ = false := by simp [World.frozen?, e3]
    have hk4 := Kp.set w3 c 0 (.slice (some ⟨g, o2, none⟩) r.length (cap - 1))
    have e4 : (w3.setCell ⟨c, 0, none⟩ (.slice (some ⟨g, o2, none⟩) r.length (cap - 1))).heap[c]? = some (.cells #[.slice (some ⟨g, o2, none⟩) r.length (cap - 1), .int .i64 (e : Int)] 52 (0, 0)) := by rw [heap_setCell_at _ e3]; rfl
    have s4 : (w3.setCell ⟨c, 0, none⟩ (.slice (some ⟨g, o2, none⟩) r.length (cap - 1))).heap.size = w3.heap.size := by simp
    obtain ⟨w4, hw4⟩ : ∃ w4, w4 = w3.setCell ⟨c, 0, none⟩ (.slice (some ⟨g, o2, none⟩) r.length (cap - 1)) := ⟨_, rfl⟩
    rw [← hw4] at hk4 e4 s4
    have hW4 : Kp (fun g => g = c) w w4 ∧ w4.heap[b2]? = some (.cells (wc x) 90 (0, 0)) ∧ w4.heap[b1]? = some (.cells #[.int .i64 0, .int .i64 0, .string ⟨#[]⟩] 90 (0, 0)) ∧ c < b1 ∧ b1 < b2 ∧ b2 < w4.heap.size ∧ w.heap.size ≤ b1 ∧ w4.heap[c]? = some (.cells #[.slice (some ⟨g, o2, none⟩) r.length (cap - 1), .int .i64 (e : Int)] 52 (0, 0)) ∧ (r ≠ [] → ∀ i y, (r.map wc)[i]? = some y → Lies w4 g (o2 + i * 3) y) := by
      obtain ⟨p1, p2, p3, p4⟩ := H1.out
      obtain ⟨q1, q2, q3, q4⟩ := H2.out
      obtain ⟨s1, s2, s3⟩ := H3.out
      have k13 : Kp (fun g => g = c) w w3 := ((Kp.of p2 : Kp (fun g => g = c) w w1).snd (Kp.of q2)).new s1 (by omega)
      refine ⟨k13.snd hk4, ?_, ?_, by omega, by omega, by omega, by omega, e4, fun hn i y hi => ?_⟩
      · rw [hk4.block b2 (by omega) (by omega), ← HX.out]; exact s2
      · rw [hk4.block b1 (by omega) (by omega), s1.block b1 (by omega) (by omega), q2.block b1 (by omega)]; exact p3
      · have hr1 : 1 ≤ r.length := List.length_pos_iff.2 hn
        have ho : o2 = o + 3 := by rw [HO.out, if_neg (by omega)]
        have := HB.out.2.1 (i + 1) y (by simpa using hi)
        rw [show o + (i + 1) * 3 = o2 + i * 3 by omega] at this
        exact Lies.kp this (k13.snd hk4) hgc
    have HW4 := hid hW4
    have HQ := hid hw4
    have cc1 : w4.cell? ⟨b2, 1, none⟩ = some (.int .i64 (x.kind : Int)) := by rw [cell_heap hW4.2.1]; rfl
    have cc0 : w4.cell? ⟨b2, 0, none⟩ = some (.int .i64 (x.pl : Int)) := by rw [cell_heap hW4.2.1]; rfl
    clear e3 hk4 e4 s4 hw4 hW4
    go_upto_region 5 with (first
      | ((with_reducible refine pl_val 25 (.slice (some ⟨g, o2, none⟩) r.length (cap - 1)) w3 ?_ ?_ ?_ ?_); rfl; kernel_rfl; (have q9 := HS.out w3; unfold execOp; simp [q9, hu50, go_sem]))
      | ((with_reducible refine st_at 50 (.tmp 27) (.tmp 25) w4 ?_ ?_ ?_ ?_ ?_); rfl; rfl; kernel_rfl; (rw [HQ.out]; unfold execOp; simp [c3, f3, go_sem])))
    by_cases hk2 : x.kind = 2
    · have b2' : ((x.kind : Int) == 2) = true := by simp [hk2]
      have ht : Hid (takeW (x :: r) e = .error (x.pl, 200)) := if_pos hk2
      go_wp2_with (first
        | (go_at_call 11; refine (CF.out x.pl 200 w4).mono ?_; rintro E w5 ⟨v5, rfl, f1, f2⟩; have H5 := hid (⟨f1, f2⟩ : _ ∧ _); clear f1 f2)
        | ((with_reducible refine pl_store 90 (.tmp 2) (.tmp 31) b1 #[.int .i64 0, .int .i64 0, .string ⟨#[]⟩] #[.int .i64 0, .int .i64 0, .string ⟨#[]⟩] ?_ ?_ ?_ ?_ ?_ ?_ ?_ ?_ ?_ ?_); rfl; rfl; kernel_rfl; rfl; rfl; exact ((H5.out.2.block b1 (by have := HW4.out; omega)).trans HW4.out.2.2.1); exact siz90; exact rfl; exact (by simp [Value.oneCell']); intro w6 k6 v6 s6; have H6 := hid (⟨k6, v6, s6⟩ : _ ∧ _ ∧ _); clear k6 v6 s6))
      refine bodyPost_ret (results_w (p := 2) (u := 3) rfl _ _ b1 #[.int .i64 0, .int .i64 0, .string ⟨#[]⟩] rfl H6.out.2.1 rfl) rfl ?_
      obtain ⟨k1, _, k3, k4, k5, k6, k7, _⟩ := HW4.out
      obtain ⟨f1, f2⟩ := H5.out
      obtain ⟨q1, q2, q3⟩ := H6.out
      refine ⟨(k1.snd (Kp.of f2)).new q1 (by omega), ?_⟩
      rw [ht.out]
      refine ⟨v5, rfl, f1.kp q1 (fun g cs e hc => ?_)⟩
      have e : g = b1 := e
      rw [e, (f2.block b1 (by omega)).trans k3] at hc
      cases hc
    · have b2' : ((x.kind : Int) == 2) = false := by simp; omega
      have ht : Hid (takeW (x :: r) e = .ok (x, r)) := if_neg hk2
      go_wp2_with (first
        | ((with_reducible refine pl_load 35 90 (.tmp 4) b2 0 (wc x) _ ?_ ?_ ?_ ?_ ?_ Tryd.underlying90 ?_ ?_ ?_); rfl; rfl; kernel_rfl; rfl; exact (Lies.of_heap HW4.out.2.1); rfl; exact siz90)
        | ((with_reducible refine pl_store 90 (.tmp 2) (.tmp 35) b1 (wc x) #[.int .i64 0, .int .i64 0, .string ⟨#[]⟩] ?_ ?_ ?_ ?_ ?_ ?_ ?_ ?_ ?_ ?_); rfl; rfl; kernel_rfl; rfl; rfl; exact HW4.out.2.2.1; exact siz90; exact rfl; exact (wc_one x); intro w5 k5 v5 s5; have H5 := hid (⟨k5, v5, s5⟩ : _ ∧ _ ∧ _); clear k5 v5 s5))
      refine bodyPost_ret (results_w (p := 2) (u := 3) rfl _ _ b1 (wc x) rfl H5.out.2.1 rfl) rfl ?_
      obtain ⟨k1, _, k3, k4, k5, k6, k7, k8, k9⟩ := HW4.out
      obtain ⟨q1, q2, q3⟩ := H5.out
      refine ⟨k1.new q1 (by omega), ?_⟩
      rw [ht.out]
      refine ⟨rfl, _, _, (q1.block c (by omega) (by omega)).trans k8, fun hn => ⟨g, o2, rfl, hgc, ⟨gcs, gf, (q1.block g (by have := k1.size; omega) (by omega)).trans ((k1.block g hgl hgc).trans HTY.out)⟩, ?_, fun i y hi => Lies.kp (k9 hn i y hi) q1 ?_⟩⟩
      · have := List.length_pos_iff.2 hn
        omega
      · omega
end Go.Proofs.YtfigneaaeakbcaaDoor
