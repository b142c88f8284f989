import Derived.Test.YtjikkhbcbfpocaaGreatDoorBA
import Derived.Test.YtjikkhbcbfpocaaGreatDoorNB
set_option maxRecDepth 100000
set_option maxHeartbeats 4000000
namespace Go.Proofs.YtjikkhbcbfpocaaGreatDoor
open Go.RowKit Go.Shelf
theorem LeW.ofG {W w' : World} (h : G W w') : LeW W w' := ⟨h.os, h.tape, h.output, h.size, fun _ _ hb => .inl (Below.cell (B := W.heap.size) h hb)⟩
theorem UO.ofG {W w' : World} (h : G W w') {b : Nat} (hb : UO W b) : UO w' b := by
  obtain ⟨c, t, hc⟩ := hb
  exact ⟨c, t, (Below.block (B := W.heap.size) h b (gS hc)).trans hc⟩
theorem Fg.ofG {W w' : World} (h : G W w') (P : Nat → Prop) (g : Nat) : Fg P g W w' := ⟨LeW.ofG h, fun b hb _ _ => Below.block (B := W.heap.size) h b hb, fun _ hb => hb.ofG h⟩
theorem UO.setCells {b g : Nat} : ∀ (vs : List Value) (o : Nat) (W : World), UO W b → UO (W.setCells g o vs) b
  | [], _, _, h => h
  | v :: r, o, _, h => UO.setCells r (o + 1) _ (h.set g o v)
theorem nk {w : World} {g o : Nat} {c d : Array Value} (h : Lies w g o c) (hs : c.size = 41) (hd : d.size = 41) : Lies (w.setCells g o d.toList) g o d := fun j u hj => by
  have hlt := (gS hj)
  have := World.cell?_setCells_in g d.toList o w (fun i hi => by rw [h i (c[i]'(by simp at hi; omega)) (by simp)]; rfl) j (by simpa using hlt)
  rw [this, ← hj]
  simp
theorem tn (nm : ByteArray) (v : Vd) (m : Md) (kv : Value) (j : Nat) (hj : ¬ (j = 2 ∧ v.kind ≠ 3)) : (nc nm (unkV v) m kv)[j]? = (nc nm v m kv)[j]? := by
  by_cases h3 : v.kind = 3
  · unfold unkV; rw [if_pos h3]
  · unfold unkV; rw [if_neg h3]; exact dH _ _ _ _ _ (fun e => hj ⟨e, h3⟩) _
theorem LeW.put {W : World} {g o : Nat} {nm : ByteArray} {v : Vd} {m : Md} {kv : Value} (hl : Lies W g o (nc nm v m kv)) : LeW W (W.setCells g o (nc nm (unkV v) m kv).toList) := by
  obtain ⟨h1, h2, h3, h4, h5⟩ := OB.setCells g (nc nm (unkV v) m kv).toList o W
  refine ⟨h3, h4, h5, Nat.le_of_eq h1.symm, fun b i hb => ?_⟩
  have hin := nk hl (jE ..) (jE nm (unkV v) m kv)
  by_cases hi : b = g ∧ o ≤ i ∧ i < o + 41
  · obtain ⟨rfl, hi1, hi2⟩ := hi
    obtain ⟨j, rfl⟩ : ∃ j, i = o + j := ⟨i - o, by omega⟩
    obtain ⟨u, hu⟩ : ∃ u, (nc nm v m kv)[j]? = some u := ⟨_, Array.getElem?_eq_getElem (by rw [jE]; omega)⟩
    by_cases hj : j = 2 ∧ v.kind ≠ 3
    · obtain ⟨rfl, h3⟩ := hj
      refine .inr ⟨by omega, ⟨nm, by have := hl 0 _ (kL nm v m kv); simpa using this⟩, ⟨v.kind, hl 1 _ (zF nm v m kv), h3⟩, ⟨v.mode, hl 2 _ (yQ nm v m kv)⟩, hin 2 _ ?_⟩
      unfold unkV; rw [if_neg h3]; exact yQ ..
    · exact .inl ((hin j u ((tn nm v m kv j hj).trans hu)).trans (hl j u hu).symm)
  · refine .inl (World.cell?_setCells_out g _ o W ⟨b, i, none⟩ fun e _ => ?_)
    have e' : b = g := e
    have : ¬ (o ≤ i ∧ i < o + 41) := fun h => hi ⟨e', h⟩
    show i < o ∨ o + (nc nm (unkV v) m kv).toList.length ≤ i
    rw [Array.length_toList, jE]
    omega
theorem Fg.put {W : World} {g o : Nat} {nm : ByteArray} {v : Vd} {m : Md} {kv : Value} (hl : Lies W g o (nc nm v m kv)) (P : Nat → Prop) : Fg P g W (W.setCells g o (nc nm (unkV v) m kv).toList) :=
  ⟨LeW.put hl, fun b _ _ h => jS g _ _ _ b h, fun _ h => UO.setCells _ _ _ h⟩
theorem Fg.into {P : Nat → Prop} {g g' : Nat} {A B C : World} (h : Fg P g A B) (k : Fg P g' B C) (hg : A.heap.size ≤ g' ∨ P g') : Fg P g A C :=
  ⟨h.le.trans k.le, fun b hb h1 h2 => (k.oth b (Nat.lt_of_lt_of_le hb h.le.size) h1 (fun e => by rcases hg with x | x; omega; exact h1 (e ▸ x))).trans (h.oth b hb h1 h2), fun b hb => k.uo b (h.uo b hb)⟩
section
variable {ops : Array Oper} {Q : Exit → Act → World → Prop} {md : Region.Mode} {S : World → Prop}
theorem nextV (i d : Nat) (v : Value) {oi : Oper} {n : Nat} {listed : Array Bool} {a : Act} {w : World} (hi : ops[i]? = some oi) (hd : oi.dst = some d) (hr : Region.ready md ops listed = [i]) (hw : Region.wanted oi (yielded ops a.tmps) = true) (hS : S w)
    (hx : (execOp a.eval oi).run Tryz.prog w = .ok (.value v) w) (h : wpAnyH Tryz.prog md ops Q S n (listed.setIfInBounds i true) (a.put (some d) v) w) : wpAnyH Tryz.prog md ops Q S (n + 1) listed a w := by
  refine wpAnyH_ready hr (by simp) fun j hj => ?_
  obtain rfl : j = i := by simpa using hj
  unfold Go.wpOp
  rw [hi]
  simp only [hw, if_true]
  left
  unfold Oper.wp
  rw [hx]
  show S w ∧ _
  rw [hd]
  exact ⟨hS, h⟩
theorem pd (i d : Nat) {oi : Oper} {n : Nat} {listed : Array Bool} {a : Act} {w : World} (f : FuncId) (args : Array Value) (hi : ops[i]? = some oi) (hd : oi.dst = some d) (hr : Region.ready md ops listed = [i]) (hw : Region.wanted oi (yielded ops a.tmps) = true)
    (hx : (execOp a.eval oi).run Tryz.prog w = .ok (.enter f args) w) (hc : Calls Tryz.prog f args w fun e w' => ∃ v, e = .returned v ∧ S w' ∧ wpAnyH Tryz.prog md ops Q S n (listed.setIfInBounds i true) (a.put (some d) v) w') : wpAnyH Tryz.prog md ops Q S (n + 1) listed a w := by
  refine wpAnyH_ready hr (by simp) fun j hj => ?_
  obtain rfl : j = i := by simpa using hj
  unfold Go.wpOp
  rw [hi]
  simp only [hw, if_true]
  left
  unfold Oper.wp
  rw [hx]
  refine Calls.mono hc ?_
  rintro e w' ⟨v, rfl, hS, h⟩
  rw [hd]
  exact ⟨hS, h⟩
theorem pf (i : Nat) (w' : World) {oi : Oper} {n : Nat} {listed : Array Bool} {a : Act} {w : World} (hi : ops[i]? = some oi) (hd : oi.dst = none) (hr : Region.ready md ops listed = [i]) (hw : Region.wanted oi (yielded ops a.tmps) = true)
    (hx : (execOp a.eval oi).run Tryz.prog w = .ok .skip w') (hS : S w') (h : wpAnyH Tryz.prog md ops Q S n (listed.setIfInBounds i true) a w') : wpAnyH Tryz.prog md ops Q S (n + 1) listed a w := by
  refine wpAnyH_ready hr (by simp) fun j hj => ?_
  obtain rfl : j = i := by simpa using hj
  unfold Go.wpOp
  rw [hi]
  simp only [hw, if_true]
  left
  unfold Oper.wp
  rw [hx, Oper.upon_skip, hd]
  exact ⟨hS, h⟩
end
def RowP (W : World) (P : Nat → Prop) (a : Option Addr) (ks : F) : Prop := ks = .nil ∨ ∃ g o, a = some ⟨g, o, none⟩ ∧ P g ∧ kJ W P ks g o
def UkOk (ks : F) : Prop := ∀ (P : Nat → Prop) (nm : ByteArray) (v : Vd) (m : Md) (a : Option Addr) (cap : Nat) (W : World), ks.len ≤ cap → RowP W P a ks → (∀ b, P b → UO W b) → ks.size ≤ 100000 →
    Calls Tryz.prog 42 #[.agg (nc nm v m (.slice a ks.len cap))] W fun e w' => e = .returned (.agg (nc nm (unkV v) m (.slice a ks.len cap))) ∧ Fg P W.heap.size W w' ∧ RowP w' P a (ks.mp unkV id)
def UI (P : Nat → Prop) (B : Nat) (cm : Array Value) (W : World) (ks : F) (a : Option Addr) (wr : World) (k : Nat) : Prop :=
  (Var wr B cm ∧ Var wr (B + 1) z30 ∧ Fg P B W wr ∧ B + 2 ≤ wr.heap.size) ∧ (ks = .nil ∨ ∃ g o, a = some ⟨g, o, none⟩ ∧ P g ∧ FI P B W ks g o wr k)
theorem UI.start {P : Nat → Prop} {B : Nat} {cm : Array Value} {W : World} {ks : F} {a : Option Addr} {wr : World} (h1 : Var wr B cm) (h2 : Var wr (B + 1) z30) (hF : Fg P B W wr) (hs : B + 2 ≤ wr.heap.size) (hr : RowP W P a ks) : UI P B cm W ks a wr 0 := by
  refine ⟨⟨h1, h2, hF, hs⟩, hr.imp id ?_⟩
  rintro ⟨g, o, ha, hP, h⟩
  obtain ⟨f', e1, _, h1⟩ := hF.le.row h
  exact ⟨g, o, ha, hP, hF, by rw [F.take_zero]; trivial, f', by rw [F.drop_zero]; exact e1, by simpa using h1⟩
theorem UI.step {P : Nat → Prop} {B : Nat} {cm : Array Value} {W : World} {ks : F} {g o : Nat} {wr wd w5 : World} {k : Nat} (h : Var wr B cm ∧ Var wr (B + 1) z30 ∧ Fg P B W wr ∧ B + 2 ≤ wr.heap.size) (hFI : FI P B W ks g o wr k) (hP : P g) (hPB : ∀ b, P b → b < B ∧ UO wr b) (hD : G wr wd)
    {nm : ByteArray} {v : Vd} {m : Md} {k1 r : F} {a : Option Addr} {cap : Nat} (hd : ((ks.mp unkV id).drop k) = .cons nm (unkV v) m (k1.mp unkV id) r) (hl : Lies wr g (o + k * 41) (nc nm v m (.slice a k1.len cap))) (hcap : k1.len ≤ cap) (hF : Fg P wd.heap.size wd w5) (hr : RowP w5 P a (k1.mp unkV id)) :
    (Var w5 B cm ∧ w5.there g (o + k * 41) 41) ∧ UI P B cm W ks (some ⟨g, o, none⟩) (w5.setCells g (o + k * 41) (nc nm (unkV v) m (.slice a k1.len cap)).toList) (k + 1) := by
  obtain ⟨h1, h2, h3, h4⟩ := h
  have hsd := hD.size
  have hgB := (hPB g hP).1
  have nB : ∀ x, B ≤ x → ¬ P x := fun x hx hp => by have := (hPB x hp).1; omega
  have v1 : Var w5 B cm := (hF.oth B (by omega) (nB B (Nat.le_refl _)) (by omega)).trans (h1.grow hD)
  have v2 : Var w5 (B + 1) z30 := (hF.oth (B + 1) (by omega) (nB _ (by omega)) (by omega)).trans (h2.grow hD)
  obtain ⟨v', hv', hl5⟩ := hF.le.node (Lies.below hl hD)
  have eu : unkV v' = unkV v := by rcases hv' with e | e; rw [e]; rw [e, zx]
  have hu5 : UO w5 g := hF.uo g ((hPB g hP).2.ofG hD)
  have hput := Fg.put hl5 P
  have hin := nk hl5 (jE ..) (jE nm (unkV v) m (.slice a k1.len cap))
  rw [eu] at hput
  have hFw : Fg P g wr (w5.setCells g (o + k * 41) (nc nm (unkV v) m (.slice a k1.len cap)).toList) := ((Fg.ofG hD P g).into hF (.inl hsd)).into hput (.inr hP)
  refine ⟨⟨v1, fun j hj => ⟨by rw [hl5 j _ (Array.getElem?_eq_getElem (by rw [jE]; exact hj))]; rfl, by obtain ⟨c, t, e⟩ := hu5; simp [World.frozen?, e]⟩⟩, ⟨?_, ?_, h3.into hFw (.inr hP), ?_⟩, .inr ⟨g, o, rfl, hP, ?_⟩⟩
  · exact (jS g _ _ _ B (by omega)).trans v1
  · exact (jS g _ _ _ (B + 1) (by omega)).trans v2
  · rw [qn]; have := hF.le.size; omega
  · refine hFI.step hP hd hFw hin hcap ?_
    rcases hr with e | ⟨g2, o2, ha, hp2, h⟩
    · left
      cases k1 with
      | nil => rfl
      | cons _ _ _ _ _ => cases e
    · exact .inr ⟨g2, o2, ha, hp2, hput.le.done h⟩
theorem UI.fin {P : Nat → Prop} {B : Nat} {cm : Array Value} {W : World} {ks : F} {a : Option Addr} {wr : World} (h : UI P B cm W ks a wr ks.len) (hPB : ∀ b, P b → b < B) (hwB : W.heap.size = B) (c : Array Value) : Fg P B W (wr.setRow (B + 1) c) ∧ RowP (wr.setRow (B + 1) c) P a (ks.mp unkV id) := by
  obtain ⟨⟨h1, h2, h3, h4⟩, hr⟩ := h
  have hb : Below W.heap.size wr (wr.setRow (B + 1) c) := ⟨rfl, rfl, rfl, by simp, fun b hb => setRow_other _ (B + 1) b _ (by omega)⟩
  refine ⟨⟨⟨h3.le.os, h3.le.tape, h3.le.output, by simpa using h3.le.size, fun b i hlt => ?_⟩, fun b hlt x y => (hb.block b hlt).trans (h3.oth b hlt x y), fun b hu => ?_⟩, ?_⟩
  · have e : (wr.setRow (B + 1) c).cell? ⟨b, i, none⟩ = wr.cell? ⟨b, i, none⟩ := Below.cell hb hlt
    rw [e]
    exact h3.le.cell b i hlt
  · obtain ⟨c', t, e⟩ := h3.uo b hu
    exact ⟨c', t, (hb.block b hu.lt).trans e⟩
  · rcases hr with e | ⟨g, o, ha, hp, hf⟩
    · subst e; exact .inl rfl
    · refine .inr ⟨g, o, ha, hp, ?_⟩
      have h5 := hf.2.1
      rw [F.yg _ _ (by rw [F.mp_len]; exact Nat.le_refl _)] at h5
      exact h5.keep (fun b hb' => ⟨hb.block b (by have := hPB b hb'; omega), hb'⟩) (hb.block g (by have := hPB g hp; omega))
theorem pg (ks : F) (ih : ∀ k' : F, k'.size < ks.size → UkOk k') : UkOk ks := by
  intro P nm v m a cap W hcap hr hP hsz
  obtain ⟨n, hn⟩ : ∃ n, ks.len = n := ⟨_, rfl⟩
  have hn9 : n ≤ 100000 := by have := ks.len_le_size; omega
  rw [hn]
  obtain ⟨c, hc⟩ : ∃ c, nc nm v m (.slice a n cap) = c := ⟨_, rfl⟩
  obtain ⟨cm, hcm⟩ : ∃ cm, nc nm (unkV v) m (.slice a n cap) = cm := ⟨_, rfl⟩
  rw [hc, hcm]
  have hsz1 : c.size = 41 := by rw [← hc]; exact jE ..
  have hV0 := Var.new W c
  have hV1 := hV0.grow (G.alloc (W.alloc (.cells c 30)) (.cells z30 30))
  have hV2 := Var.new (W.alloc (.cells c 30)) z30
  rw [World.size_alloc] at hV2
  have hG1 : G W ((W.alloc (.cells c 30)).alloc (.cells z30 30)) := (G.alloc _ _).trans (G.alloc _ _)
  have hS1 : ((W.alloc (.cells c 30)).alloc (.cells z30 30)).heap.size = W.heap.size + 2 := by simp
  have q1 := j7 hV1.lies 1 (.int .i64 v.kind) (by rw [← hc]; exact zF ..)
  have q2 := j7 hV1.lies 2 (.int .i64 v.mode) (by rw [← hc]; exact yQ ..)
  have q40 := j7 hV1.lies 40 (.slice a n cap) (by rw [← hc]; exact qJ ..)
  have hfz := kF hV1 2
  have H1 := hid (⟨hV1, hV2, hG1, hS1⟩ : Var _ W.heap.size c ∧ Var _ (W.heap.size + 1) z30 ∧ G W ((W.alloc (.cells c 30)).alloc (.cells z30 30)) ∧ ((W.alloc (.cells c 30)).alloc (.cells z30 30)).heap.size = W.heap.size + 2)
  have HH := hid (⟨hn, hr, fun b hb => ⟨(hP b hb).lt, hP b hb⟩, hsz⟩ : ks.len = n ∧ RowP W P a ks ∧ (∀ b, P b → b < W.heap.size ∧ UO W b) ∧ ks.size ≤ 100000)
  have HC := hid (⟨hc, hcm⟩ : _ ∧ _)
  have HIH := hid ih
  clear hV0 hV1 hV2 hG1 hS1 hn hc hcm hcap hr hP hsz ih
  go_enter Tryz.func42, Tryz.ntmps42
  go_upto_region 1 with (with_reducible refine jA (.pointer (some ⟨(W.alloc (.cells c 30)).heap.size, 0, none⟩)) ((W.alloc (.cells c 30)).alloc (.cells z30 30)) ?_ ?_; exact qY rfl _)
  try simp only [Act.put, sA, sB, sC, World.size_alloc]
  generalize (W.alloc (.cells c 30)).alloc (.cells z30 30) = w1 at *
  obtain ⟨B, hB⟩ : ∃ B, W.heap.size = B := ⟨_, rfl⟩
  rw [hB] at H1 q1 q2 q40 hfz HH ⊢
  have HB : Hid (W.heap.size = B) := hB
  clear hB
  by_cases h3 : v.kind = 3
  case' pos =>
    have HU : Hid (UI P B cm W ks a w1 0) := by
      refine UI.start ?_ H1.o.2.1 (Fg.ofG H1.o.2.2.1 P B) (by have := H1.o.2.2.2; omega) HH.o.2.1
      have h := H1.o.1
      rw [← HC.o.1] at h
      rw [← HC.o.2]
      unfold unkV; rw [if_pos h3]; exact h
    rw [h3] at q1
    clear H1 hfz q2
    go_wp2_with fail
  case' neg =>
    have b3 : (v.kind != 3) = true := by simp [h3]
    have HU : Hid (UI P B cm W ks a (w1.setCell ⟨B, 2, none⟩ (.int .i64 8)) 0) := by
      have hs2 := H1.o.2.2.2
      have hob := OB.setCell w1 B 2 (.int .i64 8)
      refine UI.start ?_ ((hob.2.1 (B + 1) (by omega)).trans H1.o.2.1) (Fg.ofG (Below.trans (B := W.heap.size) H1.o.2.2.1 ⟨hob.2.2.1, hob.2.2.2.1, hob.2.2.2.2, Nat.le_of_eq hob.1.symm, fun b hb => hob.2.1 b (by have := HB.o; omega)⟩) P B) (by rw [hob.1]; omega) HH.o.2.1
      have h := H1.o.1.setCell 2 (.int .i64 8)
      rw [← HC.o.1, sS] at h
      rw [← HC.o.2]
      unfold unkV; rw [if_neg h3]; exact h
    replace q40 : (w1.setCell ⟨B, 2, none⟩ (.int .i64 8)).cell? ⟨B, 40, none⟩ = some (.slice a n cap) := (World.cell?_setCell_other (h := by simp) ..).trans q40
    go_upto_region 3 with fail
    generalize w1.setCell ⟨B, 2, none⟩ (.int .i64 8) = w1 at *
    clear H1 hfz q2 q1
    go_wp2_with fail
  all_goals
    go_loopw [3] (fun i wr => ∃ k : Nat, i = .int .i64 k ∧ k ≤ n ∧ wr.cell? ⟨B, 40, none⟩ = some (.slice a n cap) ∧ Hid (UI P B cm W ks a wr k)) (fun i _ => n - iOf i)
    case atStart => exact ⟨0, rfl, Nat.zero_le _, q40, HU.o⟩
    case round =>
     clear q40 HU
     obtain ⟨k, rfl, hk, q40, HI⟩ := hrel
     by_cases hlt : k < n
     · have hltI : (k : Int) < (n : Int) := by omega
       obtain ⟨hU, e | ⟨g, o, rfl, hPg, hFI⟩⟩ := HI.o
       · exfalso
         have h1 := HH.o.1
         rw [e] at h1
         have : (0 : Nat) = n := h1
         omega
       obtain ⟨nm1, v1, m1, k1, r1, a1, cap1, hd, hl1, hcap1, hkk, hs1⟩ := hFI.at (by rw [HH.o.1]; exact hlt)
       have hD : G wr wr.drew := G.drew wr
       have hPB : ∀ b, P b → b < B ∧ UO wr b := fun b hb => ⟨(HH.o.2.2.1 b hb).1, hU.2.2.1.uo b (HH.o.2.2.1 b hb).2⟩
       have CU := HIH.o k1 hs1 P nm1 v1 m1 a1 cap1 wr.drew hcap1 (hkk.imp id fun ⟨g2, o2, e2, p2, h2⟩ => ⟨g2, o2, e2, p2, h2.keep (fun b hb => ⟨Below.block (B := wr.heap.size) hD b (hPB b hb).2.lt, hb⟩) (Below.block (B := wr.heap.size) hD g2 (hPB g2 p2).2.lt)⟩) (fun b hb => (hPB b hb).2.ofG hD) (by have := HH.o.2.2.2; omega)
       have HST := hid (fun (w5 : World) hF hr => UI.step (w5 := w5) hU hFI hPg hPB hD hd hl1 hcap1 hF hr)
       have hl2 := Lies.below hl1 hD
       have q40d := hD.cell q40
       obtain ⟨c1, hc1⟩ : ∃ c1, nc nm1 v1 m1 (.slice a1 k1.len cap1) = c1 := ⟨_, rfl⟩
       obtain ⟨c2, hc2⟩ : ∃ c2, nc nm1 (unkV v1) m1 (.slice a1 k1.len cap1) = c2 := ⟨_, rfl⟩
       have HC2 : Hid (c2.size = 41 ∧ c2.all (·.oneCell') = true) := by rw [← hc2]; exact ⟨jE .., qM _ _ _ _ rfl⟩
       rw [hc1, hc2] at CU
       rw [hc1] at hl2
       have HL := hid (⟨hl2, by rw [← hc1]; exact jE ..⟩ : Lies wr.drew g (o + k * 41) c1 ∧ c1.size = 41)
       rw [hc2] at HST
       clear hU hFI hPg hPB hD hd hl1 hcap1 hkk hs1 hl2 hc1 hc2 HI
       go_upto_region 6 with fail
       refine wp_region_held_drew (S := fun w' => w'.cell? ⟨B, 40, none⟩ = some (.slice (some ⟨g, o, none⟩) n cap)) (by kernel_rfl) q40d (fun hS => ?_)
       generalize wr.drew = wd at *
       refine ji 0 17 (.pointer (some ⟨B, 40, none⟩)) hS (fun wz hz => ?_) ?_
       · go_simp
       refine ji 1 18 (.slice (some ⟨g, o, none⟩) n cap) hS (fun wz hz => ?_) ?_
       · go_simp
       refine ji 2 19 (.int .i64 k) hS (fun wz hz => ?_) ?_
       · rfl
       refine ji 3 20 (.pointer (some ⟨B, 40, none⟩)) hS (fun wz hz => ?_) ?_
       · go_simp
       refine ji 4 21 (.slice (some ⟨g, o, none⟩) n cap) hS (fun wz hz => ?_) ?_
       · go_simp
       refine ji 5 22 (.int .i64 k) hS (fun wz hz => ?_) ?_
       · rfl
       refine ji 6 23 (.pointer (some ⟨g, o + k * 41, none⟩)) hS (fun wz hz => ?_) ?_
       · go_simp
       refine nextV 7 24 (.agg c1) rfl rfl (by kernel_rfl) (by kernel_rfl) hS (jB _ rfl g (o + k * 41) rfl c1 HL.o.2 HL.o.1) ?_
       try simp only [Act.put, sA, sB, sC]
       refine pd 8 25 42 #[.agg c1] rfl rfl (by kernel_rfl) (by kernel_rfl) (by go_simp) ?_
       refine CU.mono ?_
       rintro e w5 ⟨rfl, hF5, hr5⟩
       obtain ⟨⟨hv5, ht5⟩, hU6⟩ := HST.o w5 hF5 hr5
       have hS5 : w5.cell? ⟨B, 40, none⟩ = some (.slice (some ⟨g, o, none⟩) n cap) := j7 hv5.lies 40 _ (by rw [← HC.o.2]; exact qJ ..)
       have hS6 := j7 hU6.1.1.lies 40 (.slice (some ⟨g, o, none⟩) n cap) (by rw [← HC.o.2]; exact qJ ..)
       have HU6 := hid hU6
       refine ⟨_, rfl, hS5, ?_⟩
       try simp only [Act.put, sA, sB, sC]
       refine ji 9 26 (.pointer (some ⟨g, o + k * 41, none⟩)) hS5 (fun wz hz => ?_) ?_
       · go_simp
       refine pf 10 (w5.setCells g (o + k * 41) c2.toList) rfl rfl (by kernel_rfl) (by kernel_rfl) (kP _ _ rfl g (o + k * 41) c2 rfl rfl _ ht5 HC2.o.1 HC2.o.2) hS6 ?_
       refine wpAnyH_done (by kernel_rfl) ?_ _
       clear hF5 hr5 hv5 ht5 hU6 hS5 hS HST CU
       generalize w5.setCells g (o + k * 41) c2.toList = w6 at *
       go_wp2_with fail
       go_roundw
       case rel => exact ⟨k + 1, by go_num, by omega, hS6, HU6.o⟩
       case measure => simp; omega
     · have hltI : ¬ (k : Int) < (n : Int) := by omega
       obtain rfl : k = n := by omega
       have hcs : cm.size = 41 := by rw [← HC.o.2]; exact jE ..
       have hco : cm.all (·.oneCell') = true := by rw [← HC.o.2]; exact qM _ _ _ _ rfl
       have HV := hid (⟨HI.o.1.1, HI.o.1.2.1⟩ : Var wr B cm ∧ Var wr (B + 1) z30)
       have HF := hid (UI.fin (by have := HI.o; rwa [← HH.o.1] at this) (fun b hb => (HH.o.2.2.1 b hb).1) HB.o cm)
       clear HI
       go_wp2_with (first
         | ((with_reducible refine j0 (.agg cm) ?_ ?_); exact jB _ rfl B 0 rfl _ hcs HV.o.1.lies)
         | ((with_reducible refine j8 (wr.setRow (B + 1) cm) ?_ ?_); exact jG _ _ rfl (B + 1) _ z30 rfl rfl _ HV.o.2 hcs jL hco))
       refine bodyPost_ret (results_cell_row (P := Tryz.prog) (p := 2) (ty := 30) rfl _ _ (B + 1) 30 cm (0, 0) _ rfl HV.o.2.set qB rfl (by rw [qc, hcs])) rfl ?_
       refine ⟨rfl, ?_⟩
       rw [HB.o]
       exact HF.o
theorem nl : ∀ (n : Nat) (ks : F), ks.size < n → UkOk ks
  | 0, _, h => absurd h (Nat.not_lt_zero _)
  | n + 1, ks, h => pg ks fun k' hk => nl n k' (by omega)
theorem ej (c d : Array Value) (nm : ByteArray) (v : Vd) (m : Md) (ks : F) (w : World) (h1 : HasN w c nm v m ks) (h2 : HasN w d nm v m ks) (hl : ks.okL) :
  Calls Tryz.prog 14 #[.agg c, .agg d] w fun e w' => e = .returned (.bool true) ∧ G w w' := by
 have TB := eC w c d
 have B1 : G w ((w.alloc (.cells c 30)).alloc (.cells d 30)) := (G.alloc _ _).trans (G.alloc _ _)
 have CE := mD _ ks (Nat.lt_succ_self _) nm nm v v m m ks c d _ (h1.below B1) (h2.below B1) hl hl
 have s1 : c.size = 41 := by obtain ⟨kv1, rfl, _⟩ := h1; exact jE ..
 have s2 : d.size = 41 := by obtain ⟨kv1, rfl, _⟩ := h2; exact jE ..
 have n1 : ((w.alloc (.cells c 30)).alloc (.cells d 30)).cell? ⟨w.heap.size, 0, none⟩ = some (.string nm) := by
  obtain ⟨kv1, rfl, _⟩ := h1
  exact TB.1 0 _ (kL ..)
 have n2 : ((w.alloc (.cells c 30)).alloc (.cells d 30)).cell? ⟨w.heap.size + 1, 0, none⟩ = some (.string nm) := by
  obtain ⟨kv1, rfl, _⟩ := h2
  exact TB.2 0 _ (kL ..)
 rw [decide_eq_true ⟨rfl, rfl, rfl⟩] at CE
 have HT := hid (⟨TB, B1⟩ : _ ∧ _)
 clear h1 h2 TB B1
 go_enter Tryz.func14, Tryz.ntmps14
 go_upto_region 1 with fail
 generalize (w.alloc (.cells c 30)).alloc (.cells d 30) = w1 at *
 generalize w.heap.size = H at *
 go_wp2_with (first
  | (with_reducible refine j0 (.agg c) ?_ ?_; exact jB _ rfl H 0 rfl c s1 HT.o.1.1)
  | (with_reducible refine j0 (.agg d) ?_ ?_; exact jB _ rfl (H + 1) 0 rfl d s2 HT.o.1.2)
  | (go_at_call 38; refine CE.mono ?_; rintro e w2 ⟨rfl, hb⟩; have HB := hid hb; clear hb CE))
 go_ret
 exact ⟨rfl, G.trans HT.o.2 HB.o⟩
theorem F.mp_mp (a c : Vd → Vd) (b d : Md → Md) : ∀ f : F, (f.mp a b).mp c d = f.mp (fun v => c (a v)) (fun m => d (b m))
 | .nil => rfl
 | .cons _ _ _ ks r => by simp only [F.mp, F.mp_mp a c b d ks, F.mp_mp a c b d r]
theorem F.mp_self : ∀ f : F, f.mp (fun v => v) (fun m => m) = f
 | .nil => rfl
 | .cons _ _ _ ks r => by simp only [F.mp, F.mp_self ks, F.mp_self r]
def drF (ver : Int) (f : F) : F := (wrF ver f).mp id (mz ver)
theorem drF3 (f : F) : drF 3 f = f := by
 have e : mz 3 = fun m => m := funext fun m => by unfold mz; rw [if_neg (by omega)]
 unfold drF wrF
 rw [if_neg (by omega), e]
 exact F.mp_self f
theorem drF2 (f : F) : drF 2 f = f.mp id noM := by
 have e : mz 2 = noM := funext fun m => by unfold mz noM; rw [if_pos (by omega)]
 unfold drF wrF
 rw [if_neg (by omega), e]
theorem drF1 (f : F) : drF 1 f = (f.mp id noM).mp unkV id := by
 have e : mz 1 = noM := funext fun m => by unfold mz noM; rw [if_pos (by omega)]
 unfold drF wrF
 rw [if_pos (by omega), e, F.mp_mp, F.mp_mp]
 rfl
def Dst (w W : World) (B : Nat) (c : Array Value) : Prop := Var W B c ∧ Var W (B + 1) z30 ∧ G w W ∧ B + 2 ≤ W.heap.size
theorem Dst.put {w W W' : World} {B : Nat} {c c' : Array Value} {P : Nat → Prop} {nm : ByteArray} {v : Vd} {m : Md} {ks : F} (h : Dst w W B c) (hB : w.heap.size = B) (hg : Below (B + 2) W W') (hn : kV W' P c' nm v m ks) (hP : ∀ b, P b → B + 2 ≤ b) :
  Dst w (W'.setRow B c') B c' ∧ kV (W'.setRow B c') P c' nm v m ks := by
 obtain ⟨h1, h2, h3, h4⟩ := h
 have v1 : Var W' B c := (hg.block B (by omega)).trans h1
 have hs := hg.size
 refine ⟨⟨v1.set, (setRow_other _ B (B + 1) _ (by omega)).trans ((hg.block _ (by omega)).trans h2), ?_, by simpa using (by omega : B + 2 ≤ W'.heap.size)⟩, ?_⟩
 ·exact Below.trans (B := w.heap.size) h3 ⟨hg.os, hg.tape, hg.output, by simpa using hs, fun b hb => (setRow_other _ B b _ (by omega)).trans (hg.block b (by omega))⟩
 ·obtain ⟨kv, e, hk⟩ := hn
  exact ⟨kv, e, hk.keep fun b hb => ⟨setRow_other _ B b _ (by have := hP b hb; omega), hb⟩⟩
theorem gM (c : Array Value) (nm : ByteArray) (v : Vd) (m : Md) (ks : F) (w : World) (ver : Int) (hv : ver = 3 ∨ ver = 2 ∨ ver = 1) (hN : HasN w c nm v m ks) (hw : ks.weight ≤ 100000) :
  Calls Tryz.prog 16 #[.agg c, .int .i64 ver] w fun e w' => ∃ c', e = .returned (.agg c') ∧ HasN w' c' nm (wrV ver v) (mz ver m) (drF ver ks) ∧ G w w' := by
 have hsz : c.size = 41 := by obtain ⟨_, rfl, _⟩ := hN; exact jE ..
 have hV1 := (Var.new w c).grow (G.alloc (w.alloc (.cells c 30)) (.cells z30 30))
 have hV2 := Var.new (w.alloc (.cells c 30)) z30
 rw [World.size_alloc] at hV2
 have hG1 : G w ((w.alloc (.cells c 30)).alloc (.cells z30 30)) := (G.alloc _ _).trans (G.alloc _ _)
 have hS1 : ((w.alloc (.cells c 30)).alloc (.cells z30 30)).heap.size = w.heap.size + 2 := by simp
 have CC := gV _ ks (Nat.lt_succ_self _) nm v m c _ (hN.below hG1) hw
 have H1 := hid (⟨⟨hV1, hV2, hG1, by omega⟩, hS1⟩ : Dst w ((w.alloc (.cells c 30)).alloc (.cells z30 30)) w.heap.size c ∧ ((w.alloc (.cells c 30)).alloc (.cells z30 30)).heap.size = w.heap.size + 2)
 have HW := hid hw
 have hls := F.size_le_weight ks
 have HLS : Hid (ks.size ≤ 100000) := by show _ ≤ _; omega
 clear hN hV1 hV2 hG1 hS1 hw hls
 go_enter Tryz.func16, Tryz.ntmps16
 go_upto_region 1 with (with_reducible refine jA (.pointer (some ⟨(w.alloc (.cells c 30)).heap.size, 0, none⟩)) ((w.alloc (.cells c 30)).alloc (.cells z30 30)) ?_ ?_; exact qY rfl _)
 try simp only [Act.put, List.setIfInBounds_toArray, List.set_cons_zero, List.set_cons_succ, World.size_alloc]
 generalize (w.alloc (.cells c 30)).alloc (.cells z30 30) = w1 at *
 obtain ⟨B, hB⟩ : ∃ B, w.heap.size = B := ⟨_, rfl⟩
 rw [hB] at H1 ⊢
 have HB : Hid (w.heap.size = B) := hB
 clear hB
 go_upto_region 2 with (first
  | ((with_reducible refine j0 (.agg c) ?_ ?_); exact jB _ rfl B 0 rfl c hsz H1.o.1.1.lies)
  | (go_at_call 40; refine CC.mono ?_; rintro e w2 ⟨c2, rfl, hn2, hg2⟩; have hs2 : c2.size = 41 ∧ c2.all (·.oneCell') = true := hn2.facts; have HV2 := hid (H1.o.1.1.grow hg2); have HP := hid (H1.o.1.put HB.o (hg2.mono (by have := H1.o.2; omega)) hn2 (fun b hb => by have := hb.1; have := H1.o.2; omega)); clear hn2 hg2 CC)
  | ((with_reducible refine j8 (w2.setRow B c2) ?_ ?_); exact jG _ _ rfl B _ c rfl rfl _ HV2.o hs2.1 hsz hs2.2))
 have HX : Hid (∃ P : Nat → Prop, (∀ b, P b → B + 2 ≤ b) ∧ kV (w2.setRow B c2) P c2 nm v m ks) := ⟨_, fun b hb => by have := hb.1; have := H1.o.2; omega, HP.o.2⟩
 replace HP := hid HP.o.1
 generalize w2.setRow B c2 = w3 at *
 clear HV2 H1
 have CB := iO _ ks (Nat.lt_succ_self _) nm v m c2 w3 (by obtain ⟨_, _, h⟩ := HX.o; exact h.has) HW.o
 rcases hv with rfl | rfl | rfl
 case' inl =>
  clear CB
  go_upto_region 6 with fail
  have HQ : Hid (∃ P : Nat → Prop, (∀ b, P b → B + 2 ≤ b) ∧ kV w3 P c2 nm (wrV 3 v) (mz 3 m) (drF 3 ks)) := by
   show ∃ _, _
   rw [drF3, show wrV 3 v = v from if_neg (by omega), show mz 3 m = m from if_neg (by omega)]
   exact HX.o
  obtain ⟨cf, hcf⟩ : ∃ cf, c2 = cf := ⟨_, rfl⟩
  rw [hcf] at HQ HP hs2
  have hsf := hs2
 case' inr.inl =>
  go_upto_region 6 with (first
   | ((with_reducible refine j0 (.agg c2) ?_ ?_); exact jB _ rfl B 0 rfl c2 hs2.1 HP.o.1.lies)
   | (go_at_call 41; refine CB.mono ?_; rintro e w4 ⟨c4, rfl, hn4, hg4⟩; have hs4 : c4.size = 41 ∧ c4.all (·.oneCell') = true := hn4.facts; have HV4 := hid (HP.o.1.grow hg4); have hb4 : ∀ b, New w3 w4 b → B + 2 ≤ b := fun b hb => by { have h5 := hb.1; have h6 := HP.o.2.2.2; omega }; have HP4 := hid (HP.o.put HB.o (hg4.mono HP.o.2.2.2) hn4 hb4); have HP5 := hid hb4; clear hn4 hg4 CB hb4)
   | ((with_reducible refine j8 (w4.setRow B c4) ?_ ?_); exact jG _ _ rfl B _ c2 rfl rfl _ HV4.o hs4.1 hs2.1 hs4.2))
  have HQ : Hid (∃ P : Nat → Prop, (∀ b, P b → B + 2 ≤ b) ∧ kV (w4.setRow B c4) P c4 nm (wrV 2 v) (mz 2 m) (drF 2 ks)) := by
   show ∃ _, _
   rw [drF2, show wrV 2 v = v from if_neg (by omega), show mz 2 m = Md.zero from if_pos (by omega)]
   exact ⟨_, HP5.o, HP4.o.2⟩
  replace HP := hid HP4.o.1
  clear HV4 HP4 HP5 hs2 HX
  generalize w4.setRow B c4 = w3 at *
  obtain ⟨cf, hcf⟩ : ∃ cf, c4 = cf := ⟨_, rfl⟩
  rw [hcf] at HQ HP hs4
  have hsf := hs4
 case' inr.inr =>
  go_upto_region 4 with (first
   | ((with_reducible refine j0 (.agg c2) ?_ ?_); exact jB _ rfl B 0 rfl c2 hs2.1 HP.o.1.lies)
   | (go_at_call 41; refine CB.mono ?_; rintro e w4 ⟨c4, rfl, hn4, hg4⟩; have hs4 : c4.size = 41 ∧ c4.all (·.oneCell') = true := hn4.facts; have HV4 := hid (HP.o.1.grow hg4); have hb4 : ∀ b, New w3 w4 b → B + 2 ≤ b := fun b hb => by { have h5 := hb.1; have h6 := HP.o.2.2.2; omega }; have HP4 := hid (HP.o.put HB.o (hg4.mono HP.o.2.2.2) hn4 hb4); have HP5 := hid hb4; clear hn4 hg4 CB hb4)
   | ((with_reducible refine j8 (w4.setRow B c4) ?_ ?_); exact jG _ _ rfl B _ c2 rfl rfl _ HV4.o hs4.1 hs2.1 hs4.2))
  obtain ⟨P, hP⟩ : ∃ P, New w3 w4 = P := ⟨_, rfl⟩
  have hPU : ∀ b, P b → B + 2 ≤ b ∧ UO (w4.setRow B c4) b := fun b hb => by
   rw [← hP] at hb
   have h5 := HP5.o b hb
   exact ⟨h5, hb.2.same (setRow_other _ B b _ (by omega))⟩
  rw [hP] at HP4
  obtain ⟨kv, hc4, a4, cap4, hkv, hcap4, hk4⟩ := HP4.o.2
  rw [hkv] at hc4
  have CU := nl _ (ks.mp id noM) (Nat.lt_succ_self _) P nm v Md.zero a4 cap4 (w4.setRow B c4) hcap4 hk4 (fun b hb => (hPU b hb).2) (by rw [F.mp_size]; exact HLS.o)
  have hc4' : nc nm v Md.zero (.slice a4 (ks.mp id noM).len cap4) = c4 := hc4.symm
  rw [hc4'] at CU
  have HC4 := hid (⟨hc4, hcap4, hPU⟩ : _ ∧ _ ∧ _)
  replace HP := hid HP4.o.1
  generalize w4.setRow B c4 = w5 at *
  clear HV4 HP4 HP5 hP hPU hc4 hc4' hkv hcap4 hk4 HX hs2
  go_upto_region 6 with (first
   | ((with_reducible refine j0 (.agg c4) ?_ ?_); exact jB _ rfl B 0 rfl c4 hs4.1 HP.o.1.lies)
   | (go_at_call 42; refine CU.mono ?_; rintro e w6 ⟨rfl, hF6, hr6⟩; have h6 : kV w6 P (nc nm (unkV v) Md.zero (.slice a4 (ks.mp id noM).len cap4)) nm (unkV v) Md.zero ((ks.mp id noM).mp unkV id) := ⟨_, rfl, a4, cap4, by rw [F.mp_len unkV id (ks.mp id noM)], by rw [F.mp_len unkV id (ks.mp id noM)]; exact HC4.o.2.1, hr6⟩; have hb6 : Below (B + 2) w5 w6 := ⟨hF6.le.os, hF6.le.tape, hF6.le.output, hF6.le.size, fun b hb => hF6.oth b (by have h7 := HP.o.2.2.2; omega) (fun hp => by have h7 := (HC4.o.2.2 b hp).1; omega) (by have h7 := HP.o.2.2.2; omega)⟩; have hs6 : (nc nm (unkV v) Md.zero (.slice a4 (ks.mp id noM).len cap4)).size = 41 ∧ (nc nm (unkV v) Md.zero (.slice a4 (ks.mp id noM).len cap4)).all (·.oneCell') = true := h6.facts; have HV6 : Hid (Var w6 B c4) := (hb6.block B (by omega)).trans HP.o.1; have HP6 := hid (HP.o.put HB.o hb6 h6 (fun b hb => (HC4.o.2.2 b hb).1)); generalize nc nm (unkV v) Md.zero (.slice a4 (ks.mp id noM).len cap4) = c6 at *; clear h6 hb6 hF6 hr6 CU)
   | ((with_reducible refine j8 (w6.setRow B c6) ?_ ?_); exact jG _ _ rfl B _ c4 rfl rfl _ HV6.o hs6.1 hs4.1 hs6.2))
  have HQ : Hid (∃ P : Nat → Prop, (∀ b, P b → B + 2 ≤ b) ∧ kV (w6.setRow B c6) P c6 nm (wrV 1 v) (mz 1 m) (drF 1 ks)) := by
   show ∃ _, _
   rw [drF1, show wrV 1 v = unkV v from if_pos (by omega), show mz 1 m = Md.zero from if_pos (by omega)]
   exact ⟨P, fun b hb => (HC4.o.2.2 b hb).1, HP6.o.2⟩
  replace HP := hid HP6.o.1
  clear HV6 HP6 HC4 hs4
  generalize w6.setRow B c6 = w3 at *
  obtain ⟨cf, hcf⟩ : ∃ cf, c6 = cf := ⟨_, rfl⟩
  rw [hcf] at HQ HP hs6
  have hsf := hs6
 all_goals
  go_wp2_with (first
   | ((with_reducible refine j0 (.agg cf) ?_ ?_); exact jB _ rfl B 0 rfl _ hsf.1 HP.o.1.lies)
   | ((with_reducible refine j8 (w3.setRow (B + 1) cf) ?_ ?_); exact jG _ _ rfl (B + 1) _ z30 rfl rfl _ HP.o.2.1 hsf.1 jL hsf.2))
  refine bodyPost_ret (results_cell_row (P := Tryz.prog) (p := 4) (ty := 30) rfl _ _ (B + 1) 30 cf (0, 0) _ rfl HP.o.2.1.set qB rfl (by rw [qc, hsf.1])) rfl ?_
  obtain ⟨P, hP, kv, e, hk⟩ := HQ.o
  have hHB := HB.o
  refine ⟨_, rfl, kV.has (P := P) ⟨kv, e, hk.keep fun b hb => ⟨setRow_other _ (B + 1) b _ (by have := hP b hb; omega), hb⟩⟩, ?_⟩
  exact Below.trans (B := w.heap.size) HP.o.2.2.1 ⟨rfl, rfl, rfl, by simp, fun b hb => setRow_other _ (B + 1) b _ (by omega)⟩
end Go.Proofs.YtjikkhbcbfpocaaGreatDoor
