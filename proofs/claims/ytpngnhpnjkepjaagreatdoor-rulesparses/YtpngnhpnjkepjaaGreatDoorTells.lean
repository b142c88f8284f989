/-
  RulesParses' tells by contract.
-/
import Derived.Test.YtpngnhpnjkepjaaGreatDoorRText
import Derived.Deep.Cut
import Derived.Test.YtpngnhpnjkepjaaGreatDoorBkNew
import Derived.Test.YtpngnhpnjkepjaaGreatDoorTText
namespace Go.Proofs.YtpngnhpnjkepjaaGreatDoor
open Go.RowKit

set_option maxRecDepth 100000 in
theorem neq57' (k : Int) (s : ByteArray) (w : World) : (binOp .neq 57 (.agg #[.int .i64 k, .string s]) (.agg #[.int .i64 k, .string s])).run Tryz.prog w = .ok (.bool false) w := by
  go_simp
set_option maxHeartbeats 2000000 in
set_option maxRecDepth 100000 in
theorem same_any (a b : Value) (L : List Ru) (w : World) (ha : HasR w a L) (hb : HasR w b L) (hn : L.length ≤ 1048576) :
    Calls Tryz.prog 16 #[a, b] w fun e w' => e = .returned (.bool true) ∧ Below w.heap.size w w' := by
  have HA : Hid (HasR w a L) := ha
  have HB : Hid (HasR w b L) := hb
  obtain ⟨oa, ca, hfa⟩ := ha.form
  obtain ⟨ob, cb, hfb⟩ := hb.form
  obtain ⟨N, hN⟩ : ∃ N, L.length = N := ⟨_, rfl⟩
  rw [hN] at hfa hfb hn
  have HN : Hid (L.length = N) := hN
  subst hfa hfb
  clear ha hb hN
  go_enter Tryz.func16, Tryz.ntmps16
  go_wp2
  go_loopw [5] (fun k wr => ∃ n : Nat, k = .int .i64 (n : Int) ∧ n ≤ N ∧ Hid (Below w.heap.size w wr)) (fun k wr => N - iOf k)
  case atStart => exact ⟨0, rfl, Nat.zero_le _, Below.refl _ _⟩
  case round =>
    obtain ⟨n, rfl, hnN, HS⟩ := hrel
    by_cases hlt : n < N
    · have i1 : (n : Int) < (N : Int) := by omega
      obtain ⟨r, hr⟩ : ∃ r, L[n]? = some r := ⟨_, List.getElem?_eq_getElem (by rw [HN.out]; exact hlt)⟩
      obtain ⟨ga, rfl, a0, a1⟩ : ∃ g, oa = some ⟨g, 0, none⟩ ∧ wr.cell? ⟨g, n * 2, none⟩ = some (.int .i64 (r.1 : Int)) ∧ wr.cell? ⟨g, n * 2 + 1, none⟩ = some (.string (ofB r.2)) := by
        rcases HA.out.up HS.out with ⟨_, e⟩ | ⟨_, g, cp, e, hg, hc⟩
        · rw [e] at hr; simp at hr
        · cases e; exact ⟨g, rfl, (hc n r hr).1, (hc n r hr).2⟩
      obtain ⟨gb, rfl, b0, b1⟩ : ∃ g, ob = some ⟨g, 0, none⟩ ∧ wr.cell? ⟨g, n * 2, none⟩ = some (.int .i64 (r.1 : Int)) ∧ wr.cell? ⟨g, n * 2 + 1, none⟩ = some (.string (ofB r.2)) := by
        rcases HB.out.up HS.out with ⟨_, e⟩ | ⟨_, g, cp, e, hg, hc⟩
        · rw [e] at hr; simp at hr
        · cases e; exact ⟨g, rfl, (hc n r hr).1, (hc n r hr).2⟩
      clear hr
      go_upto_region 6 with fail
      refine wp_region_N 100 (fun W => (W.cell? ⟨ga, n * 2, none⟩ = some (.int .i64 (r.1 : Int)) ∧ W.cell? ⟨ga, n * 2 + 1, none⟩ = some (.string (ofB r.2))) ∧ (W.cell? ⟨gb, n * 2, none⟩ = some (.int .i64 (r.1 : Int)) ∧ W.cell? ⟨gb, n * 2 + 1, none⟩ = some (.string (ofB r.2)))) ?_
      have hI : (wr.drew.cell? ⟨ga, n * 2, none⟩ = some (.int .i64 (r.1 : Int)) ∧ wr.drew.cell? ⟨ga, n * 2 + 1, none⟩ = some (.string (ofB r.2))) ∧ (wr.drew.cell? ⟨gb, n * 2, none⟩ = some (.int .i64 (r.1 : Int)) ∧ wr.drew.cell? ⟨gb, n * 2 + 1, none⟩ = some (.string (ofB r.2))) := ⟨⟨a0, a1⟩, b0, b1⟩
      have HW : Hid (Below w.heap.size w wr.drew) := HS.out.drew
      generalize wr.drew = w1 at *
      try simp only [Act.put, List.setIfInBounds_toArray, List.set_cons_zero, List.set_cons_succ]
      refine tN 0 17 (.slice (some ⟨ga, 0, none⟩) N ca) rfl (by kernel_rfl) hI (fun _ _ _ h => h) (fun wz hz => ?_) ?_
      · rfl
      try simp only [Act.put, List.setIfInBounds_toArray, List.set_cons_zero, List.set_cons_succ]
      refine tN 1 18 (.int .i64 (n : Int)) rfl (by kernel_rfl) hI (fun _ _ _ h => h) (fun wz hz => ?_) ?_
      · rfl
      try simp only [Act.put, List.setIfInBounds_toArray, List.set_cons_zero, List.set_cons_succ]
      refine tN 2 19 (.pointer (some ⟨ga, n * 2, none⟩)) rfl (by kernel_rfl) hI (fun _ _ _ h => h) (fun wz hz => ?_) ?_
      · go_simp
      try simp only [Act.put, List.setIfInBounds_toArray, List.set_cons_zero, List.set_cons_succ]
      refine tN 3 20 (.agg #[.int .i64 (r.1 : Int), .string (ofB r.2)]) rfl (by kernel_rfl) hI (fun _ _ _ h => h) (fun wz hz => ?_) ?_
      · obtain ⟨⟨z0, z1⟩, _⟩ := hz; go_simp
      try simp only [Act.put, List.setIfInBounds_toArray, List.set_cons_zero, List.set_cons_succ]
      refine tN 4 21 (.slice (some ⟨gb, 0, none⟩) N cb) rfl (by kernel_rfl) hI (fun _ _ _ h => h) (fun wz hz => ?_) ?_
      · rfl
      try simp only [Act.put, List.setIfInBounds_toArray, List.set_cons_zero, List.set_cons_succ]
      refine tN 5 22 (.int .i64 (n : Int)) rfl (by kernel_rfl) hI (fun _ _ _ h => h) (fun wz hz => ?_) ?_
      · rfl
      try simp only [Act.put, List.setIfInBounds_toArray, List.set_cons_zero, List.set_cons_succ]
      refine tN 6 23 (.pointer (some ⟨gb, n * 2, none⟩)) rfl (by kernel_rfl) hI (fun _ _ _ h => h) (fun wz hz => ?_) ?_
      · go_simp
      try simp only [Act.put, List.setIfInBounds_toArray, List.set_cons_zero, List.set_cons_succ]
      refine tN 7 24 (.agg #[.int .i64 (r.1 : Int), .string (ofB r.2)]) rfl (by kernel_rfl) hI (fun _ _ _ h => h) (fun wz hz => ?_) ?_
      · obtain ⟨_, z0, z1⟩ := hz; go_simp
      try simp only [Act.put, List.setIfInBounds_toArray, List.set_cons_zero, List.set_cons_succ]
      refine tN 8 25 (.bool false) rfl (by kernel_rfl) hI (fun _ _ _ h => h) (fun wz hz => ?_) ?_
      · have q := neq57' (r.1 : Int) (ofB r.2) wz; go_simp
      try simp only [Act.put, List.setIfInBounds_toArray, List.set_cons_zero, List.set_cons_succ]
      refine doneN (by kernel_rfl) ?_
      clear hI a0 a1 b0 b1
      go_wp2
      go_roundw
      case rel => exact ⟨n + 1, by go_num, by omega, HW⟩
      case measure => simp; omega
    · have hn2 : n = N := by omega
      subst hn2
      go_wp2
      go_ret
      exact ⟨rfl, HS.out⟩
end Go.Proofs.YtpngnhpnjkepjaaGreatDoor
namespace Go.Proofs.YtpngnhpnjkepjaaGreatDoor
open Go.RowKit

/-- what is not the Book's stays, and stays beside it -/
def Keeps (w : World) (B : Nat → Prop) (wr : World) (B' : Nat → Prop) : Prop := w.heap.size ≤ wr.heap.size ∧ ∀ b, b < w.heap.size → ¬ B b → wr.heap[b]? = w.heap[b]? ∧ ¬ B' b
theorem HasR.block {w w' : World} {v : Value} {L : List Ru} (h : HasR w v L) (hs : w.heap.size ≤ w'.heap.size) (hb : ∀ b, v.ownBlock = some b → w'.heap[b]? = w.heap[b]?) : HasR w' v L := by
  rcases h with h | ⟨hne, g, cap, rfl, hg, h⟩
  · exact .inl h
  · have e := hb g rfl
    exact .inr ⟨hne, g, cap, rfl, Nat.lt_of_lt_of_le hg hs, fun i r hi => ⟨Bk.cellB e (h i r hi).1, Bk.cellB e (h i r hi).2⟩⟩
theorem HasR.lt {w : World} {v : Value} {L : List Ru} (h : HasR w v L) : ∀ b, v.ownBlock = some b → b < w.heap.size := by
  intro b hb
  rcases h with ⟨rfl, _⟩ | ⟨_, g, cap, rfl, hg, _⟩
  · cases hb
  · cases hb; exact hg
/-- rules, a list of rules, beside the Book -/
def OffL (B : Nat → Prop) (w : World) (p : Nat) (L : List Ru) : Prop := ∃ v sv pv, w.heap[p]? = some (.cells #[v, sv, pv] 74) ∧ HasR w v L ∧ ¬ B p ∧ ∀ b, v.ownBlock = some b → ¬ B b
def OffR (B : Nat → Prop) (w : World) (v : Value) (L : List Ru) : Prop := HasR w v L ∧ ∀ b, v.ownBlock = some b → ¬ B b
theorem OffL.isL {B : Nat → Prop} {w : World} {p : Nat} {L : List Ru} (h : OffL B w p L) : IsL w p L := by
  obtain ⟨v, sv, pv, h1, h2, _⟩ := h
  exact ⟨v, sv, pv, h1, h2⟩
theorem OffR.keep {B B' : Nat → Prop} {w wr : World} {v : Value} {L : List Ru} (h : OffR B w v L) (k : Keeps w B wr B') : OffR B' wr v L :=
  ⟨h.1.block k.1 fun b hb => (k.2 b (h.1.lt b hb) (h.2 b hb)).1, fun b hb => (k.2 b (h.1.lt b hb) (h.2 b hb)).2⟩
theorem OffL.keep {B B' : Nat → Prop} {w wr : World} {p : Nat} {L : List Ru} (h : OffL B w p L) (k : Keeps w B wr B') : OffL B' wr p L := by
  obtain ⟨v, sv, pv, h1, h2, h3, h4⟩ := h
  have hp := k.2 p (Array.getElem?_eq_some_iff.1 h1).1 h3
  have hr := OffR.keep ⟨h2, h4⟩ k
  exact ⟨v, sv, pv, hp.1.trans h1, hr.1, hp.2, hr.2⟩
theorem Keeps.below {w wr : World} {B : Nat → Prop} (h : Below w.heap.size w wr) : Keeps w B wr B := ⟨h.size, fun b hb hB => ⟨h.block b hb, hB⟩⟩
theorem Keeps.trans {w1 w2 w3 : World} {A B C : Nat → Prop} (h : Keeps w1 A w2 B) (k : Keeps w2 B w3 C) : Keeps w1 A w3 C :=
  ⟨Nat.le_trans h.1 k.1, fun b hb hA => by
    have h1 := h.2 b hb hA
    have h2 := k.2 b (Nat.lt_of_lt_of_le hb h.1) h1.2
    exact ⟨h2.1.trans h1.1, h2.2⟩⟩
theorem BookOk.up {w w' : World} {lo K n : Nat} {B : Nat → Prop} (h : BookOk w lo K n B) (hb : Below w.heap.size w w') : BookOk w' lo K n B :=
  h.keep hb.size (fun b hB => hb.block b (h.lt b hB)) hb.os hb.tape hb.output
/-- so far: m lists -/
def TellQ (w : World) (lo K : Nat) (B : Nat → Prop) (m : Nat) (wr : World) : Prop := ∃ B', BookOk wr lo K m B' ∧ Below lo w wr ∧ Keeps w B wr B'
theorem TellQ.lo {w : World} {lo K m : Nat} {B : Nat → Prop} {wr : World} (h : TellQ w lo K B m wr) : lo ≤ wr.heap.size := by
  obtain ⟨B', h1, _, _⟩ := h
  obtain ⟨T, hs, ws, os, bk, _⟩ := h1
  have := bk.rows.ge
  have := bk.rows.lt
  omega
theorem TellQ.up {w : World} {lo K m : Nat} {B : Nat → Prop} {wr w' : World} (h : TellQ w lo K B m wr) (hb : Below wr.heap.size wr w') : TellQ w lo K B m w' := by
  have hl := h.lo
  obtain ⟨B', h1, h2, h3⟩ := h
  exact ⟨B', h1.up hb, h2.trans (hb.mono hl), h3.trans (Keeps.below hb)⟩
/-- a new list is handed to the Book -/
theorem TellQ.rules {w : World} {lo K m : Nat} {B : Nat → Prop} {wr w1 w2 : World} (h : TellQ w lo K B m wr) {v : Value} {L : List Ru} (hv : OwnsR w1 wr.heap.size v L) (hb1 : Below wr.heap.size wr w1) (hb2 : Below w1.heap.size w1 w2) (hl : L.length ≤ 1000000) (mark : Nat) (hm : mark ≤ 100000000) (hn : m ≤ 200000) :
    Calls Tryz.prog 19 #[.pointer (some ⟨K, 0, none⟩), v, .int .i64 mark] w2 fun e w' => e = .returned (.tuple #[]) ∧ TellQ w lo K B (m + 1) w' := by
  have hlo := h.lo
  have hb : Below wr.heap.size wr w2 := hb1.trans (hb2.mono hb1.size)
  obtain ⟨B', h1, h2, h3⟩ := h
  have hlt : ∀ b, v.ownBlock = some b → wr.heap.size ≤ b := fun b hb' => (World.ownsRow.lt hv b hb').1
  have k1 := h1.up hb
  have hv2 : OwnsR w2 lo v L := by
    have h4 : OwnsR w2 wr.heap.size v L := Bk.rowB hv fun k hk => hb2.block k (World.ownsRow.lt hv k hk).2
    obtain ⟨a, c | ⟨g, cap, cur, e1, e2, e3⟩⟩ := h4
    · exact ⟨a, .inl c⟩
    · exact ⟨a, .inr ⟨g, cap, cur, e1, Nat.le_trans hlo e2, e3⟩⟩
  refine (bookRulesOk w2 lo K m B' v L mark k1 hv2 (fun b hb' hB => by have := hlt b hb'; have := h1.lt b hB; omega) hl hm hn).mono ?_
  rintro e w3 ⟨rfl, B'', b1, b2, b3⟩
  refine ⟨rfl, B'', b1, (h2.trans (hb.mono hlo)).trans b2, h3.trans ⟨Nat.le_trans hb.size b2.size, fun b hbl hB => ?_⟩⟩
  have h4 := b3 b (Nat.lt_of_lt_of_le hbl hb.size) hB (fun e => by have := hlt b e; omega)
  exact ⟨h4.1.trans (hb.block b hbl), h4.2⟩
set_option maxHeartbeats 4000000 in
set_option maxRecDepth 100000 in
theorem tells_any (w : World) (lo K n p : Nat) (B : Nat → Prop) (lv : Value) (L : List Ru) (mark : Nat) (hB : BookOk w lo K n B) (hp : OffL B w p L) (hl : OffR B w lv L) (hL : ∀ r ∈ L, r.1 = 1 ∨ r.1 = 2 ∨ r.1 = 3) (hn64 : L.length ≤ 64) (hS : ∀ r ∈ L, r.2.length ≤ 4000) (hm : mark ≤ 100000) (hn : n ≤ 1000) :
    Calls Tryz.prog 6 #[.pointer (some ⟨K, 0, none⟩), .pointer (some ⟨p, 0, none⟩), lv, .int .i64 (mark : Int)] w fun e w' => e = .returned (.bool true) ∧ TellQ w lo K B (n + 2) w' := by
  have hlo : lo ≤ w.heap.size := by
    obtain ⟨T, hs, ws, os, bk, _⟩ := hB
    have := bk.rows.ge
    have := bk.rows.lt
    omega
  have HQ : Hid (TellQ w lo K B n w) := ⟨B, hB, Below.refl _ _, Nat.le_refl _, fun b _ h => ⟨rfl, h⟩⟩
  have HP : Hid (∀ wr j, TellQ w lo K B (n + j) wr → IsL wr p L ∧ HasR wr lv L) := fun wr j h => by
    obtain ⟨B', _, _, k⟩ := h
    exact ⟨(hp.keep k).isL, (hl.keep k).1⟩
  have htl : (textR L).length ≤ 1048576 := by have := textR_le hS; omega
  have CL : Hid (∀ W, IsL W p L → Calls Tryz.prog 15 #[.pointer (some ⟨p, 0, none⟩)] W fun e w' => ∃ vo vc, e = .returned (.slice vo L.length vc) ∧ Hid (OwnsR w' W.heap.size (.slice vo L.length vc) L ∧ HasR w' (.slice vo L.length vc) L ∧ Below W.heap.size W w')) := fun W h => by
    refine (list_any p L W h (by omega)).mono ?_
    rintro e w' ⟨v', rfl, ho, hnil, hb⟩
    obtain ⟨vo, vc, hvf⟩ := owns_form ho
    subst hvf
    exact ⟨vo, vc, rfl, ho, ho.has hnil, hb⟩
  have CS : Hid (∀ W a b, HasR W a L → HasR W b L → Calls Tryz.prog 16 #[a, b] W fun e w' => e = .returned (.bool true) ∧ Below W.heap.size W w') := fun W a b ha hb => same_any a b L W ha hb (by omega)
  have CT : Hid (∀ W, IsL W p L → Calls Tryz.prog 17 #[.pointer (some ⟨p, 0, none⟩)] W fun e w' => e = .returned (.string (ofB (textR L))) ∧ Below W.heap.size W w') := fun W h => text_any p L W h hL hn64 htl
  have CR : Hid (∀ W a, HasR W a L → Calls Tryz.prog 18 #[a] W fun e w' => e = .returned (.string (ofB (textR L))) ∧ Below W.heap.size W w') := fun W a h => ttext_any a L W h hL hn64 hS
  obtain ⟨ao, ac, hlf⟩ := hl.1.form
  subst hlf
  generalize htx : ofB (textR L) = TX at *
  clear hB hp hl hL hS htl htx
  have htt : (TX.toList != TX.toList) = false := by simp
  go_enter Tryz.func6, Tryz.ntmps6
  go_wp2
  go_loopw [9] (fun t9 wr => ∃ j : Nat, t9 = .int .i64 (j : Int) ∧ j ≤ 2 ∧ Hid (TellQ w lo K B (n + j) wr)) (fun t9 _ => 2 - iOf t9)
  case atStart => exact ⟨0, rfl, by omega, HQ⟩
  case round =>
    obtain ⟨j, rfl, hj, HJ⟩ := hrel
    clear HQ
    by_cases hlt : j < 2
    · have i1 : (j : Int) < 2 := by omega
      obtain ⟨q1, q2⟩ := HP.out wr j HJ.out
      have C15 := CL.out wr q1
      have HQ1 : Hid (IsL wr p L ∧ HasR wr (.slice ao L.length ac) L) := ⟨q1, q2⟩
      clear q1 q2 CL
      go_upto_region 5 with (go_at_call 15; refine C15.mono ?_; rintro e w1 ⟨vo, vc, rfl, HO⟩)
      have HI : Hid (IsL w1 p L ∧ HasR w1 (.slice ao L.length ac) L) := by
        have h := HO.out.2.2
        obtain ⟨v, sv, pv, h1, h2⟩ := HQ1.out.1
        exact ⟨⟨v, sv, pv, (h.block p (Array.getElem?_eq_some_iff.1 h1).1).trans h1, h2.up h⟩, HQ1.out.2.up h⟩
      have C16 := CS.out w1 (.slice vo L.length vc) (.slice ao L.length ac) HO.out.2.1 HI.out.2
      have HUP : Hid (∀ W, Below w1.heap.size w1 W → IsL W p L ∧ HasR W (.slice ao L.length ac) L) := fun W h => by
        obtain ⟨v, sv, pv, h1, h2⟩ := HI.out.1
        exact ⟨⟨v, sv, pv, (h.block p (Array.getElem?_eq_some_iff.1 h1).1).trans h1, h2.up h⟩, HI.out.2.up h⟩
      clear C15 HQ1 HI
      go_upto_region 7 with (first
        | (go_at_call 16; refine C16.mono ?_; rintro e w2 ⟨rfl, hb2⟩)
        | (go_at_call 17; refine (CT.out _ (HUP.out _ hb2).1).mono ?_; rintro e w3 ⟨rfl, hb3⟩; have hb3' := Below.up hb2 hb3)
        | (go_at_call 18; refine (CR.out _ _ (HUP.out _ hb3').2).mono ?_; rintro e w4 ⟨rfl, hb4⟩; have hb4' := Below.up hb3' hb4))
      have hc : ((mark + 10 * j : Nat) : Int) = (mark : Int) + 10 * (j : Int) := by omega
      have C19 := HJ.out.rules HO.out.1 HO.out.2.2 hb4' (by omega) (mark + 10 * j) (by omega) (by omega)
      rw [hc] at C19
      clear hc C16 HUP hb2 hb3 hb3' hb4 hb4' HO
      go_wp2_with (go_at_call 19; refine C19.mono ?_; rintro e w5 ⟨rfl, h5⟩)
      have HJ2 : Hid (TellQ w lo K B (n + (j + 1)) w5) := h5
      clear h5
      go_roundw
      case rel => exact ⟨j + 1, by go_num, by omega, HJ2⟩
      case measure => simp; omega
    · have hj2 : j = 2 := by omega
      subst hj2
      have CH : Calls Tryz.prog 10 #[.pointer (some ⟨K, 0, none⟩)] wr fun e w' => e = .returned (.bool true) ∧ Hid (TellQ w lo K B (n + 2) w') := by
        obtain ⟨B', h1, h2, h3⟩ := HJ.out
        refine (bookHoldOk wr lo K (n + 2) B' h1 (by omega)).mono ?_
        rintro e w' ⟨rfl, hb⟩
        exact ⟨rfl, HJ.out.up hb⟩
      clear HJ
      go_wp2_with (go_at_call 10; refine CH.mono ?_; rintro e w5 ⟨rfl, H5⟩)
      go_ret
      exact ⟨rfl, H5.out⟩
end Go.Proofs.YtpngnhpnjkepjaaGreatDoor
