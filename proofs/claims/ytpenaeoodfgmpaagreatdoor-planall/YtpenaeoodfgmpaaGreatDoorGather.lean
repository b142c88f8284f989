/-
  plan.gather by contract.
-/
import Derived.Test.YtpenaeoodfgmpaaGreatDoorCount
import Derived.Deep.DeepCutAuto
namespace Go.Proofs.YtpenaeoodfgmpaaGreatDoor
open Go.RowKit

/-- a grower's cells -/
def gc (p : Nat × Int) : Array Value := #[.int .i64 (p.1 : Int), .int .i64 p.2]
theorem gc_size (p : Nat × Int) : (gc p).size = 2 := rfl
theorem gc_one (p : Nat × Int) : (gc p).all (·.oneCell') = true := by simp [gc, Value.oneCell']
def OwnsG (w : World) (lo : Nat) (v : Value) (R : List (Nat × Int)) : Prop := w.ownsRow lo 94 2 v R.length (flat gc R)
theorem Tryz.info66 : (Tryz.prog.info? 94).map (fun i => (i.zero, i.size, i.bytes)) = some (some (.agg #[.int .i64 0, .int .i64 0]), 2, 16) := by kernel_rfl
theorem size62 : (Tryz.prog.info? 90).map (·.size) = some 2 := by kernel_rfl
theorem under62 : Tryz.prog.underlying 90 = some (.array 2 89) := by kernel_rfl
theorem grown_of {w w' : World} (h : G w w') : w.grownBy w' none := ⟨h.os, h.tape, h.output, h.size, fun k hk _ => h.block k hk⟩
theorem owns_form {w : World} {lo s n : Nat} {T : TypeId} {v : Value} {xs : List Value} (h : w.ownsRow lo T s v n xs) : ∃ a c, v = .slice a n c := by
  obtain ⟨_, ⟨rfl, rfl⟩ | ⟨g, cap, cur, rfl, _⟩⟩ := h
  · exact ⟨none, 0, rfl⟩
  · exact ⟨_, _, rfl⟩
theorem OwnsG.up {w w' : World} {lo : Nat} {v : Value} {R : List (Nat × Int)} (h : OwnsG w lo v R) (hb : G w w') : OwnsG w' lo v R := World.ownsRow.kept h (grown_of hb) (by cases hv : v.ownBlock <;> simp)
/-- what gather holds: two rows of growers, and the block that holds them -/
def GS (w wr : World) (K : Nat) (R0 R1 : List (Nat × Int)) : Prop :=
  ∃ v0 v1, wr.heap[K]? = some (.cells #[v0, v1] 90 (0, 0)) ∧ OwnsG wr w.heap.size v0 R0 ∧ OwnsG wr w.heap.size v1 R1 ∧ v0.ownBlock ≠ some K ∧ v1.ownBlock ≠ some K ∧ (v0.ownBlock = none ∨ v0.ownBlock ≠ v1.ownBlock) ∧ w.heap.size ≤ K ∧ G w wr
theorem GS.lt {w wr : World} {K : Nat} {R0 R1 : List (Nat × Int)} (h : GS w wr K R0 R1) : K < wr.heap.size := by
  obtain ⟨v0, v1, h1, _⟩ := h
  exact (Array.getElem?_eq_some_iff.1 h1).1
theorem GS.up {w wr w' : World} {K : Nat} {R0 R1 : List (Nat × Int)} (h : GS w wr K R0 R1) (hb : G wr w') : GS w w' K R0 R1 := by
  have hl := h.lt
  obtain ⟨v0, v1, h1, h2, h3, h4, h5, h6, h7, h8⟩ := h
  exact ⟨v0, v1, (hb.block K hl).trans h1, h2.up hb, h3.up hb, h4, h5, h6, h7, h8.up hb⟩
/-- a row has grown by one, and its value is laid down -/
theorem GS.put0 {w w1 w2 : World} {K : Nat} {R0 R1 : List (Nat × Int)} {v0 v1 : Value} {p : Nat × Int} {g cap : Nat} (h1 : w1.heap[K]? = some (.cells #[v0, v1] 90 (0, 0))) (h3 : OwnsG w1 w.heap.size v1 R1) (h4 : v0.ownBlock ≠ some K) (h5 : v1.ownBlock ≠ some K) (h6 : v0.ownBlock = none ∨ v0.ownBlock ≠ v1.ownBlock) (h7 : w.heap.size ≤ K) (h8 : G w w1)
    (hown : w2.ownsRow w.heap.size 94 2 (.slice (some ⟨g, 0, none⟩) (R0.length + 1) cap) (R0.length + 1) (flat gc R0 ++ (gc p).toList)) (hgr : w1.grownBy w2 v0.ownBlock) (hat : v0.ownBlock = some g ∨ g = w1.heap.size) (h0 : ∀ k, v0.ownBlock = some k → w.heap.size ≤ k ∧ k < w1.heap.size) : GS w (w2.setCell ⟨K, 0, none⟩ (.slice (some ⟨g, 0, none⟩) (R0.length + 1) cap)) K (R0 ++ [p]) R1 := by
  have hl := (Array.getElem?_eq_some_iff.1 h1).1
  have hK2 : w2.heap[K]? = some (.cells #[v0, v1] 90 (0, 0)) := (hgr.block K hl (fun e => h4 e.symm)).trans h1
  have hgK : g ≠ K := by
    rcases hat with e | e
    · intro e2; subst e2; exact h4 e
    · omega
  have hne : v1.ownBlock = none ∨ v1.ownBlock ≠ v0.ownBlock := by
    rcases h6 with e | e
    · cases hv : v1.ownBlock
      · exact .inl rfl
      · exact .inr (by rw [e]; simp)
    · exact .inr (Ne.symm e)
  have hb : But K w2 (w2.setCell ⟨K, 0, none⟩ (.slice (some ⟨g, 0, none⟩) (R0.length + 1) cap)) := (But.refl K w2).setCell 0 _
  have gr : w2.grownBy (w2.setCell ⟨K, 0, none⟩ (.slice (some ⟨g, 0, none⟩) (R0.length + 1) cap)) (some K) := ⟨hb.os, hb.tape, hb.output, hb.size, fun k hk hn => hb.block k hk (fun e => hn (by rw [e]))⟩
  have h3' : OwnsG w2 w.heap.size v1 R1 := World.ownsRow.kept h3 hgr hne
  refine ⟨.slice (some ⟨g, 0, none⟩) (R0.length + 1) cap, v1, ?_, ?_, World.ownsRow.kept h3' gr (.inr h5), fun e => hgK (by simpa [Value.ownBlock] using e), h5, ?_, h7, ?_⟩
  · rw [heap_setCell_same _ _ _ _ _ _ hK2]; rfl
  · unfold OwnsG
    rw [flat_snoc, List.length_append]
    exact World.ownsRow.kept hown gr (.inr (fun e => hgK (by simpa [Value.ownBlock] using e)))
  · refine .inr fun e => ?_
    have e' : v1.ownBlock = some g := e.symm
    rcases hat with a | a
    · rcases h6 with b | b
      · rw [b] at a; cases a
      · exact b (a.trans e'.symm)
    · have := (World.ownsRow.lt h3 _ e').2
      omega
  · refine Below.trans (b := w2) ⟨hgr.os.trans h8.os, hgr.tape.trans h8.tape, hgr.output.trans h8.output, Nat.le_trans h8.size hgr.size, fun k hk => ?_⟩ (hb.below h7 (Nat.le_trans h8.size hgr.size))
    refine (hgr.block k (Nat.lt_of_lt_of_le hk h8.size) fun e => ?_).trans (h8.block k hk)
    have := (h0 k e.symm).1
    omega
theorem GS.put1 {w w1 w2 : World} {K : Nat} {R0 R1 : List (Nat × Int)} {v0 v1 : Value} {p : Nat × Int} {g cap : Nat} (h1 : w1.heap[K]? = some (.cells #[v0, v1] 90 (0, 0))) (h3 : OwnsG w1 w.heap.size v0 R0) (h4 : v0.ownBlock ≠ some K) (h5 : v1.ownBlock ≠ some K) (h6 : v0.ownBlock = none ∨ v0.ownBlock ≠ v1.ownBlock) (h7 : w.heap.size ≤ K) (h8 : G w w1)
    (hown : w2.ownsRow w.heap.size 94 2 (.slice (some ⟨g, 0, none⟩) (R1.length + 1) cap) (R1.length + 1) (flat gc R1 ++ (gc p).toList)) (hgr : w1.grownBy w2 v1.ownBlock) (hat : v1.ownBlock = some g ∨ g = w1.heap.size) (h0 : ∀ k, v1.ownBlock = some k → w.heap.size ≤ k ∧ k < w1.heap.size) : GS w (w2.setCell ⟨K, 1, none⟩ (.slice (some ⟨g, 0, none⟩) (R1.length + 1) cap)) K R0 (R1 ++ [p]) := by
  have hl := (Array.getElem?_eq_some_iff.1 h1).1
  have hK2 : w2.heap[K]? = some (.cells #[v0, v1] 90 (0, 0)) := (hgr.block K hl (fun e => h5 e.symm)).trans h1
  have hgK : g ≠ K := by
    rcases hat with e | e
    · intro e2; subst e2; exact h5 e
    · omega
  have hb : But K w2 (w2.setCell ⟨K, 1, none⟩ (.slice (some ⟨g, 0, none⟩) (R1.length + 1) cap)) := (But.refl K w2).setCell 1 _
  have gr : w2.grownBy (w2.setCell ⟨K, 1, none⟩ (.slice (some ⟨g, 0, none⟩) (R1.length + 1) cap)) (some K) := ⟨hb.os, hb.tape, hb.output, hb.size, fun k hk hn => hb.block k hk (fun e => hn (by rw [e]))⟩
  have h3' : OwnsG w2 w.heap.size v0 R0 := World.ownsRow.kept h3 hgr h6
  refine ⟨v0, .slice (some ⟨g, 0, none⟩) (R1.length + 1) cap, ?_, World.ownsRow.kept h3' gr (.inr h4), ?_, h4, fun e => hgK (by simpa [Value.ownBlock] using e), ?_, h7, ?_⟩
  · rw [heap_setCell_same _ _ _ _ _ _ hK2]; rfl
  · unfold OwnsG
    rw [flat_snoc, List.length_append]
    exact World.ownsRow.kept hown gr (.inr (fun e => hgK (by simpa [Value.ownBlock] using e)))
  · refine .inr fun e => ?_
    have e' : v0.ownBlock = some g := e
    rcases hat with a | a
    · rcases h6 with b | b
      · rw [b] at e'; cases e'
      · exact b (e'.trans a.symm)
    · have := (World.ownsRow.lt h3 _ e').2
      omega
  · refine Below.trans (b := w2) ⟨hgr.os.trans h8.os, hgr.tape.trans h8.tape, hgr.output.trans h8.output, Nat.le_trans h8.size hgr.size, fun k hk => ?_⟩ (hb.below h7 (Nat.le_trans h8.size hgr.size))
    refine (hgr.block k (Nat.lt_of_lt_of_le hk h8.size) fun e => ?_).trans (h8.block k hk)
    have := (h0 k e.symm).1
    omega
/-- what gather answers -/
def GatR (L : List Cd) (most : Int) (w : World) (e : Ending) (w' : World) : Prop :=
  ∃ v0 v1, e = .returned (.tuple #[.agg #[v0, v1], .int .i64 (wst L most L.length)]) ∧ OwnsG w' w.heap.size v0 (gat L most 0 L.length) ∧ OwnsG w' w.heap.size v1 (gat L most 1 L.length) ∧ G w w'
set_option maxHeartbeats 2000000 in
set_option maxRecDepth 100000 in
theorem gather_any (ao : Option Addr) (cp : Nat) (L : List Cd) (most : Int) (w : World) (hv : HasC w (.slice ao L.length cp) L) (hn : L.length ≤ 400) (hP : ∀ c ∈ L, c.pos) (h0 : 0 ≤ most) (h1 : most ≤ 1048576) :
    Calls Tryz.prog 66 #[.slice ao L.length cp, .int .i64 most] w (GatR L most w) := by
  obtain ⟨n, hn'⟩ : ∃ n, L.length = n := ⟨_, rfl⟩
  obtain ⟨i0, hi, hz0, hz1, hz2⟩ := info_parts Tryz.info66
  have HS : Hid (GS w (w.alloc (.cells #[.slice none 0 0, .slice none 0 0] 90)) w.heap.size (gat L most 0 0) (gat L most 1 0)) :=
    ⟨_, _, heap_alloc_new _ _, World.ownsRow_nil _ _ _ _, World.ownsRow_nil _ _ _ _, by simp [Value.ownBlock], by simp [Value.ownBlock], .inl rfl, Nat.le_refl _, G.al _ _⟩
  have HV := hid hv
  have HP := hid hP
  have HN := hid hn'
  obtain ⟨K, hK⟩ : ∃ K, w.heap.size = K := ⟨_, rfl⟩
  clear hv hP
  rw [hn']
  go_enter Tryz.func66, Tryz.ntmps66
  go_wp2
  have HKK := hid hK
  go_loopw [5, 14] (fun ws i wr => ∃ k : Nat, k ≤ n ∧ i = .int .i64 k ∧ ws = .int .i64 (wst L most k) ∧ Hid (GS w wr K (gat L most 0 k) (gat L most 1 k))) (fun _ i _ => n - (intOf i).toNat)
  case atStart => exact ⟨0, Nat.zero_le _, rfl, rfl, by have := HS.out; rwa [hK] at this⟩
  case round =>
    clear HS hK
    obtain ⟨k, hk, rfl, rfl, HR⟩ := hrel
    have HW := hid (wst_bd (L := L) HP.out h0 k)
    by_cases hlt : k < n
    · obtain ⟨c, hc⟩ : ∃ c, L[k]? = some c := ⟨L[k]'(by omega), by simp⟩
      obtain ⟨g, o, rfl, hl⟩ : ∃ g o, ao = some ⟨g, o, none⟩ ∧ Lies w g (o + k * 10) (cc c) := by
        obtain ⟨ao', cp', e, hq, _⟩ := HV.out
        injection e with e1 e2 e3
        subst e1
        exact hq k c hc
      have hGw : G w wr := by obtain ⟨_, _, _, _, _, _, _, _, _, q⟩ := HR.out; exact q
      have HL : Hid (Lies wr g (o + k * 10) (cc c)) := hl.up hGw
      clear hl hGw
      have ltI : (k : Int) < (n : Int) := by omega
      have geI : (0 : Int) ≤ (k : Int) := by omega
      obtain ⟨B, hB⟩ : ∃ B, wr.heap.size = B := ⟨_, rfl⟩
      have hpos := HP.out c (List.mem_of_getElem? hc)
      have b1 := shr_bd (n := c.keep) (most := most) hpos.1 h0
      have b2 := shr_bd (n := mx c.keep c.take) (most := most) (mx_nn hpos.1) h0
      have hf : fall c most = shr (mx c.keep c.take) most - shr c.keep most := rfl
      have C1 := hid (fun W => share_any c.keep most W h0 h1)
      have C2 := hid (fun W => share_any (mx c.keep c.take) most W h0 h1)
      have C3 := hid (fun W => sortOf_any c W)
      have HST := hid (wst_step (most := most) hc)
      have HGT := hid (fun s => gat_step (most := most) (s := s) hc)
      obtain ⟨m, hm⟩ : ∃ m, (if c.keep < c.take then c.take else c.keep) = m := ⟨_, rfl⟩
      have hmm : mx c.keep c.take = m := by rw [← hm]; unfold mx; split <;> split <;> omega
      rw [hmm] at C2 b2 hf HST
      have HCC : Hid (cc c = #[.string c.path, .int .i64 c.what, .int .i64 c.side, .int .i64 c.mode, .int .i64 c.keep, .int .i64 c.take, .int .i64 c.names, .int .i64 c.bytes, .int .i64 c.hn, .int .i64 c.hb]) := rfl
      have hw0 : 0 ≤ wst L most k ∧ wst L most k ≤ 400 * (1048576 + 1) := by
        have := HW.out
        refine ⟨this.1, Int.le_trans this.2 (Int.mul_le_mul (by omega) (by omega) (by omega) (by omega))⟩
      clear HW hc hmm hpos
      generalize shr m most = s2 at *
      generalize shr c.keep most = s1 at *
      generalize wst L most k = ws at *
      have hcas : srt c = 0 ∨ srt c = 1 ∨ srt c = 2 := by
        unfold srt
        by_cases q1 : c.take ≤ c.keep <;> by_cases q2 : c.what = 3 <;> by_cases q3 : (c.what = 1 ∨ c.what = 2 ∨ c.what = 5) <;> simp [q1, q2, q3]
      rcases hcas with hs | hs | hs
      · rw [srtV0 hs] at C3
        go_upto_region 9 with (first
          | ((with_reducible refine wpList_execW (.agg (cc c)) wr ?_ ?_ ?_); exact exec_load 62 _ rfl g (o + k * 10) (cc c) _ rfl _ HL.out under43 rfl size43; kernel_rfl)
          | ((with_reducible refine wpList_execW (.pointer (some ⟨B, 0, none⟩)) (wr.alloc (.cells z43 62)) ?_ ?_ ?_); exact exec_allocT 62 z43 rfl zero43 _ _ hB; kernel_rfl)
          | ((with_reducible refine wpList_skipW (wr.alloc (.cells (cc c) 62)) ?_ ?_ ?_); exact exec_fill 62 _ _ rfl (cc c) z43 wr (by rw [hB]; rfl) rfl size43 rfl (cc_one c); kernel_rfl; unfold cc)
          | (go_at_call_of 91 (Value.int .i64 m); refine (C2.out _).mono ?_; rintro e w1 ⟨rfl, rfl⟩)
          | (go_at_call 91; refine (C1.out _).mono ?_; rintro e w1 ⟨rfl, rfl⟩)
          | (go_at_call 92; refine (C3.out _).mono ?_; rintro e w1 ⟨rfl, hb1⟩; have HB1 := hid hb1; clear hb1))
        have HG1 := hid (HR.out.up ((G.al _ _).up HB1.out))
        obtain ⟨v0, v1, r1, r2, r3, r4, r5, r6, r7, r8⟩ := HG1.out
        have kc := cell_of_row w1 K 0 _ _ _ r1
        have kf := frozen_of_row w1 K 0 _ _ r1
        have kl := (Array.getElem?_eq_some_iff.1 r1).1
        simp only [List.getElem?_toArray, List.getElem?_cons_zero] at kc
        have HO : Hid (OwnsG (w1.alloc (.cells #[.int .i64 (k : Int), .int .i64 (s2 - s1)] 94)) w.heap.size v0 (gat L most 0 k)) := r2.up (G.al _ _)
        have glen := gat_len L most 0 k
        have HBD := hid (And.intro r1 (And.intro r2 (And.intro r3 (And.intro r4 (And.intro r5 (And.intro r6 (And.intro r7 r8)))))))
        have hsz : w.heap.size ≤ w1.heap.size := r8.size
        have HSZ := hid hsz
        clear r1 r2 r3 r4 r5 r6 r7 r8 hsz
        obtain ⟨B1, hB1⟩ : ∃ B1, w1.heap.size = B1 := ⟨_, rfl⟩
        go_wp2_with (at_builtin; refine wpList_append_lies _ rfl _ _ _ rfl w.heap.size 94 i0 _ 2 16 Tryz.underlying89 hi hz0 hz1 hz2 rfl (by omega) v0 (gat L most 0 k).length (flat gc (gat L most 0 k)) rfl HO.out ⟨B1, 0, none⟩ 1 1 (gc (k, s2 - s1)).toList rfl rfl ?c1 ?c2 (by omega) (by unfold maxLen; omega) (by omega) ?c3 (B1 + 1) ?c4 ?_)
        case c1 =>
          intro j u hj
          match j, hj with
          | 0, hj => simp [gc] at hj; subst hj; rw [← hB1]; simp [Addr.add]
          | 1, hj => simp [gc] at hj; subst hj; rw [← hB1]; simp [Addr.add]
        case c2 => intro u hu; simp [gc] at hu; rcases hu with rfl | rfl <;> rfl
        case c3 => simp; have := HSZ.out; omega
        case c4 => simp [hB1]
        intro g2 cap2 w2 hown hgr hat hlt2
        have kc2 : w2.cell? ⟨K, 0, none⟩ = some v0 := by
          rw [hgr.cell_far ⟨K, 0, none⟩ (by simp; omega) (by have := HBD.out; have := this.2.2.2.1; exact fun e => this (by simpa using e.symm))]
          rw [(G.al w1 _).cell (p := ⟨K, 0, none⟩) kl]
          exact kc
        have kf2 : w2.frozen? ⟨K, 0, none⟩ = false := by
          rw [hgr.frozen_far ⟨K, 0, none⟩ (by simp; omega) (by have := HBD.out; have := this.2.2.2.1; exact fun e => this (by simpa using e.symm))]
          rw [(G.al w1 _).frozen (p := ⟨K, 0, none⟩) kl]
          exact kf
        have HO2 := hid (And.intro hown (And.intro hgr hat))
        clear hown hgr hat kc kf
        go_wp2
        go_roundw
        case rel =>
          refine ⟨k + 1, by omega, by go_num, by rw [HST.out], ?_⟩
          have h0 := HGT.out 0
          have h1 := HGT.out 1
          rw [hs] at h0 h1
          simp only [reduceIte, Nat.zero_ne_one, List.append_nil, hf] at h0 h1
          rw [h0, h1]
          obtain ⟨r1, r2, r3, r4, r5, r6, r7, r8⟩ := HBD.out
          obtain ⟨hown, hgr, hat⟩ := HO2.out
          have ga := G.al w1 (.cells #[.int .i64 (k : Int), .int .i64 (s2 - s1)] 94)
          exact GS.put0 ((ga.block K kl).trans r1) (r3.up ga) r4 r5 r6 r7 (r8.up ga) hown hgr (by simpa [hB1] using hat) (fun b hb => World.ownsRow.lt HO.out b hb)
        case measure => simp [intOf]; omega
      · rw [srtV1 hs] at C3
        go_upto_region 9 with (first
          | ((with_reducible refine wpList_execW (.agg (cc c)) wr ?_ ?_ ?_); exact exec_load 62 _ rfl g (o + k * 10) (cc c) _ rfl _ HL.out under43 rfl size43; kernel_rfl)
          | ((with_reducible refine wpList_execW (.pointer (some ⟨B, 0, none⟩)) (wr.alloc (.cells z43 62)) ?_ ?_ ?_); exact exec_allocT 62 z43 rfl zero43 _ _ hB; kernel_rfl)
          | ((with_reducible refine wpList_skipW (wr.alloc (.cells (cc c) 62)) ?_ ?_ ?_); exact exec_fill 62 _ _ rfl (cc c) z43 wr (by rw [hB]; rfl) rfl size43 rfl (cc_one c); kernel_rfl; unfold cc)
          | (go_at_call_of 91 (Value.int .i64 m); refine (C2.out _).mono ?_; rintro e w1 ⟨rfl, rfl⟩)
          | (go_at_call 91; refine (C1.out _).mono ?_; rintro e w1 ⟨rfl, rfl⟩)
          | (go_at_call 92; refine (C3.out _).mono ?_; rintro e w1 ⟨rfl, hb1⟩; have HB1 := hid hb1; clear hb1))
        have HG1 := hid (HR.out.up ((G.al _ _).up HB1.out))
        obtain ⟨v0, v1, r1, r2, r3, r4, r5, r6, r7, r8⟩ := HG1.out
        have kc := cell_of_row w1 K 1 _ _ _ r1
        have kf := frozen_of_row w1 K 1 _ _ r1
        have kl := (Array.getElem?_eq_some_iff.1 r1).1
        simp only [List.getElem?_toArray, List.getElem?_cons_zero, List.getElem?_cons_succ] at kc
        have HO : Hid (OwnsG (w1.alloc (.cells #[.int .i64 (k : Int), .int .i64 (s2 - s1)] 94)) w.heap.size v1 (gat L most 1 k)) := r3.up (G.al _ _)
        have glen := gat_len L most 1 k
        have HBD := hid (And.intro r1 (And.intro r2 (And.intro r3 (And.intro r4 (And.intro r5 (And.intro r6 (And.intro r7 r8)))))))
        have hsz : w.heap.size ≤ w1.heap.size := r8.size
        have HSZ := hid hsz
        clear r1 r2 r3 r4 r5 r6 r7 r8 hsz
        obtain ⟨B1, hB1⟩ : ∃ B1, w1.heap.size = B1 := ⟨_, rfl⟩
        go_wp2_with (at_builtin; refine wpList_append_lies _ rfl _ _ _ rfl w.heap.size 94 i0 _ 2 16 Tryz.underlying89 hi hz0 hz1 hz2 rfl (by omega) v1 (gat L most 1 k).length (flat gc (gat L most 1 k)) rfl HO.out ⟨B1, 0, none⟩ 1 1 (gc (k, s2 - s1)).toList rfl rfl ?c1 ?c2 (by omega) (by unfold maxLen; omega) (by omega) ?c3 (B1 + 1) ?c4 ?_)
        case c1 =>
          intro j u hj
          match j, hj with
          | 0, hj => simp [gc] at hj; subst hj; rw [← hB1]; simp [Addr.add]
          | 1, hj => simp [gc] at hj; subst hj; rw [← hB1]; simp [Addr.add]
        case c2 => intro u hu; simp [gc] at hu; rcases hu with rfl | rfl <;> rfl
        case c3 => simp; have := HSZ.out; omega
        case c4 => simp [hB1]
        intro g2 cap2 w2 hown hgr hat hlt2
        have kc2 : w2.cell? ⟨K, 1, none⟩ = some v1 := by
          rw [hgr.cell_far ⟨K, 1, none⟩ (by simp; omega) (by have := HBD.out; have := this.2.2.2.2.1; exact fun e => this (by simpa using e.symm))]
          rw [(G.al w1 _).cell (p := ⟨K, 1, none⟩) kl]
          exact kc
        have kf2 : w2.frozen? ⟨K, 1, none⟩ = false := by
          rw [hgr.frozen_far ⟨K, 1, none⟩ (by simp; omega) (by have := HBD.out; have := this.2.2.2.2.1; exact fun e => this (by simpa using e.symm))]
          rw [(G.al w1 _).frozen (p := ⟨K, 1, none⟩) kl]
          exact kf
        have HO2 := hid (And.intro hown (And.intro hgr hat))
        clear hown hgr hat kc kf
        go_wp2
        go_roundw
        case rel =>
          refine ⟨k + 1, by omega, by go_num, by rw [HST.out], ?_⟩
          have h0 := HGT.out 0
          have h1 := HGT.out 1
          rw [hs] at h0 h1
          simp only [reduceIte, Nat.one_ne_zero, List.append_nil, hf] at h0 h1
          rw [h0, h1]
          obtain ⟨r1, r2, r3, r4, r5, r6, r7, r8⟩ := HBD.out
          obtain ⟨hown, hgr, hat⟩ := HO2.out
          have ga := G.al w1 (.cells #[.int .i64 (k : Int), .int .i64 (s2 - s1)] 94)
          exact GS.put1 ((ga.block K kl).trans r1) (r2.up ga) r4 r5 r6 r7 (r8.up ga) hown hgr (by simpa [hB1] using hat) (fun b hb => World.ownsRow.lt HO.out b hb)
        case measure => simp [intOf]; omega
      · rw [srtV2 hs] at C3
        go_wp2_with (first
          | ((with_reducible refine wpList_execW (.agg (cc c)) wr ?_ ?_ ?_); exact exec_load 62 _ rfl g (o + k * 10) (cc c) _ rfl _ HL.out under43 rfl size43; kernel_rfl)
          | ((with_reducible refine wpList_execW (.pointer (some ⟨B, 0, none⟩)) (wr.alloc (.cells z43 62)) ?_ ?_ ?_); exact exec_allocT 62 z43 rfl zero43 _ _ hB; kernel_rfl)
          | ((with_reducible refine wpList_skipW (wr.alloc (.cells (cc c) 62)) ?_ ?_ ?_); exact exec_fill 62 _ _ rfl (cc c) z43 wr (by rw [hB]; rfl) rfl size43 rfl (cc_one c); kernel_rfl; unfold cc)
          | (go_at_call_of 91 (Value.int .i64 m); refine (C2.out _).mono ?_; rintro e w1 ⟨rfl, rfl⟩)
          | (go_at_call 91; refine (C1.out _).mono ?_; rintro e w1 ⟨rfl, rfl⟩)
          | (go_at_call 92; refine (C3.out _).mono ?_; rintro e w1 ⟨rfl, hb1⟩; have HB1 := hid hb1; clear hb1))
        go_roundw
        case rel =>
          refine ⟨k + 1, by omega, by go_num, by rw [HST.out], ?_⟩
          have h0 := HGT.out 0
          have h1 := HGT.out 1
          rw [if_neg (by rw [hs]; decide), List.append_nil] at h0 h1
          rw [h0, h1]
          exact HR.out.up ((G.al _ _).up HB1.out)
        case measure => simp [intOf]; omega
    · obtain rfl : k = n := by omega
      obtain ⟨v0, v1, r1, r2, r3, r4, r5, r6, r7, r8⟩ := HR.out
      obtain ⟨a0, c0, e0⟩ := owns_form r2
      obtain ⟨a1, c1, e1⟩ := owns_form r3
      generalize (gat L most 0 k).length = l0 at e0
      generalize (gat L most 1 k).length = l1 at e1
      subst e0 e1
      have kc0 := cell_of_row wr K 0 _ _ _ r1
      have kc1 := cell_of_row wr K 1 _ _ _ r1
      have kf0 := frozen_of_row wr K 0 _ _ r1
      have kf1 := frozen_of_row wr K 1 _ _ r1
      simp only [List.getElem?_toArray, List.getElem?_cons_zero, List.getElem?_cons_succ] at kc0 kc1
      have HE : Hid (GatR L most w (.returned (.tuple #[.agg #[.slice a0 l0 c0, .slice a1 l1 c1], .int .i64 (wst L most k)])) ((wr.setCell ⟨K, 0, none⟩ (.slice a0 l0 c0)).setCell ⟨K, 1, none⟩ (.slice a1 l1 c1))) := by
        have hb : But K wr ((wr.setCell ⟨K, 0, none⟩ (.slice a0 l0 c0)).setCell ⟨K, 1, none⟩ (.slice a1 l1 c1)) := ((But.refl K wr).setCell 0 _).setCell 1 _
        have gr : wr.grownBy ((wr.setCell ⟨K, 0, none⟩ (.slice a0 l0 c0)).setCell ⟨K, 1, none⟩ (.slice a1 l1 c1)) (some K) := ⟨hb.os, hb.tape, hb.output, hb.size, fun k hk hn => hb.block k hk (fun e => hn (by rw [e]))⟩
        refine ⟨_, _, by rw [hn'], ?_, ?_, r8.trans (hb.below r7 r8.size)⟩
        · rw [hn']; exact World.ownsRow.kept r2 gr (.inr r4)
        · rw [hn']; exact World.ownsRow.kept r3 gr (.inr r5)
      clear r1 r2 r3 r4 r5 r6 r7 r8
      go_wp2
      refine bodyPost_ret (v := .tuple #[.agg #[.slice a0 l0 c0, .slice a1 l1 c1], .int .i64 (wst L most k)]) ?_ rfl HE.out
      simp [results, Tryz.results66, go_sem, kc0, kc1]
end Go.Proofs.YtpenaeoodfgmpaaGreatDoor
