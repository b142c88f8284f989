/-
  PathSplits: the walk of the law.
-/
import Derived.Test.YtnhnggnldhmepaaGreatDoorBkNew
import Derived.Test.YtnhnggnldhmepaaGreatDoorRefSplit
import Derived.Test.YtnhnggnldhmepaaGreatDoorSame
import Derived.Deep.DeepCutAuto
namespace Go.Proofs.YtnhnggnldhmepaaGreatDoor
open Go.RowKit Bk

theorem hid {p : Prop} (h : p) : Hid p := h

/-- The Book with n lists, and a list of texts beside it. -/
def SA (w0 : World) (K : Nat) (vw : Value) (Lw : List ByteArray) (n : Nat) (w : World) : Prop :=
  ∃ B, BookOk w w0.heap.size K n B ∧ OwnsT w w0.heap.size vw Lw ∧ (∀ b, vw.ownBlock = some b → ¬ B b) ∧ Below w0.heap.size w0 w

section
variable {w0 w w' : World} {K : Nat} {vw : Value} {Lw : List ByteArray} {n : Nat}

theorem SA.bel (h : SA w0 K vw Lw n w) : Below w0.heap.size w0 w := by obtain ⟨B, _, _, _, h⟩ := h; exact h

theorem SA.up (h : SA w0 K vw Lw n w) (hb : Below w.heap.size w w') : SA w0 K vw Lw n w' := by
  obtain ⟨B, h1, h2, h3, h4⟩ := h
  exact ⟨B, h1.keep hb.size (fun b hB => hb.block b (h1.lt b hB)) hb.os hb.tape hb.output, rowB h2 (fun k hk => hb.block k (World.ownsRow.lt h2 k hk).2), h3, h4.trans (hb.mono h4.size)⟩

theorem SA.has (h : SA w0 K vw Lw n w) : HasT w vw Lw := by obtain ⟨B, _, h, _⟩ := h; exact h.has

theorem SA.hold (h : SA w0 K vw Lw n w) (hn : n ≤ 200000) : Calls Tryz.prog 10 #[.pointer (some ⟨K, 0, none⟩)] w fun e w' => e = .returned (.bool true) ∧ Below w0.heap.size w0 w' := by
  obtain ⟨B, h1, h2, h3, h4⟩ := h
  refine (bookHoldOk w _ K n B h1 hn).mono ?_
  rintro e w' ⟨rfl, k, rfl⟩
  exact ⟨rfl, h4.os, h4.tape, h4.output, h4.size, h4.block⟩

/-- A list v of new memory is handed to the Book. -/
theorem SA.texts (h : SA w0 K vw Lw n w) (htb : Tb w0.heap.size w0) (hb : Below w.heap.size w w') {v : Value} {L : List ByteArray} (hv : OwnsT w' w.heap.size v L) (hl : L.length ≤ 1000000) (mark : Nat) (hm : mark ≤ 100000000) (hn : n ≤ 200000) :
    Calls Tryz.prog 9 #[.pointer (some ⟨K, 0, none⟩), v, .int .i64 mark] w' fun e w2 => e = .returned (.tuple #[]) ∧ SA w0 K vw Lw (n + 1) w2 := by
  have hu := h.up hb
  obtain ⟨B, h1, h2, h3, h4⟩ := h
  have hs := h4.size
  have hlt : ∀ b, v.ownBlock = some b → w.heap.size ≤ b := fun b hb' => (World.ownsRow.lt hv b hb').1
  have k1 : BookOk w' w0.heap.size K n B := h1.keep hb.size (fun b hB => hb.block b (h1.lt b hB)) hb.os hb.tape hb.output
  have k4 : Below w0.heap.size w0 w' := h4.trans (hb.mono hs)
  refine (bookTextsOk w' _ K n B v L mark k1 (hv.mono hs) (fun b hb' hB => by have := hlt b hb'; have := h1.lt b hB; omega) hl hm hn (htb.on k4)).mono ?_
  rintro e w2 ⟨rfl, B', b1, b2, b3⟩
  have k2 : OwnsT w' w0.heap.size vw Lw := rowB h2 (fun k hk => hb.block k (World.ownsRow.lt h2 k hk).2)
  have b4 : ∀ b, vw.ownBlock = some b → w2.heap[b]? = w'.heap[b]? ∧ ¬ B' b := fun b hb' => by
    have l1 := (World.ownsRow.lt h2 b hb').2
    have l2 := hb.size
    exact b3 b (by omega) (h3 b hb') (fun e => by have := hlt b e; omega)
  exact ⟨rfl, B', b1, rowB k2 (fun k hk => (b4 k hk).1), fun b hb' => (b4 b hb').2, k4.trans b2⟩
end

set_option maxHeartbeats 4000000 in
set_option maxRecDepth 100000 in
theorem splits_short (s : ByteArray) (n : Int) (w : World) (hs : s.size ≤ 20000) (htb : Tb w.heap.size w) :
    Calls Tryz.prog 3 #[.string s, .int .i64 n] w fun e w' => e = .returned (.bool true) ∧ Below w.heap.size w w' := by
  have HTB := hid htb
  have HL : Hid (∀ L : List ByteArray, L.map tl = splitL (tl s) n → L.length ≤ 20001) := fun L h => by
    have h1 : L.length = (splitL (tl s) n).length := by rw [← h, List.length_map]
    have h2 := pieces_len' (tl s)
    rw [tl_len] at h2
    rw [h1]
    unfold splitL
    split
    · omega
    · simp
  clear htb
  obtain ⟨E, hE⟩ : ∃ E, splitE (tl s) n = E := ⟨_, rfl⟩
  have CR := hid (fun wz => refSplit_any s n wz (by omega))
  have CP := hid (fun wz => split_any s n wz (by omega))
  rw [hE] at CR CP
  go_enter Tryz.func3, Tryz.ntmps3
  go_upto_region 4 with (refine wpList_book rfl rfl rfl _ rfl rfl ?_)
  have HK := hid (book_new w w.heap.size (Nat.le_refl _))
  go_wp2_with fail
  refine (CR.out _).mono ?_
  rintro e w2 ⟨⟨vw, Lw, rfl, hw, hLw⟩, hb2⟩
  have HSA : Hid (SA w w.heap.size vw Lw 0 w2) := by
    have hz : (w.alloc bookObj).heap.size = w.heap.size + 1 := by simp
    refine ⟨_, HK.out.keep hb2.size (fun b hb => hb2.block b (HK.out.lt b hb)) hb2.os hb2.tape hb2.output, hw.mono (by omega), fun b hb e => ?_, ((Below.refl _ _).alloc (Nat.le_refl _) _).trans (hb2.mono (by omega))⟩
    have := (World.ownsRow.lt hw b hb).1
    have e' : b = w.heap.size := e
    omega
  have HLW := hid hLw
  obtain ⟨pw, cw, rfl, _⟩ := hw.has.form
  clear hw hLw hb2 HK CR
  go_wp2
  go_loopw [8] (fun i wi => ∃ (j : Nat), j ≤ 3 ∧ i = .int .i64 j ∧ Hid (SA w w.heap.size (.slice pw Lw.length cw) Lw j wi)) (fun i _ => 3 - (intOf i).toNat)
  case atStart => exact ⟨0, by omega, rfl, HSA.out⟩
  case round =>
    clear HSA
    obtain ⟨j, hj, rfl, HJ⟩ := hrel
    by_cases hjl : j < 3
    · go_wp2_with fail
      refine (CP.out _).mono ?_
      rintro e w3 ⟨⟨v, L, rfl, hv, hL⟩, hb3⟩
      have HB3 := hid hb3
      have HV := hid hv
      have HLL := hid hL
      have hll : L.length ≤ 20001 := HL.out L hL
      have hlw : Lw.length ≤ 20001 := HL.out Lw HLW.out
      obtain ⟨pv, cv, rfl, _⟩ := hv.has.form
      have CS : Hid (∀ wz, Drew w3 wz → Calls Tryz.prog 8 #[.slice pv L.length cv, .slice pw Lw.length cw] wz fun e w' => e = .returned (.bool true) ∧ Drew w3 w') := fun wz hz => by
        refine (same_any _ _ L Lw wz (HV.out.has.drew hz) (((HJ.out.up HB3.out).has).drew hz) (by omega) (by omega)).mono ?_
        rintro e w' ⟨rfl, hd⟩
        refine ⟨?_, hz.trans hd⟩
        rw [HLL.out, HLW.out]
        simp
      clear hv hL hb3
      go_wp2_with (first
        | (go_at_call 7; refine (num_any _ _).mono ?_; rintro e wy ⟨rfl, hy⟩; have hy' := hy.symm; clear hy; subst hy'))
      refine (CS.out w3 (Drew.refl _)).mono ?_
      rintro e w4 ⟨rfl, hd4⟩
      have HB4 : Hid (Below wr.heap.size wr w4) := Below.drews HB3.out hd4
      have HV4 : Hid (OwnsT w4 wr.heap.size (.slice pv L.length cv) L) := rowB HV.out fun k _ => by rw [hd4.heap]
      clear hd4 CS HV HB3
      have CT : Hid (Calls Tryz.prog 9 #[.pointer (some ⟨w.heap.size, 0, none⟩), .slice pv L.length cv, .int .i64 (100 * (j : Int))] w4 fun e w2 => e = .returned (.tuple #[]) ∧ SA w w.heap.size (.slice pw Lw.length cw) Lw (j + 1) w2) := by
        have h := HJ.out.texts HTB.out HB4.out HV4.out (by omega) (100 * j) (by omega) (by omega)
        push_cast at h
        exact h
      clear HB4 HV4 HJ
      go_wp2_with (go_at_call 9; refine CT.out.mono ?_; rintro e w5 ⟨rfl, h5⟩; have HS5 := hid h5; clear h5 CT)
      exact ⟨⟨j + 1, by omega, by go_num, HS5.out⟩, by simp [intOf]; omega⟩
    · obtain rfl : j = 3 := by omega
      have CH := hid (HJ.out.hold (by omega))
      go_wp2_with fail
      refine CH.out.mono ?_
      rintro e we ⟨rfl, hx1⟩
      have HX3 := hid hx1
      clear hx1 CH HJ
      go_wp2
      go_ret
      exact ⟨rfl, HX3.out⟩
end Go.Proofs.YtnhnggnldhmepaaGreatDoor
