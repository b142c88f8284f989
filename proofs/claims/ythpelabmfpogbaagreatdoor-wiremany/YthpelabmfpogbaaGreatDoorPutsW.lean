/-
  WirePuts: the walk.
-/
import Derived.Test.YthpelabmfpogbaaGreatDoorPutsG
import Derived.Deep.RegionWith
namespace Go.Proofs.YthpelabmfpogbaaGreatDoor
open Go.RowKit Wire Bk

/-- What stands ahead of each round: the Room at R, the Book at K (its blocks: B). -/
def PutsAt (w0 : World) (lo R K : Nat) (x : Rl) (hB hA : Value) (l : List Int) (n : Nat) (B : Nat → Prop) (w : World) : Prop :=
  BookOk w lo K n B ∧ RS w lo R x hB hA l ∧ (∀ b, RSb R x hB hA b → ¬ B b) ∧ Below lo w0 w

theorem PutsAt.lo {w0 w : World} {lo R K : Nat} {x : Rl} {hB hA : Value} {l : List Int} {n : Nat} {B : Nat → Prop} (h : PutsAt w0 lo R K x hB hA l n B w) : lo ≤ w.heap.size := by
  have := h.2.1.1.loR; have := h.2.1.1.lt; omega

/-- What makes new blocks alone leaves it. -/
theorem PutsAt.up {w0 w w' : World} {lo R K : Nat} {x : Rl} {hB hA : Value} {l : List Int} {n : Nat} {B : Nat → Prop} (h : PutsAt w0 lo R K x hB hA l n B w) (hb : Below w.heap.size w w') : PutsAt w0 lo R K x hB hA l n B w' := by
  have hlo := h.lo
  obtain ⟨h1, h2, h3, h4⟩ := h
  exact ⟨h1.keep hb.size (fun b hB => hb.block b (h1.lt b hB)) hb.os hb.tape hb.output, h2.keep hb.size (fun b hR => hb.block b (h2.lt b hR).2), h3, h4.trans (hb.mono hlo)⟩

/-- A list is handed to the Book. -/
theorem PutsAt.bytes {w0 w : World} {lo R K : Nat} {x : Rl} {hB hA : Value} {l : List Int} {n : Nat} {B : Nat → Prop} (h : PutsAt w0 lo R K x hB hA l n B w) {v : Value} {c : List Int} (hv : Owns w lo v c) (mark : Nat)
    (hf : ∀ b, v.ownBlock = some b → ¬ B b ∧ ¬ RSb R x hB hA b) (hc : c.length ≤ 1000000) (hm : mark ≤ 100000000) (hn : n ≤ 200000) :
    Calls Tryz.prog 14 #[.pointer (some ⟨K, 0, none⟩), v, .int .i64 mark] w fun e w' => e = .returned (.tuple #[]) ∧ ∃ B', PutsAt w0 lo R K x hB hA l (n + 1) B' w' ∧ ∀ b, b < w.heap.size → ¬ B b → v.ownBlock ≠ some b → w'.heap[b]? = w.heap[b]? ∧ ¬ B' b := by
  obtain ⟨h1, h2, h3, h4⟩ := h
  refine (bookBytesOk w lo K n B v c mark h1 hv (fun b hb => (hf b hb).1) hc hm hn).mono ?_
  rintro e w' ⟨rfl, B', k1, k2, k3⟩
  have hr : ∀ b, RSb R x hB hA b → w'.heap[b]? = w.heap[b]? ∧ ¬ B' b := fun b hb => k3 b (h2.lt b hb).2 (h3 b hb) (fun e => (hf b e).2 hb)
  exact ⟨rfl, B', ⟨k1, h2.keep k2.size (fun b hb => (hr b hb).1), fun b hb => (hr b hb).2, h4.trans k2⟩, k3⟩

/-- A byte of the lent list is written. -/
theorem PutsAt.set {w0 w : World} {lo R K : Nat} {x : Rl} {hB hA : Value} {l : List Int} {n : Nat} {B : Nat → Prop} (h : PutsAt w0 lo R K x hB hA l n B w) {i : Nat} (hi : i < l.length) (b : Int) : PutsAt w0 lo R K x hB hA (l.set i b) n B (w.setCell ⟨x.g, i, none⟩ (.int .u8 b)) := by
  obtain ⟨h1, h2, h3, h4⟩ := h
  have hg := h2.lt x.g (.inr (.inl rfl))
  exact ⟨h1.keep (by rw [sizeS]; exact Nat.le_refl _) (fun y hy => setB fun e => h3 x.g (.inr (.inl rfl)) (e ▸ hy)) rfl rfl rfl, h2.set hi b, h3, h4.setCell (p := ⟨x.g, i, none⟩) hg.1 _⟩

theorem same_true (va vb : Value) (a : List Int) (w : World) (ha : Has w va a) (hb : Has w vb a) (hal : a.length ≤ 1048576) :
    Calls Tryz.prog 9 #[va, vb] w fun x w' => x = .returned (.bool true) ∧ Below w.heap.size w w' := by
  refine (same_any va vb a a w ha hb hal hal).mono ?_
  rintro e w' ⟨rfl, n, rfl⟩
  exact ⟨by simp, rfl, rfl, rfl, Nat.le_refl _, fun _ _ => rfl⟩

theorem hold_up (w : World) (lo K n : Nat) (B : Nat → Prop) (h : BookOk w lo K n B) (hn : n ≤ 200000) :
    Calls Tryz.prog 15 #[.pointer (some ⟨K, 0, none⟩)] w fun e w' => e = .returned (.bool true) ∧ Below w.heap.size w w' := by
  refine (bookHoldOk w lo K n B h hn).mono ?_
  rintro e w' ⟨rfl, n, rfl⟩
  exact ⟨rfl, rfl, rfl, rfl, Nat.le_refl _, fun _ _ => rfl⟩

set_option maxHeartbeats 8000000 in
set_option maxRecDepth 100000 in
theorem puts_short (vb : Value) (bl : List Int) (n : Nat) (s : ByteArray) (w : World) (hb : Has w vb bl) (hB : Bytes bl) (hn : n < 18446744073709551616) (hl : bl.length ≤ 65536) (hs : s.size ≤ 65536) :
    Calls Tryz.prog 3 #[vb, .int .u64 n, .string s] w fun e w' => e = .returned (.bool true) ∧ Below w.heap.size w w' := by
  obtain ⟨ao, cap, rfl, hcap⟩ := hb.form
  have HB0 : Hid (Has w (.slice ao bl.length cap) bl) := hb
  have HBy : Hid (Bytes bl) := hB
  clear hb hB
  have e0 : ((w.alloc roomObj).alloc bookObj).heap.size = w.heap.size + 2 := by simp
  obtain ⟨w2, ew2⟩ : ∃ w2, (w.alloc roomObj).alloc bookObj = w2 := ⟨_, rfl⟩
  have b2 : Below w.heap.size w w2 := by rw [← ew2]; exact ((Below.refl _ w).alloc (Nat.le_refl _) _).alloc (by simp) _
  have r2 : RoomAt w2 w.heap.size w.heap.size [] (.slice none 0 0) (.slice none 0 0) := by
    have h := room_new w w.heap.size (Nat.le_refl _)
    have hR : w2.heap[w.heap.size]? = (w.alloc roomObj).heap[w.heap.size]? := by rw [← ew2]; exact Below.heap_alloc _ _ _ (by simp)
    exact ⟨h.loR, by rw [← ew2]; simp; omega, frozenB hR h.fz, fun i h1 h2 => cellB hR (h.idle i h1 h2), cellB hR h.c0, cellB hR h.c1, World.ownsRow_nil _ _ _ _, World.ownsRow_nil _ _ _ _, h.nB, h.nA, h.nAB, by simp⟩
  have k2 : BookOk w2 w.heap.size (w.heap.size + 1) 0 (fun b => b = w.heap.size + 1) := by
    have h := book_new (w.alloc roomObj) w.heap.size (by simp)
    rw [ew2] at h
    simpa using h
  have CR : Hid (Calls Tryz.prog 6 #[.pointer (some ⟨w.heap.size, 0, none⟩), .slice ao bl.length cap] w2 fun e w' => ∃ x hB hA, e = .returned (.slice (some ⟨x.g, 0, none⟩) bl.length (bl.length + 600)) ∧ PutsAt w w.heap.size w.heap.size (w.heap.size + 1) x hB hA bl 0 (fun b => b = w.heap.size + 1) w') := by
    have hsz : w2.heap.size = w.heap.size + 2 := by rw [← ew2]; exact e0
    refine (roomBytes_any w.heap.size w.heap.size [] (.slice none 0 0) (.slice none 0 0) (.slice ao bl.length cap) bl w2 r2 (by simp) (HB0.out.below b2) (by omega)).mono ?_
    rintro e w' ⟨g, rfl, x, hB, hA, hg, hxn, hgs, hr, ho, hold, hpB, hpA, hbel⟩
    subst hg
    refine ⟨x, hB, hA, rfl, k2.keep hbel.size (fun b hb => ?_) hbel.os hbel.tape hbel.output, ⟨by simpa using hr, ho.mono (by omega), hxn⟩, ?_, b2.trans hbel⟩
    · subst hb
      exact hold _ (by omega) (by omega) (by simp [Value.ownBlock]) (by simp [Value.ownBlock])
    · rintro b (rfl | rfl | e | e) hb
      · omega
      · omega
      · rcases hpB b e with h | h
        · simp [Value.ownBlock] at h
        · omega
      · rcases hpA b e with h | h
        · simp [Value.ownBlock] at h
        · omega
  clear r2 k2 b2 e0
  subst ew2
  have hl10 := enc_len64 hn
  have hl11 := enc_len64 (show s.size < 18446744073709551616 by omega)
  have HLD : Hid ((bl ++ (enc s.size ++ strB s)).length ≤ 140000) := by
    show _ ≤ _
    simp only [List.length_append, strB_len]; omega
  have HLA : Hid ((bl ++ enc n).length ≤ 70000) := by
    show _ ≤ _
    simp only [List.length_append]; omega
  clear hl10 hl11
  go_enter Tryz.func3, Tryz.ntmps3
  go_upto_region 5 with (refine wpList_book rfl rfl rfl _ rfl rfl ?_)
  go_wp2_with (go_at_call 6; refine CR.out.mono ?_; rintro e w3 ⟨x, hB, hA, rfl, hp⟩)
  have HP : Hid (PutsAt w w.heap.size w.heap.size (w.heap.size + 1) x hB hA bl 0 (fun b => b = w.heap.size + 1) w3) := hp
  clear hp CR
  go_loopw [10] (fun i wr => ∃ k : Nat, k ≤ 3 ∧ i = .int .i64 k ∧ Hid (∃ B, PutsAt w w.heap.size w.heap.size (w.heap.size + 1) x hB hA bl (2 * k) B wr)) (fun i _ => 3 - (intOf i).toNat)
  case atStart => exact ⟨0, by omega, rfl, ⟨_, HP.out⟩⟩
  case round =>
    clear HP
    obtain ⟨k, hk, rfl, HP⟩ := hrel
    by_cases hk3 : k < 3
    · obtain ⟨B, hp⟩ := HP.out
      have H0 : Hid (PutsAt w w.heap.size w.heap.size (w.heap.size + 1) x hB hA bl (2 * k) B wr) := hp
      have HH : Hid (Has wr (.slice (some ⟨x.g, 0, none⟩) bl.length (bl.length + 600)) bl) := hp.2.1.has
      have HHb : Hid (Has wr (.slice ao bl.length cap) bl) := HB0.out.below hp.2.2.2
      clear hp HP
      go_wp2_with (go_at_call 7; refine (putUint_any _ bl n _ HH.out hn (by omega)).mono ?_; rintro e w1 ⟨v1, rfl, ho1, hb1⟩)
      have HO1 : Hid (Owns w1 wr.heap.size v1 (bl ++ enc n)) := ho1
      have HB1 : Hid (Below wr.heap.size wr w1) := hb1
      clear ho1 hb1
      go_wp2_with (go_at_call 8; refine (putText_any _ bl s _ (HH.out.below HB1.out) (by omega) (by omega)).mono ?_; rintro e w2 ⟨v2, rfl, ho2, hb2⟩)
      have HO2 : Hid (Owns w2 w1.heap.size v2 (bl ++ (enc s.size ++ strB s))) := ho2
      have HB2 : Hid (Below w1.heap.size w1 w2) := hb2
      clear ho2 hb2
      go_wp2_with (go_at_call 11; refine (number_any n _ hn).mono ?_; rintro e w3 ⟨v3, rfl, ho3, hb3⟩)
      have HO3 : Hid (Owns w3 w2.heap.size v3 (enc n)) := ho3
      have HB3 : Hid (Below wr.heap.size wr w3) := Below.up (Below.up HB1.out HB2.out) hb3
      have HV1 : Hid (Has w3 v1 (bl ++ enc n)) := (HO1.out.has.below HB2.out).below hb3
      have HB23 : Hid (Below w2.heap.size w2 w3) := hb3
      clear ho3 hb3
      go_wp2_with (go_at_call 10; refine (behind_any _ _ bl (enc n) _ (HHb.out.below HB3.out) HO3.out.has (by have := HLA.out; simp only [List.length_append] at this; omega)).mono ?_; rintro e w4 ⟨v4, rfl, ho4, hb4⟩)
      have HO4 : Hid (Owns w4 w3.heap.size v4 (bl ++ enc n)) := ho4
      have HB34 : Hid (Below w3.heap.size w3 w4) := hb4
      clear ho4 hb4
      go_wp2_with (go_at_call 9; refine (same_true _ _ (bl ++ enc n) _ (HV1.out.below HB34.out) HO4.out.has (by have := HLA.out; omega)).mono ?_; rintro e w5 ⟨rfl, hb5⟩)
      have HB5 : Hid (Below wr.heap.size wr w5) := Below.up (Below.up HB3.out HB34.out) hb5
      have HB25 : Hid (Below w2.heap.size w2 w5) := Below.up (Below.up HB23.out HB34.out) hb5
      clear hb5 HB3 HB23 HB34 HO4 HV1 HO3
      go_wp2_with (go_at_call 12; refine (words_any s _ (by omega)).mono ?_; rintro e w6 ⟨v6, rfl, ho6, hb6⟩)
      have HO6 : Hid (Owns w6 w5.heap.size v6 (enc s.size ++ strB s)) := ho6
      have HB6 : Hid (Below wr.heap.size wr w6) := Below.up HB5.out hb6
      have HB26 : Hid (Below w2.heap.size w2 w6) := Below.up HB25.out hb6
      clear ho6 hb6 HB5 HB25
      go_wp2_with (go_at_call 10; refine (behind_any _ _ bl (enc s.size ++ strB s) _ (HHb.out.below HB6.out) HO6.out.has (by have := HLD.out; rw [List.length_append] at this; omega)).mono ?_; rintro e w7 ⟨v7, rfl, ho7, hb7⟩)
      have HO7 : Hid (Owns w7 w6.heap.size v7 (bl ++ (enc s.size ++ strB s))) := ho7
      have HB7 : Hid (Below wr.heap.size wr w7) := Below.up HB6.out hb7
      have HB27 : Hid (Below w2.heap.size w2 w7) := Below.up HB26.out hb7
      clear ho7 hb7 HB6 HB26 HO6
      go_wp2_with (go_at_call_of 9 v2; refine (same_true _ _ (bl ++ (enc s.size ++ strB s)) _ (HO2.out.has.below HB27.out) HO7.out.has (by have := HLD.out; omega)).mono ?_; rintro e w8 ⟨rfl, hb8⟩)
      have HB8 : Hid (Below wr.heap.size wr w8) := Below.up HB7.out hb8
      have HB28 : Hid (Below w2.heap.size w2 w8) := Below.up HB27.out hb8
      clear hb8 HB7 HB27 HO7
      go_wp2_with (go_at_call 9; refine (same_true _ _ bl _ (HH.out.below HB8.out) (HHb.out.below HB8.out) (by omega)).mono ?_; rintro e w9 ⟨rfl, hb9⟩)
      have HB9 : Hid (Below wr.heap.size wr w9) := Below.up HB8.out hb9
      have HB29 : Hid (Below w2.heap.size w2 w9) := Below.up HB28.out hb9
      clear hb9 HB8 HB28
      have H9 : Hid (PutsAt w w.heap.size w.heap.size (w.heap.size + 1) x hB hA bl (2 * k) B w9) := H0.out.up HB9.out
      have CH : Hid (Calls Tryz.prog 13 #[.pointer (some ⟨w.heap.size, 0, none⟩)] w9 fun e w' => e = .returned (.bool true) ∧ w' = w9) := roomHold_any _ _ _ _ _ w9 H9.out.2.1.1 (by simp)
      go_wp2_with (go_at_call 13; refine CH.out.mono ?_; rintro e wz ⟨rfl, hz⟩; have hz' := hz.symm; clear hz; subst hz')
      -- the lists' blocks
      have s1 := HB1.out.size
      have HN1 : Hid (Owns w9 w.heap.size v1 (bl ++ enc n)) := ((HO1.out.below HB2.out (Nat.le_refl _)).below HB29.out (Nat.le_refl _)).mono H0.out.lo
      have HN2 : Hid (Owns w9 w.heap.size v2 (bl ++ (enc s.size ++ strB s))) := (HO2.out.below HB29.out (Nat.le_refl _)).mono (by have := H0.out.lo; omega)
      have HD1 : Hid (∀ b, v1.ownBlock = some b → ¬ B b ∧ ¬ RSb w.heap.size x hB hA b) := fun b hb => by
        have h1 := (HO1.out.lt b hb).1
        exact ⟨fun h => by have := H0.out.1.lt b h; omega, fun h => by have := (H0.out.2.1.lt b h).2; omega⟩
      have HD2 : Hid (∀ b, v2.ownBlock = some b → (¬ B b ∧ ¬ RSb w.heap.size x hB hA b) ∧ v1.ownBlock ≠ some b ∧ b < w9.heap.size) := fun b hb => by
        have h1 := (HO2.out.lt b hb).1
        have h2 := (HO2.out.lt b hb).2
        have h3 := HB29.out.size
        exact ⟨⟨fun h => by have := H0.out.1.lt b h; omega, fun h => by have := (H0.out.2.1.lt b h).2; omega⟩, fun e => by have := (HO1.out.lt b e).2; omega, by omega⟩
      have CB1 : Hid (Calls Tryz.prog 14 #[.pointer (some ⟨w.heap.size + 1, 0, none⟩), v1, .int .i64 ((100 * k : Nat) : Int)] w9 fun e w' => e = .returned (.tuple #[]) ∧ ∃ B', PutsAt w w.heap.size w.heap.size (w.heap.size + 1) x hB hA bl (2 * k + 1) B' w' ∧ ∀ b, b < w9.heap.size → ¬ B b → v1.ownBlock ≠ some b → w'.heap[b]? = w9.heap[b]? ∧ ¬ B' b) :=
        H9.out.bytes HN1.out (100 * k) HD1.out (by have := HLA.out; omega) (by omega) (by omega)
      clear s1 HO1 HO2 HB1 HB2 HB29 HB9 H9 H0 HN1 HH HHb CH
      rw [show ((100 * k : Nat) : Int) = 100 * (k : Int) by simp] at CB1
      go_upto_region 13 with (go_at_call 14; refine CB1.out.mono ?_; rintro e wa ⟨rfl, B1, hp1, ho1⟩)
      have H1 : Hid (PutsAt w w.heap.size w.heap.size (w.heap.size + 1) x hB hA bl (2 * k + 1) B1 wa) := hp1
      have CB2 : Hid (Calls Tryz.prog 14 #[.pointer (some ⟨w.heap.size + 1, 0, none⟩), v2, .int .i64 ((100 * k + 50 : Nat) : Int)] wa fun e w' => e = .returned (.tuple #[]) ∧ ∃ B', PutsAt w w.heap.size w.heap.size (w.heap.size + 1) x hB hA bl (2 * k + 1 + 1) B' w' ∧ ∀ b, b < wa.heap.size → ¬ B1 b → v2.ownBlock ≠ some b → w'.heap[b]? = wa.heap[b]? ∧ ¬ B' b) :=
        H1.out.bytes (HN2.out.block fun b hb => (ho1 b (HD2.out b hb).2.2 (HD2.out b hb).1.1 (HD2.out b hb).2.1).1) (100 * k + 50) (fun b hb => ⟨(ho1 b (HD2.out b hb).2.2 (HD2.out b hb).1.1 (HD2.out b hb).2.1).2, (HD2.out b hb).1.2⟩) (by have := HLD.out; omega) (by omega) (by omega)
      rw [show ((100 * k + 50 : Nat) : Int) = 100 * (k : Int) + 50 by simp] at CB2
      clear hp1 ho1 CB1 H1 HN2 HD1 HD2
      go_wp2_with (go_at_call 14; refine CB2.out.mono ?_; rintro e wb ⟨rfl, B2, hp2, -⟩)
      have H2 : Hid (∃ B, PutsAt w w.heap.size w.heap.size (w.heap.size + 1) x hB hA bl (2 * (k + 1)) B wb) := ⟨B2, hp2⟩
      clear hp2 CB2
      go_wp2
      go_roundw
      case rel => exact ⟨k + 1, by omega, by go_num, H2⟩
      case measure => simp [intOf]; omega
    · obtain rfl : k = 3 := by omega
      have HQ : Hid (∃ B, PutsAt w w.heap.size w.heap.size (w.heap.size + 1) x hB hA bl 6 B wr) := HP.out
      clear HP
      go_wp2
      go_loopw [13] (fun i wi => ∃ (j : Nat) (l : List Int), j ≤ bl.length ∧ i = .int .i64 j ∧ Hid (l.length = bl.length ∧ Bytes l ∧ ∃ B, PutsAt w w.heap.size w.heap.size (w.heap.size + 1) x hB hA l 6 B wi)) (fun i _ => bl.length - (intOf i).toNat)
      case atStart => exact ⟨0, bl, Nat.zero_le _, rfl, rfl, HBy.out, HQ.out⟩
      case round =>
        clear HQ
        obtain ⟨j, l, hj, rfl, HJ⟩ := hrel
        by_cases hjl : j < bl.length
        · obtain ⟨hll, hby, B, hp⟩ := HJ.out
          obtain ⟨c, hc⟩ : ∃ c, l.getD j 0 = c := ⟨_, rfl⟩
          have hcell : wr.cell? ⟨x.g, j, none⟩ = some (.int .u8 c) := by rw [← hc]; exact (hp.2.1.cell (by omega)).1
          have hfz : wr.frozen? ⟨x.g, j, none⟩ = false := (hp.2.1.cell (i := j) (by omega)).2
          have hcb : 0 ≤ c ∧ c < 256 := by
            rw [← hc, List.getD, List.getElem?_eq_getElem (show j < l.length by omega)]
            exact hby _ (List.getElem_mem _)
          have HN : Hid ((l.set j ((c + 1) % 256)).length = bl.length ∧ Bytes (l.set j ((c + 1) % 256)) ∧ ∃ B, PutsAt w w.heap.size w.heap.size (w.heap.size + 1) x hB hA (l.set j ((c + 1) % 256)) 6 B (wr.setCell ⟨x.g, j, none⟩ (.int .u8 ((c + 1) % 256)))) := by
            refine ⟨by simpa using hll, fun y hy => ?_, B, hp.set (by omega) _⟩
            rcases List.mem_or_eq_of_mem_set hy with h | h
            · exact hby y h
            · subst h; omega
          clear hll hby hp hc HJ
          go_wp2
          exact ⟨⟨j + 1, _, by omega, by go_num, HN⟩, by simp [intOf]; omega⟩
        · obtain rfl : j = bl.length := by omega
          obtain ⟨hll, -, B, hp⟩ := HJ.out
          have H0 : Hid (PutsAt w w.heap.size w.heap.size (w.heap.size + 1) x hB hA l 6 B wr) := hp
          have HLl : Hid (l.length = bl.length) := hll
          have HH : Hid (Has wr (.slice (some ⟨x.g, 0, none⟩) bl.length (bl.length + 600)) l) := by
            have h := hp.2.1.has
            rw [hll] at h
            exact h
          have HLA2 : Hid ((l ++ enc n).length ≤ 70000) := by
            have := HLA.out
            show _ ≤ _
            simp only [List.length_append] at this ⊢; omega
          clear hll hp HJ
          go_wp2_with (go_at_call 10; refine (behind_any _ _ l [] _ HH.out (Has.nil _) (by have := HLA2.out; simp only [List.length_append] at this; simp; omega)).mono ?_; rintro e w1 ⟨v1, rfl, ho1, hb1⟩)
          have HO1 : Hid (Owns w1 wr.heap.size v1 l) := by rw [List.append_nil] at ho1; exact ho1
          have HB1 : Hid (Below wr.heap.size wr w1) := hb1
          clear ho1 hb1
          go_wp2_with (go_at_call 7; refine (putUint_any _ l n _ (HH.out.below HB1.out) hn (by have := HLA2.out; simp only [List.length_append] at this; omega)).mono ?_; rintro e w2 ⟨v2, rfl, ho2, hb2⟩)
          have HO2 : Hid (Owns w2 w1.heap.size v2 (l ++ enc n)) := ho2
          have HB12 : Hid (Below w1.heap.size w1 w2) := hb2
          clear ho2 hb2
          go_wp2_with (go_at_call 11; refine (number_any n _ hn).mono ?_; rintro e w3 ⟨v3, rfl, ho3, hb3⟩)
          have HO3 : Hid (Owns w3 w2.heap.size v3 (enc n)) := ho3
          have HB23 : Hid (Below w2.heap.size w2 w3) := hb3
          clear ho3 hb3
          go_wp2_with (go_at_call 10; refine (behind_any _ _ l (enc n) _ ((HO1.out.has.below HB12.out).below HB23.out) HO3.out.has (by have := HLA2.out; simp only [List.length_append] at this; omega)).mono ?_; rintro e w4 ⟨v4, rfl, ho4, hb4⟩)
          have HO4 : Hid (Owns w4 w3.heap.size v4 (l ++ enc n)) := ho4
          have HB34 : Hid (Below w3.heap.size w3 w4) := hb4
          clear ho4 hb4
          go_wp2_with (go_at_call 9; refine (same_true _ _ (l ++ enc n) _ ((HO2.out.has.below HB23.out).below HB34.out) HO4.out.has (by have := HLA2.out; omega)).mono ?_; rintro e w5 ⟨rfl, hb5⟩)
          have HB5 : Hid (Below wr.heap.size wr w5) := Below.up (Below.up (Below.up (Below.up HB1.out HB12.out) HB23.out) HB34.out) hb5
          clear hb5 HB1 HB12 HB23 HB34 HO1 HO2 HO3 HO4
          go_wp2_with (go_at_call 8; refine (putText_any _ [] s _ (Has.nil _) (by omega) (by simp)).mono ?_; rintro e w6 ⟨v6, rfl, ho6, hb6⟩)
          have HO6 : Hid (Owns w6 w5.heap.size v6 (enc s.size ++ strB s)) := ho6
          have HB6 : Hid (Below wr.heap.size wr w6) := Below.up HB5.out hb6
          clear ho6 hb6 HB5
          go_wp2_with (go_at_call 12; refine (words_any s _ (by omega)).mono ?_; rintro e w7 ⟨v7, rfl, ho7, hb7⟩)
          have HO7 : Hid (Owns w7 w6.heap.size v7 (enc s.size ++ strB s)) := ho7
          have HB67 : Hid (Below w6.heap.size w6 w7) := hb7
          clear ho7 hb7
          go_wp2_with (go_at_call 9; refine (same_true _ _ (enc s.size ++ strB s) _ (HO6.out.has.below HB67.out) HO7.out.has (by have := HLD.out; rw [List.length_append] at this; omega)).mono ?_; rintro e w8 ⟨rfl, hb8⟩)
          have HB8 : Hid (Below wr.heap.size wr w8) := Below.up (Below.up HB6.out HB67.out) hb8
          clear hb8 HB6 HB67 HO6 HO7
          have H8 : Hid (PutsAt w w.heap.size w.heap.size (w.heap.size + 1) x hB hA l 6 B w8) := H0.out.up HB8.out
          go_wp2_with (go_at_call 15; refine (hold_up _ _ _ 6 B H8.out.1 (by omega)).mono ?_; rintro e w9 ⟨rfl, hb9⟩)
          have H9 : Hid (PutsAt w w.heap.size w.heap.size (w.heap.size + 1) x hB hA l 6 B w9) := H8.out.up hb9
          clear hb9 HB8 H8 H0
          go_wp2_with (go_at_call 13; refine (roomHold_any _ _ _ _ _ w9 H9.out.2.1.1 (by simp)).mono ?_; rintro e wz ⟨rfl, hz⟩; have hz' := hz.symm; clear hz; subst hz')
          go_ret
          exact ⟨rfl, H9.out.2.2.2⟩
end Go.Proofs.YthpelabmfpogbaaGreatDoor
