/-
  PathPlain: the walk, and the row.
-/
import Derived.Test.YtadkdjgffnpgcaaFrame2
import Derived.Test.YtadkdjgffnpgcaaKnown
import Derived.Test.YtadkdjgffnpgcaaJoin
import Derived.Test.YtadkdjgffnpgcaaPlainPat
namespace Go.Proofs.Ytadkdjgffnpgcaa.PlainR
open Go.ChangeShapes Go.WideShapes Go.ChangeAt Go.RowKit
open Go.ChangeMaps (open_string shut_string)

theorem litB (x : UInt8) (c : Nat) (hc : c < 256) : ((x.toNat : Int) == (c : Int)) = decide (x = UInt8.ofNat c) := u8_lit hc

set_option maxHeartbeats 1000000 in
set_option maxRecDepth 100000 in
theorem plain_any (s : ByteArray) (w : World) (hs : s.size ≤ 9223372036854775807) :
    Calls Try.prog 25 #[.string s] w fun e w' => e = .returned (.bool (plainB (tl s))) ∧ Below w.heap.size w w' := by
  have CC := check_any s w hs
  have CN := fun z W => num_any z W
  have hlen := tl_len s
  by_cases hn : nameB (tl s) = true
  · rw [hn, show eno true = 0 from rfl] at CC
    go_enter Try.func25, Try.ntmps25
    go_wp2_with (first
      | (go_at_call 10; refine CC.mono ?_; rintro e w1 ⟨rfl, b1⟩)
      | (go_at_call 9; refine (CN _ _).mono ?_; rintro e w2 ⟨rfl, e2⟩; subst e2))
    go_loop [3] (fun i => ∃ k : Nat, i = .int .i64 k ∧ k ≤ s.size ∧ Hid (∀ j (h : j < s.size), j < k → s[j]'h ≠ 42 ∧ s[j]'h ≠ 63 ∧ s[j]'h ≠ 92)) (fun i => s.size - iOf i)
    case atStart => exact ⟨0, rfl, Nat.zero_le _, fun j _ h => absurd h (Nat.not_lt_zero _)⟩
    case round =>
      obtain ⟨k, rfl, hk, HJ⟩ := hrel
      by_cases hlt : k < s.size
      · have i1 : (k : Int) < (s.size : Int) := by omega
        have b42 := litB (s[k]'hlt) 42 (by decide)
        have b63 := litB (s[k]'hlt) 63 (by decide)
        have b92 := litB (s[k]'hlt) 92 (by decide)
        by_cases hbad : s[k]'hlt = 42 ∨ s[k]'hlt = 63 ∨ s[k]'hlt = 92
        · have HF : Hid (plainB (tl s) = false) := by
            show _ = _
            rw [Bool.eq_false_iff, ne_eq, plainB_iff]
            intro h
            have := h.2 _ (tl_in s k hlt)
            rcases hbad with q | q | q
            · exact this.1 q
            · exact this.2.1 q
            · exact this.2.2 q
          rcases hbad with q | q | q
          · have c1 : (((s[k]'hlt).toNat : Int) == 42) = true := by rw [q]; rfl
            clear b42 b63 b92 q
            go_wp2
            go_ret
            exact ⟨by rw [HF.out]; rfl, b1⟩
          · have c1 : (((s[k]'hlt).toNat : Int) == 42) = false := by rw [q]; rfl
            have c2 : (((s[k]'hlt).toNat : Int) == 63) = true := by rw [q]; rfl
            clear b42 b63 b92 q
            go_wp2
            go_ret
            exact ⟨by rw [HF.out]; rfl, b1⟩
          · have c1 : (((s[k]'hlt).toNat : Int) == 42) = false := by rw [q]; rfl
            have c2 : (((s[k]'hlt).toNat : Int) == 63) = false := by rw [q]; rfl
            have c3 : (((s[k]'hlt).toNat : Int) == 92) = true := by rw [q]; rfl
            clear b42 b63 b92 q
            go_wp2
            go_ret
            exact ⟨by rw [HF.out]; rfl, b1⟩
        · have c1 : (((s[k]'hlt).toNat : Int) == 42) = false := b42.trans (decide_eq_false (fun q => hbad (.inl q)))
          have c2 : (((s[k]'hlt).toNat : Int) == 63) = false := b63.trans (decide_eq_false (fun q => hbad (.inr (.inl q))))
          have c3 : (((s[k]'hlt).toNat : Int) == 92) = false := b92.trans (decide_eq_false (fun q => hbad (.inr (.inr q))))
          have HJ2 : Hid (∀ j (h : j < s.size), j < k + 1 → s[j]'h ≠ 42 ∧ s[j]'h ≠ 63 ∧ s[j]'h ≠ 92) := by
            intro j h hj
            by_cases e : j = k
            · subst e; exact ⟨fun q => hbad (.inl q), fun q => hbad (.inr (.inl q)), fun q => hbad (.inr (.inr q))⟩
            · exact HJ.out j h (by omega)
          clear b42 b63 b92 hbad HJ
          go_wp2
          exact ⟨⟨k + 1, rfl, by omega, HJ2⟩, by simp; omega⟩
      · have i1 : ¬ ((k : Int) < (s.size : Int)) := by omega
        have HT : Hid (plainB (tl s) = true) := by
          show _ = _
          rw [plainB_iff]
          refine ⟨hn, fun x hx => ?_⟩
          obtain ⟨j, hj, rfl⟩ := tl_mem hx
          exact HJ.out j hj (by omega)
        go_wp2
        go_ret
        exact ⟨by rw [HT.out]; rfl, b1⟩
  · rw [Bool.not_eq_true] at hn
    rw [hn, show eno false = 30 from rfl] at CC
    have HF : Hid (plainB (tl s) = false) := by show _ = _; unfold plainB; rw [hn]; rfl
    clear hn
    go_enter Try.func25, Try.ntmps25
    go_wp2_with (first
      | (go_at_call 10; refine CC.mono ?_; rintro e w1 ⟨rfl, b1⟩)
      | (go_at_call 9; refine (CN _ _).mono ?_; rintro e w2 ⟨rfl, e2⟩; subst e2))
    go_ret
    exact ⟨by rw [HF.out]; rfl, b1⟩

theorem HasT.dropG {w : World} {a : Addr} {cap d : Nat} {l : List ByteArray} (h : HasT w (.slice (some a) l.length cap) l) (_hd : d ≤ l.length) : HasT w (.slice (some (a.add d)) (l.length - d) (cap - d)) (l.drop d) := by
  rcases h with ⟨h, _⟩ | ⟨a', c, hv, hc, hcell⟩
  · simp at h
  · simp at hv
    obtain ⟨rfl, rfl⟩ := hv
    refine .inr ⟨a.add d, cap - d, by simp, by simp; omega, fun i s hi => ?_⟩
    rw [List.getElem?_drop] at hi
    rw [Addr.add_add]
    exact hcell _ _ hi
theorem drop_last {α : Type} {l : List α} {y : α} (h : l[l.length - 1]? = some y) : l.drop (l.length - 1) = [y] := by
  obtain ⟨hlt, e⟩ := List.getElem?_eq_some_iff.1 h
  rw [List.drop_eq_getElem_cons hlt, e, List.drop_eq_nil_of_le (by omega)]

set_option maxHeartbeats 4000000 in
set_option maxRecDepth 100000 in
theorem walk0 (ao : Option Addr) (cap : Nat) (L : List ByteArray) (p : ByteArray) (w : World) (hL : HasT w (.slice ao L.length cap) L) (hLs : ∀ s ∈ L, s.size ≤ 9223372036854775807) (hLl : L.length ≤ 9223372036854775807) :
    Calls Try.prog 8 #[.slice ao L.length cap, .string p] w fun e w' => e = .returned (.bool true) ∧ Below w.heap.size w w' := by
  have CK := known_any w
  have CF := fun W h => few_any (.slice ao L.length cap) L W h hLs hLl
  have CN := fun z W => num_any z W
  have HL : Hid (HasT w (.slice ao L.length cap) L) := hL
  clear hL hLs hLl
  go_enter Try.func8, Try.ntmps8
  go_wp2_with fail
  refine CK.mono ?_
  rintro e w1 ⟨rfl, b1⟩
  have B1 : Hid (Below w.heap.size w w1) := b1
  clear b1 CK
  go_wp2_with fail
  refine (CF _ (HL.out.below B1.out)).mono ?_
  rintro e w2 ⟨⟨q, rfl, hq⟩, b2⟩
  have B2 : Hid (Below w.heap.size w w2) := Below.up B1.out b2
  clear b2 CF B1
  cases q with
  | false =>
    go_wp2
    go_ret
    exact ⟨rfl, B2.out⟩
  | true =>
    have hws := hq rfl
    obtain ⟨hl1, hl2, hl3⟩ := wsum_facts (L := L)
    have HJ : Hid ((joinL (L.map tl)).length ≤ 30000) := Nat.le_trans hl2 hws
    have HS3 : Hid (∀ s ∈ L, s.size ≤ 30000) := fun s h => Nat.le_trans (hl3 s h) hws
    have hLl : L.length ≤ 30000 := by omega
    clear hq hws hl1 hl2 hl3
    by_cases hp : 20000 < p.size
    · have ip : (20000 : Int) < (p.size : Int) := by omega
      go_wp2
      go_ret
      exact ⟨rfl, B2.out⟩
    · have ip : ¬ ((20000 : Int) < (p.size : Int)) := by omega
      have hp2 : p.size ≤ 20000 := by omega
      clear hp
      by_cases hz : L.length = 0
      · have iz : ((L.length : Int) == 0) = true := by rw [beq_iff_eq]; omega
        have HZ : Hid (L.length = 0) := hz
        clear hz
        go_wp2
        go_ret
        exact ⟨rfl, B2.out⟩
      · have iz : ((L.length : Int) == 0) = false := by rw [beq_eq_false_iff_ne]; omega
        have hpos : 0 < L.length := by omega
        by_cases h60 : 60 < L.length
        · have i60 : (60 : Int) < (L.length : Int) := by omega
          go_wp2
          go_ret
          exact ⟨rfl, B2.out⟩
        · have i60 : ¬ ((60 : Int) < (L.length : Int)) := by omega
          have C22 := fun W => split_any p 64 W (by omega)
          clear hz h60
          go_wp2_with fail
          refine (C22 _).mono ?_
          rintro e w3 ⟨⟨v, M, rfl, own3, hM⟩, b3⟩
          have B3 : Hid (Below w.heap.size w w3) := Below.up B2.out b3
          have HM : Hid (HasT w3 v M) := own3.has
          have HMM : Hid (M.map tl = splitL (tl p) 64) := hM
          obtain ⟨mo, mc, hv, hmc⟩ := own3.has.form
          subst hv
          clear own3 hM b3 B2 C22
          obtain ⟨se, hse⟩ : ∃ se, splitE (tl p) 64 = se := ⟨_, rfl⟩
          have HSE : Hid (splitE (tl p) 64 = se) := hse
          rw [hse]
          clear hse
          by_cases h0 : se = 0
          · subst h0
            have hMp : M.map tl = pieces (tl p) := by rw [HMM.out]; unfold splitL; rw [if_pos HSE.out]
            have HMp : Hid (M.map tl = pieces (tl p)) := hMp
            have hM20 : M.length ≤ 20001 := by
              rw [← List.length_map (f := tl), hMp]; have := pieces_len' (tl p); rw [tl_len] at this; omega
            clear hMp HMM
            by_cases hm0 : M.length = 0
            · have im : ((M.length : Int) == 0) = true := by rw [beq_iff_eq]; omega
              have HZ : Hid (M.length = 0) := hm0
              clear hm0
              go_wp2_with (go_at_call 9; refine (CN _ _).mono ?_; rintro e wb ⟨rfl, eb⟩; subst eb)
              go_ret
              exact ⟨rfl, B3.out⟩
            · have im : ((M.length : Int) == 0) = false := by rw [beq_eq_false_iff_ne]; omega
              have hmpos : 0 < M.length := by omega
              have HPN : Hid (pieces (tl p) ≠ []) := by
                intro e
                have := HMp.out
                rw [e] at this
                have := congrArg List.length this
                simp at this
                rw [this] at hmpos
                simp at hmpos
              obtain ⟨m0, hm0'⟩ : ∃ m0, mo = some m0 := by
                rcases HM.out with ⟨q, _⟩ | ⟨a, c, q, _⟩
                · injection q with q1 q2; omega
                · injection q with q1; exact ⟨a, q1⟩
              subst hm0'
              clear hm0
              go_wp2_with (go_at_call 9; refine (CN _ _).mono ?_; rintro e wb ⟨rfl, eb⟩; subst eb)
              go_loopw [7] (fun i wr => ∃ k : Nat, i = .int .i64 k ∧ k ≤ L.length ∧ Hid (∀ x ∈ L.take k, plainB (tl x) = true) ∧ Hid (Below wb.heap.size wb wr)) (fun i _ => L.length - iOf i)
              case atStart => exact ⟨0, rfl, Nat.zero_le _, by intro x hx; simp at hx, Below.refl _ _⟩
              case round =>
                obtain ⟨k, rfl, hk, HP, HB⟩ := hrel
                by_cases hlt : k < L.length
                · have i1 : (k : Int) < (L.length : Int) := by omega
                  obtain ⟨y, hy⟩ : ∃ y, L[k]? = some y := ⟨_, List.getElem?_eq_getElem hlt⟩
                  have hys := HS3.out y (List.mem_of_getElem? hy)
                  have CP := plain_any y wr (by omega)
                  obtain ⟨a0, _, hva, hca⟩ := (HL.out.below (Below.up B3.out HB.out)).at hy
                  simp at hva
                  obtain ⟨rfl, rfl⟩ := hva
                  obtain ⟨pb, hpb⟩ : ∃ pb, plainB (tl y) = pb := ⟨_, rfl⟩
                  rw [hpb] at CP
                  cases pb with
                  | true =>
                    have HP2 : Hid (∀ x ∈ L.take (k + 1), plainB (tl x) = true) := by
                      intro x hx
                      rw [List.take_add_one, hy] at hx
                      rcases List.mem_append.1 hx with h | h
                      · exact HP.out x h
                      · simp at h; subst h; exact hpb
                    clear hpb HP hy
                    go_wp2_with (go_at_call 25; refine CP.mono ?_; rintro e wa ⟨rfl, ba⟩)
                    go_roundw
                    case rel => exact ⟨k + 1, by go_num, by omega, HP2, Below.up HB.out ba⟩
                    case measure => simp; omega
                  | false =>
                    clear hpb HP hy
                    go_wp2_with (go_at_call 25; refine CP.mono ?_; rintro e wa ⟨rfl, ba⟩)
                    go_ret
                    exact ⟨rfl, Below.up B3.out (Below.up HB.out ba)⟩
                · have i1 : ¬ ((k : Int) < (L.length : Int)) := by omega
                  have HPL : Hid (PL (L.map tl)) := by
                    refine ⟨by intro e; have := congrArg List.length e; simp at this; rw [this] at hpos; simp at hpos, fun q hq => ?_⟩
                    obtain ⟨x, hx, rfl⟩ := List.mem_map.1 hq
                    exact HP.out x (by rw [List.take_of_length_le (by omega)]; exact hx)
                  have BR : Hid (Below w.heap.size w wr) := Below.up B3.out HB.out
                  have CJ := join_any (.slice ao L.length cap) L wr (HL.out.below BR.out) (by omega) (by have := HJ.out; omega)
                  obtain ⟨js, hjs⟩ : ∃ js, ofB (joinL (L.map tl)) = js := ⟨_, rfl⟩
                  have HJS : Hid (tl js = joinL (L.map tl)) := by show _ = _; rw [← hjs, tl_ofB]
                  have hjsz : js.size ≤ 30000 := by rw [← tl_len, HJS.out]; exact HJ.out
                  rw [hjs] at CJ
                  clear hjs HP
                  go_wp2_with fail
                  refine CJ.mono ?_
                  rintro e w5 ⟨rfl, b5⟩
                  have B5 : Hid (Below w.heap.size w w5) := Below.up BR.out b5
                  have HM5 : Hid (HasT w5 (.slice (some m0) M.length mc) M) := HM.out.below (Below.up HB.out b5)
                  clear b5 CJ
                  by_cases h250 : 250 < js.size
                  · have i250 : (250 : Int) < (js.size : Int) := by omega
                    go_wp2
                    go_ret
                    exact ⟨rfl, B5.out⟩
                  · have i250 : ¬ ((250 : Int) < (js.size : Int)) := by omega
                    have hj250 : (joinL (L.map tl)).length ≤ 250 := by rw [← HJS.out, tl_len]; omega
                    have M1 := fun W => match_any (⟨#[47]⟩ ++ js) p W (by rw [ByteArray.size_append]; show 1 + js.size ≤ _; omega) (by omega)
                    have M2 := fun W => match_any (⟨#[42, 42, 47]⟩ ++ js) p W (by rw [ByteArray.size_append]; show 3 + js.size ≤ _; omega) (by omega)
                    rw [tl_append, HJS.out, show tl ⟨#[47]⟩ = [47] from tl_mk [47], show [47] ++ joinL (L.map tl) = 47 :: joinL (L.map tl) from rfl, HPL.out.one hj250 (tl p) HSE.out HPN.out] at M1
                    rw [tl_append, HJS.out, show tl ⟨#[42, 42, 47]⟩ = [42, 42, 47] from tl_mk [42, 42, 47], show [42, 42, 47] ++ joinL (L.map tl) = 42 :: 42 :: 47 :: joinL (L.map tl) from rfl, HPL.out.two hj250 (tl p) HSE.out HPN.out] at M2
                    have hsp : (js.toList == p.toList) = decide (joinL (L.map tl) = tl p) := by
                      rw [← HJS.out]
                      by_cases q : tl js = tl p
                      · rw [decide_eq_true q]; simpa using q
                      · rw [decide_eq_false q]; simpa using q
                    obtain ⟨x0, hx0⟩ : ∃ x0, L[0]? = some x0 := ⟨_, List.getElem?_eq_getElem hpos⟩
                    have hx0p : plainB (tl x0) = true := HPL.out.pl _ (List.mem_map_of_mem (List.mem_of_getElem? hx0))
                    have hx0s := HS3.out x0 (List.mem_of_getElem? hx0)
                    have M3 := fun W => match_any x0 p W (by omega) (by omega)
                    rw [matchV_name hx0p (tl p) HSE.out HPN.out] at M3
                    obtain ⟨y0, hy0⟩ : ∃ y0, M[M.length - 1]? = some y0 := ⟨_, List.getElem?_eq_getElem (by omega)⟩
                    have hlast : decide ((pieces (tl p)).drop ((pieces (tl p)).length - 1) = [tl x0]) = (y0.toList == x0.toList) := by
                      have hd : (pieces (tl p)).drop ((pieces (tl p)).length - 1) = [tl y0] := by
                        rw [← HMp.out]
                        apply drop_last
                        rw [List.length_map]; simp [hy0]
                      rw [hd]
                      by_cases q : tl y0 = tl x0
                      · rw [decide_eq_true (by rw [q])]; symm; simpa using q
                      · rw [decide_eq_false (fun e => q (by injection e))]; symm; simpa using q
                    rw [hlast] at M3
                    have hpl : (pieces (tl p)).length = M.length := by rw [← HMp.out, List.length_map]
                    rw [hpl, ← HMp.out, List.length_map] at M2
                    generalize decide (joinL (L.map tl) = tl p) = d1 at *
                    obtain ⟨d2, hd2⟩ : ∃ d2, decide (L.length ≤ M.length ∧ (M.map tl).drop (M.length - L.length) = L.map tl) = d2 := ⟨_, rfl⟩
                    have HD2 : Hid (decide (L.length ≤ M.length ∧ (M.map tl).drop (M.length - L.length) = L.map tl) = d2) := hd2
                    rw [hd2] at M2
                    clear hd2
                    obtain ⟨a0, ha0⟩ : ∃ a0, ao = some a0 := by
                      rcases HL.out with ⟨q, _⟩ | ⟨a, c, q, _⟩
                      · injection q with q1 q2; omega
                      · injection q with q1; exact ⟨a, q1⟩
                    subst ha0
                    have a1 : 1 + js.size ≤ 9223372036854775807 := by omega
                    have a2 : 3 + js.size ≤ 9223372036854775807 := by omega
                    clear hlast hx0p hpl hj250 h250 HSE HPN HPL
                    go_wp2_with fail
                    refine (M1 _).mono ?_
                    rintro e w6 ⟨rfl, b6⟩
                    have B6 : Hid (Below w.heap.size w w6) := Below.up B5.out b6
                    have HM6 : Hid (HasT w6 (.slice (some m0) M.length mc) M) := HM5.out.below b6
                    clear b6 M1 B5 HM5
                    go_wp2_with fail
                    refine (M2 _).mono ?_
                    rintro e w7 ⟨rfl, b7⟩
                    have B7 : Hid (Below w.heap.size w w7) := Below.up B6.out b7
                    have HM7 : Hid (HasT w7 (.slice (some m0) M.length mc) M) := HM6.out.below b7
                    clear b7 M2 B6 HM6
                    have c7 : ∀ W : World, Below w.heap.size w W → W.cell? a0 = some (.string x0) := by
                      intro W hW
                      obtain ⟨a', _, hva, hca⟩ := (HL.out.below hW).at hx0
                      simp at hva
                      obtain ⟨rfl, _⟩ := hva
                      rw [show a0 = a0.add 0 from by cases a0; simp [Addr.add]]
                      exact hca
                    have HC7 : Hid (∀ W : World, Below w.heap.size w W → W.cell? a0 = some (.string x0)) := c7
                    clear c7
                    by_cases hge : L.length ≤ M.length
                    · obtain ⟨d, hd⟩ : ∃ d, M.length - L.length = d := ⟨_, rfl⟩
                      have hsl : ∀ wz, (Instr.sliceAt 37 (.slice (some m0) M.length mc) (some (.int .i64 ((M.length : Int) - (L.length : Int)))) none none).run Try.prog wz = .ok (.slice (some (m0.add d)) L.length (mc - d)) wz := by
                        intro wz
                        rw [show (M.length : Int) - (L.length : Int) = ((d : Nat) : Int) from by omega, slice37g m0 M.length mc d (by omega) wz, if_neg (by omega), show M.length - d = L.length from by omega]
                      have hdr := HasT.dropG HM7.out (d := d) (by omega)
                      rw [show M.length - d = L.length from by omega] at hdr
                      have CS := same_any (.slice (some (m0.add d)) L.length (mc - d)) (.slice (some a0) L.length cap) (M.drop d) L w7 hdr (HL.out.below B7.out) (by simp; omega) (by omega)
                      have hd2 : decide ((M.drop d).map tl = L.map tl) = d2 := by
                        rw [← HD2.out, hd, List.map_drop]
                        exact decide_eq_decide.2 ⟨fun e => ⟨hge, e⟩, fun e => e.2⟩
                      rw [hd2] at CS
                      have ige : (L.length : Int) ≤ (M.length : Int) := by omega
                      clear hd2 hdr hd HD2
                      cases d1 with
                      | true =>
                        cases d2 with
                        | true =>
                          go_wp2_with (first
                            | (go_at_call 24; refine CS.mono ?_; rintro e w8 ⟨rfl, d8⟩; have B8 : Hid (Below w.heap.size w w8) := Below.drews B7.out d8; have HM8 : Hid (HasT w8 (.slice (some m0) M.length mc) M) := HM7.out.drew d8; have c8 := HC7.out w8 B8.out; clear d8)
                            | (go_at_call 9; refine (CN _ _).mono ?_; rintro e wk ⟨rfl, ek⟩; subst ek))
                          refine (M3 _).mono ?_
                          rintro e w9 ⟨rfl, b9⟩
                          have B9 : Hid (Below w.heap.size w w9) := Below.up B8.out b9
                          have HM9 : Hid (HasT w9 (.slice (some m0) M.length mc) M) := HM8.out.below b9
                          clear b9 M3
                          obtain ⟨m, hm⟩ : ∃ m, M.length = m + 1 := ⟨M.length - 1, by omega⟩
                          have c9 : w9.cell? a0 = some (.string x0) := by
                            obtain ⟨a', _, hva, hca⟩ := (HL.out.below B9.out).at hx0
                            simp at hva
                            obtain ⟨rfl, _⟩ := hva
                            rw [show a0 = a0.add 0 from by cases a0; simp [Addr.add]]
                            exact hca
                          have e9 : w9.cell? (m0.add m) = some (.string y0) := by
                            obtain ⟨a', _, hva, hca⟩ := HM9.out.at hy0
                            simp at hva
                            obtain ⟨rfl, _⟩ := hva
                            rw [hm] at hca
                            exact hca
                          have im2 : (m : Int) + 1 - 1 = m := by omega
                          have hwm : IntKind.i64.wrap (m : Int) = (m : Int) := by rw [IntKind.wrap_i64]; omega
                          have hmc2 : m + 1 ≤ mc := by omega
                          rw [hm]
                          obtain ⟨d3, hd3⟩ : ∃ d3, (y0.toList == x0.toList) = d3 := ⟨_, rfl⟩
                          rw [hd3]
                          have iL : (0 : Int) < (L.length : Int) := by omega
                          have iM : (m : Int) < (m : Int) + 1 := by omega
                          clear im hmpos hM20 hmc hy0 HMp HM HM9 hm hx0 iz i60
                          cases d3 with
                          | true =>
                            go_wp2_with fail
                            go_quiet ((go_at_call 9; exact Calls.quiet_of_same (CN _ _)))
                            go_wp2
                            go_ret
                            exact ⟨rfl, below_drewN B9.out _⟩
                          | false =>
                            go_wp2_with fail
                            go_quiet ((go_at_call 9; exact Calls.quiet_of_same (CN _ _)))
                            go_wp2
                            go_ret
                            exact ⟨rfl, below_drewN B9.out _⟩
                        | false =>
                          go_wp2_with (first
                            | (go_at_call 24; refine CS.mono ?_; rintro e w8 ⟨rfl, d8⟩; have B8 : Hid (Below w.heap.size w w8) := Below.drews B7.out d8; have HM8 : Hid (HasT w8 (.slice (some m0) M.length mc) M) := HM7.out.drew d8; have c8 := HC7.out w8 B8.out; clear d8)
                            | (go_at_call 9; refine (CN _ _).mono ?_; rintro e wk ⟨rfl, ek⟩; subst ek))
                          refine (M3 _).mono ?_
                          rintro e w9 ⟨rfl, b9⟩
                          have B9 : Hid (Below w.heap.size w w9) := Below.up B8.out b9
                          have HM9 : Hid (HasT w9 (.slice (some m0) M.length mc) M) := HM8.out.below b9
                          clear b9 M3
                          obtain ⟨m, hm⟩ : ∃ m, M.length = m + 1 := ⟨M.length - 1, by omega⟩
                          have c9 : w9.cell? a0 = some (.string x0) := by
                            obtain ⟨a', _, hva, hca⟩ := (HL.out.below B9.out).at hx0
                            simp at hva
                            obtain ⟨rfl, _⟩ := hva
                            rw [show a0 = a0.add 0 from by cases a0; simp [Addr.add]]
                            exact hca
                          have e9 : w9.cell? (m0.add m) = some (.string y0) := by
                            obtain ⟨a', _, hva, hca⟩ := HM9.out.at hy0
                            simp at hva
                            obtain ⟨rfl, _⟩ := hva
                            rw [hm] at hca
                            exact hca
                          have im2 : (m : Int) + 1 - 1 = m := by omega
                          have hwm : IntKind.i64.wrap (m : Int) = (m : Int) := by rw [IntKind.wrap_i64]; omega
                          have hmc2 : m + 1 ≤ mc := by omega
                          rw [hm]
                          obtain ⟨d3, hd3⟩ : ∃ d3, (y0.toList == x0.toList) = d3 := ⟨_, rfl⟩
                          rw [hd3]
                          have iL : (0 : Int) < (L.length : Int) := by omega
                          have iM : (m : Int) < (m : Int) + 1 := by omega
                          clear im hmpos hM20 hmc hy0 HMp HM HM9 hm hx0 iz i60
                          cases d3 with
                          | true =>
                            go_wp2_with fail
                            go_quiet ((go_at_call 9; exact Calls.quiet_of_same (CN _ _)))
                            go_wp2
                            go_ret
                            exact ⟨rfl, below_drewN B9.out _⟩
                          | false =>
                            go_wp2_with fail
                            go_quiet ((go_at_call 9; exact Calls.quiet_of_same (CN _ _)))
                            go_wp2
                            go_ret
                            exact ⟨rfl, below_drewN B9.out _⟩
                      | false =>
                        cases d2 with
                        | true =>
                          go_wp2_with (first
                            | (go_at_call 24; refine CS.mono ?_; rintro e w8 ⟨rfl, d8⟩; have B8 : Hid (Below w.heap.size w w8) := Below.drews B7.out d8; have HM8 : Hid (HasT w8 (.slice (some m0) M.length mc) M) := HM7.out.drew d8; have c8 := HC7.out w8 B8.out; clear d8)
                            | (go_at_call 9; refine (CN _ _).mono ?_; rintro e wk ⟨rfl, ek⟩; subst ek))
                          refine (M3 _).mono ?_
                          rintro e w9 ⟨rfl, b9⟩
                          have B9 : Hid (Below w.heap.size w w9) := Below.up B8.out b9
                          have HM9 : Hid (HasT w9 (.slice (some m0) M.length mc) M) := HM8.out.below b9
                          clear b9 M3
                          obtain ⟨m, hm⟩ : ∃ m, M.length = m + 1 := ⟨M.length - 1, by omega⟩
                          have c9 : w9.cell? a0 = some (.string x0) := by
                            obtain ⟨a', _, hva, hca⟩ := (HL.out.below B9.out).at hx0
                            simp at hva
                            obtain ⟨rfl, _⟩ := hva
                            rw [show a0 = a0.add 0 from by cases a0; simp [Addr.add]]
                            exact hca
                          have e9 : w9.cell? (m0.add m) = some (.string y0) := by
                            obtain ⟨a', _, hva, hca⟩ := HM9.out.at hy0
                            simp at hva
                            obtain ⟨rfl, _⟩ := hva
                            rw [hm] at hca
                            exact hca
                          have im2 : (m : Int) + 1 - 1 = m := by omega
                          have hwm : IntKind.i64.wrap (m : Int) = (m : Int) := by rw [IntKind.wrap_i64]; omega
                          have hmc2 : m + 1 ≤ mc := by omega
                          rw [hm]
                          obtain ⟨d3, hd3⟩ : ∃ d3, (y0.toList == x0.toList) = d3 := ⟨_, rfl⟩
                          rw [hd3]
                          have iL : (0 : Int) < (L.length : Int) := by omega
                          have iM : (m : Int) < (m : Int) + 1 := by omega
                          clear im hmpos hM20 hmc hy0 HMp HM HM9 hm hx0 iz i60
                          cases d3 with
                          | true =>
                            go_wp2_with fail
                            go_quiet ((go_at_call 9; exact Calls.quiet_of_same (CN _ _)))
                            go_wp2
                            go_ret
                            exact ⟨rfl, below_drewN B9.out _⟩
                          | false =>
                            go_wp2_with fail
                            go_quiet ((go_at_call 9; exact Calls.quiet_of_same (CN _ _)))
                            go_wp2
                            go_ret
                            exact ⟨rfl, below_drewN B9.out _⟩
                        | false =>
                          go_wp2_with (first
                            | (go_at_call 24; refine CS.mono ?_; rintro e w8 ⟨rfl, d8⟩; have B8 : Hid (Below w.heap.size w w8) := Below.drews B7.out d8; have HM8 : Hid (HasT w8 (.slice (some m0) M.length mc) M) := HM7.out.drew d8; have c8 := HC7.out w8 B8.out; clear d8)
                            | (go_at_call 9; refine (CN _ _).mono ?_; rintro e wk ⟨rfl, ek⟩; subst ek))
                          refine (M3 _).mono ?_
                          rintro e w9 ⟨rfl, b9⟩
                          have B9 : Hid (Below w.heap.size w w9) := Below.up B8.out b9
                          have HM9 : Hid (HasT w9 (.slice (some m0) M.length mc) M) := HM8.out.below b9
                          clear b9 M3
                          obtain ⟨m, hm⟩ : ∃ m, M.length = m + 1 := ⟨M.length - 1, by omega⟩
                          have c9 : w9.cell? a0 = some (.string x0) := by
                            obtain ⟨a', _, hva, hca⟩ := (HL.out.below B9.out).at hx0
                            simp at hva
                            obtain ⟨rfl, _⟩ := hva
                            rw [show a0 = a0.add 0 from by cases a0; simp [Addr.add]]
                            exact hca
                          have e9 : w9.cell? (m0.add m) = some (.string y0) := by
                            obtain ⟨a', _, hva, hca⟩ := HM9.out.at hy0
                            simp at hva
                            obtain ⟨rfl, _⟩ := hva
                            rw [hm] at hca
                            exact hca
                          have im2 : (m : Int) + 1 - 1 = m := by omega
                          have hwm : IntKind.i64.wrap (m : Int) = (m : Int) := by rw [IntKind.wrap_i64]; omega
                          have hmc2 : m + 1 ≤ mc := by omega
                          rw [hm]
                          obtain ⟨d3, hd3⟩ : ∃ d3, (y0.toList == x0.toList) = d3 := ⟨_, rfl⟩
                          rw [hd3]
                          have iL : (0 : Int) < (L.length : Int) := by omega
                          have iM : (m : Int) < (m : Int) + 1 := by omega
                          clear im hmpos hM20 hmc hy0 HMp HM HM9 hm hx0 iz i60
                          cases d3 with
                          | true =>
                            go_wp2_with fail
                            go_quiet ((go_at_call 9; exact Calls.quiet_of_same (CN _ _)))
                            go_wp2
                            go_ret
                            exact ⟨rfl, below_drewN B9.out _⟩
                          | false =>
                            go_wp2_with fail
                            go_quiet ((go_at_call 9; exact Calls.quiet_of_same (CN _ _)))
                            go_wp2
                            go_ret
                            exact ⟨rfl, below_drewN B9.out _⟩
                    · have hd2 : d2 = false := by rw [← HD2.out]; exact decide_eq_false (fun e => hge e.1)
                      subst hd2
                      have ige : ¬ ((L.length : Int) ≤ (M.length : Int)) := by omega
                      clear HD2
                      cases d1 with
                      | true =>
                        have B8 : Hid (Below w.heap.size w w7) := B7
                        have HM8 : Hid (HasT w7 (.slice (some m0) M.length mc) M) := HM7
                        have c8 := HC7.out w7 B8.out
                        go_wp2_with (go_at_call 9; refine (CN _ _).mono ?_; rintro e wk ⟨rfl, ek⟩; subst ek)
                        refine (M3 _).mono ?_
                        rintro e w9 ⟨rfl, b9⟩
                        have B9 : Hid (Below w.heap.size w w9) := Below.up B8.out b9
                        have HM9 : Hid (HasT w9 (.slice (some m0) M.length mc) M) := HM8.out.below b9
                        clear b9 M3
                        obtain ⟨m, hm⟩ : ∃ m, M.length = m + 1 := ⟨M.length - 1, by omega⟩
                        have c9 : w9.cell? a0 = some (.string x0) := by
                          obtain ⟨a', _, hva, hca⟩ := (HL.out.below B9.out).at hx0
                          simp at hva
                          obtain ⟨rfl, _⟩ := hva
                          rw [show a0 = a0.add 0 from by cases a0; simp [Addr.add]]
                          exact hca
                        have e9 : w9.cell? (m0.add m) = some (.string y0) := by
                          obtain ⟨a', _, hva, hca⟩ := HM9.out.at hy0
                          simp at hva
                          obtain ⟨rfl, _⟩ := hva
                          rw [hm] at hca
                          exact hca
                        have im2 : (m : Int) + 1 - 1 = m := by omega
                        have hwm : IntKind.i64.wrap (m : Int) = (m : Int) := by rw [IntKind.wrap_i64]; omega
                        have hmc2 : m + 1 ≤ mc := by omega
                        rw [hm]
                        obtain ⟨d3, hd3⟩ : ∃ d3, (y0.toList == x0.toList) = d3 := ⟨_, rfl⟩
                        rw [hd3]
                        have iL : (0 : Int) < (L.length : Int) := by omega
                        have iM : (m : Int) < (m : Int) + 1 := by omega
                        clear im hmpos hM20 hmc hy0 HMp HM HM9 hm hx0 iz i60
                        cases d3 with
                        | true =>
                          go_wp2_with fail
                          go_quiet ((go_at_call 9; exact Calls.quiet_of_same (CN _ _)))
                          go_wp2
                          go_ret
                          exact ⟨rfl, below_drewN B9.out _⟩
                        | false =>
                          go_wp2_with fail
                          go_quiet ((go_at_call 9; exact Calls.quiet_of_same (CN _ _)))
                          go_wp2
                          go_ret
                          exact ⟨rfl, below_drewN B9.out _⟩
                      | false =>
                        have B8 : Hid (Below w.heap.size w w7) := B7
                        have HM8 : Hid (HasT w7 (.slice (some m0) M.length mc) M) := HM7
                        have c8 := HC7.out w7 B8.out
                        go_wp2_with (go_at_call 9; refine (CN _ _).mono ?_; rintro e wk ⟨rfl, ek⟩; subst ek)
                        refine (M3 _).mono ?_
                        rintro e w9 ⟨rfl, b9⟩
                        have B9 : Hid (Below w.heap.size w w9) := Below.up B8.out b9
                        have HM9 : Hid (HasT w9 (.slice (some m0) M.length mc) M) := HM8.out.below b9
                        clear b9 M3
                        obtain ⟨m, hm⟩ : ∃ m, M.length = m + 1 := ⟨M.length - 1, by omega⟩
                        have c9 : w9.cell? a0 = some (.string x0) := by
                          obtain ⟨a', _, hva, hca⟩ := (HL.out.below B9.out).at hx0
                          simp at hva
                          obtain ⟨rfl, _⟩ := hva
                          rw [show a0 = a0.add 0 from by cases a0; simp [Addr.add]]
                          exact hca
                        have e9 : w9.cell? (m0.add m) = some (.string y0) := by
                          obtain ⟨a', _, hva, hca⟩ := HM9.out.at hy0
                          simp at hva
                          obtain ⟨rfl, _⟩ := hva
                          rw [hm] at hca
                          exact hca
                        have im2 : (m : Int) + 1 - 1 = m := by omega
                        have hwm : IntKind.i64.wrap (m : Int) = (m : Int) := by rw [IntKind.wrap_i64]; omega
                        have hmc2 : m + 1 ≤ mc := by omega
                        rw [hm]
                        obtain ⟨d3, hd3⟩ : ∃ d3, (y0.toList == x0.toList) = d3 := ⟨_, rfl⟩
                        rw [hd3]
                        have iL : (0 : Int) < (L.length : Int) := by omega
                        have iM : (m : Int) < (m : Int) + 1 := by omega
                        clear im hmpos hM20 hmc hy0 HMp HM HM9 hm hx0 iz i60
                        cases d3 with
                        | true =>
                          go_wp2_with fail
                          go_quiet ((go_at_call 9; exact Calls.quiet_of_same (CN _ _)))
                          go_wp2
                          go_ret
                          exact ⟨rfl, below_drewN B9.out _⟩
                        | false =>
                          go_wp2_with fail
                          go_quiet ((go_at_call 9; exact Calls.quiet_of_same (CN _ _)))
                          go_wp2
                          go_ret
                          exact ⟨rfl, below_drewN B9.out _⟩
          · have hne : (se != 0) = true := by simpa using h0
            clear h0 HSE HMM
            go_wp2_with (go_at_call 9; refine (CN _ _).mono ?_; rintro e wb ⟨rfl, eb⟩; subst eb)
            go_ret
            exact ⟨rfl, B3.out⟩

theorem walk (ao : Option Addr) (cap : Nat) (L : List ByteArray) (p : ByteArray) (w : World) (hL : InT w (.slice ao L.length cap) L) (_ : p.size ≤ maxLen) :
    Calls Try.prog 8 #[.slice ao L.length cap, .string p] w fun e w' => e = .returned (.bool true) ∧ Below w.heap.size w w' :=
  walk0 ao cap L p w hL.1 hL.2.1 hL.2.2
set_option maxRecDepth 100000 in
theorem contract (H : Type) (enc : TypeId × Value → H) (W : World) (base : Nat) (args : Array Value) (ds gs : List (DataW H)) (before : List MemPlace)
    (hval : ∀ (j : Nat) t v, Try.f8.params[j]? = some t → args[j]? = some v → Value.okWide Try.prog W .any base t v)
    (hW : DataW.Whole enc Try.prog Try.f8.params.toList Rows.pathPlainSpec.vars false W args.toList ds gs before) :
    Calls Try.prog 8 args W fun e W' => ∃ v, e = .returned v ∧ Rows.pathPlainSpec.post enc Try.prog Try.f8 false true false false W args v W' := by
  have hW' := hW
  obtain ⟨p, q, hA0, hV, rfl, hfz, hnd⟩ := hW
  have hA : DataW.TrodAll enc Try.prog W 0 (fun _ => true) true Try.f8.params.toList args.toList ds p := hA0
  rw [Try.params8] at hA hval
  obtain ⟨v0, vs0, d0, ds0, p0, q0, hargs, rfl, rfl, h0, r0⟩ := trodAll_cons hA
  obtain ⟨v1, vs1, d1, ds1, p1, q1, rfl, rfl, rfl, h1, r1⟩ := trodAll_cons r0
  obtain ⟨rfl, rfl, rfl⟩ := trodAll_nil r1
  obtain rfl : args = #[v0, v1] := by cases args; simp_all
  obtain ⟨rfl, rfl⟩ := trodVars_none hV
  obtain ⟨a0, len0, cap0, rfl⟩ := okWide_slice Try.underlying37 (hval 0 37 v0 rfl rfl)
  have k0 := h0
  have lt0 : ∀ x ∈ p0, x.block < W.heap.size := by obtain ⟨m, hm⟩ := k0; exact DataW.trod_lt m _ _ _ hm
  obtain ⟨l0, rfl, hl0⟩ := texts_in h0
  obtain ⟨a1, rfl, rfl, rfl, w1⟩ := open_string Try.underlying9 (hval 1 9 v1 rfl rfl) h1
  clear hA0
  refine (walk a0 cap0 l0 a1 W hl0 w1).mono fun e W' ⟨he, bel⟩ => ?_
  subst he
  exact ⟨_, rfl, _, _, _, [], _, [], hW', trodAll_mk1 (shut_bool Try.underlying4 _), (trodAll_cons_mk (Below.trod laidOut (by kernel_rfl) (of_decide_eq_true (by kernel_rfl)) k0 bel lt0) (trodAll_cons_mk (shut_string Try.underlying9 w1) trodAll_mk0)), rfl, bel.frame _, fun h => by cases h⟩

noncomputable def aWorld (os : Os) : World := World.holding Try.prog os ⟨#[], #[], []⟩
theorem laid_met (os : Os) : laidMetH Try.prog Rows.pathPlainRow.laid ((aWorld os).forCall (fun _ _ => 0) ⟨#[], #[.slice none 0 0, .string ByteArray.empty], []⟩).memory :=
  laidMetH_of_parts (laidMet_nil _ _) (by kernel_rfl)
theorem reads (os : Os) {H : Type} (enc : TypeId × Value → H) : ∃ places, DataW.whole enc Try.prog ((aWorld os).forCall (fun _ _ => 0) ⟨#[], #[.slice none 0 0, .string ByteArray.empty], []⟩).memory Try.f8.params.toList Rows.pathPlainSpec.vars false #[Value.slice none 0 0, .string ByteArray.empty].toList 8 = some ([.nil, .lit (.string [])], [], places) :=
  ⟨[], by kernel_rfl⟩

set_option maxRecDepth 100000 in
theorem lifted (os : Os) (started : os.Started) (H : Type) (enc : TypeId × Value → H) (F : Stop.Interp) :
    ReturnsInHanded {} Try.checked os 8 .any ((OpenSpec.ofChange Rows.pathPlainSpec).preRow enc Try.prog Try.f8 Rows.pathPlainRow.domain false Rows.pathPlainRow.laid) (((OpenSpec.ofChange Rows.pathPlainSpec).at F).post enc Try.prog Try.f8 false true false false) := by
  obtain ⟨places, hx⟩ := reads os enc
  refine returnsInHanded_of_row (C := Try.checked) (s := OpenSpec.ofChange Rows.pathPlainSpec) own started (by kernel_rfl) Try.func8
    (witness_row_at (enc := enc) (C := Try.checked) false (aWorld os) #[.slice none 0 0, .string ByteArray.empty] rfl (by kernel_rfl) (by kernel_rfl) (by kernel_rfl)
      (OpenSpec.preRow_of_cond 8 hx (by kernel_rfl) (fun k hk => by cases hk) (by kernel_rfl) (laid_met os))) ?_
  intro W base args ds gs before hval hW _ _ _ hL _ _
  exact contract H enc W base args ds gs before hval hW

theorem said : Rows.PathPlainSaid :=
  OpenClaim.holds_of_cond 8 Try.f8 rfl rfl rfl rfl rfl rfl rfl ⟨rfl, rfl, rfl, rfl, rfl⟩ rfl rfl rfl rfl rfl (by kernel_rfl) Try.func8 (by kernel_rfl)
    (of_decide_eq_true (by kernel_rfl)) (by unfold Func.isWrapper; first | (rw [if_pos (by decide +kernel)]; kernel_rfl) | (rw [if_neg (by decide +kernel)]; exact ⟨rfl, rfl⟩))
    (fun os started H enc _ F => by rw [OpenClaim.pre_eq_preRow]; exact lifted os started H enc F)
end Go.Proofs.Ytadkdjgffnpgcaa.PlainR
namespace Go.Proofs.Ytadkdjgffnpgcaa
theorem pathPlain_holds : Rows.PathPlainSaid := PlainR.said
#print axioms pathPlain_holds
end Go.Proofs.Ytadkdjgffnpgcaa
