/-
  PathBack: the walk, and the row.
-/
import Derived.Test.YtadkdjgffnpgcaaFrame2
import Derived.Test.YtadkdjgffnpgcaaKnown
import Derived.Test.YtadkdjgffnpgcaaAbove
import Derived.Test.YtadkdjgffnpgcaaJoin
namespace Go.Proofs.Ytadkdjgffnpgcaa.BackR
open Go.ChangeShapes Go.WideShapes Go.ChangeAt Go.RowKit
open Go.ChangeMaps (open_string shut_string)

theorem join_pieces (l : By) : joinL (pieces l) = l := by
  unfold pieces
  split
  · rename_i h; rw [h]; rfl
  · exact join_cuts l
theorem pieces_join {L : List By} (h : ∀ p ∈ L, nameB p = true) : pieces (joinL L) = L := by
  cases L with
  | nil => rfl
  | cons x t =>
    have hx : ∀ p ∈ x :: t, ∀ y ∈ p, y ≠ (47 : UInt8) := fun p hp y hy => ((of_decide_eq_true (h p hp)).2.2.2.2 y hy).1
    have hc := cuts_join (l := x :: t) (by simp) hx
    unfold pieces
    rw [if_neg, hc]
    intro e
    rw [e] at hc
    have h0 : x = [] := by
      have : cuts [] = [[]] := rfl
      rw [this] at hc
      injection hc with q _
      exact q.symm
    have := (of_decide_eq_true (h x (by simp))).1
    rw [h0] at this
    simp at this
theorem under_above {l u v : By} (h : AboveR l u v) : underL l u := by
  rcases h with ⟨rfl, _, _⟩ | ⟨h, _⟩
  · exact .inl rfl
  · exact .inr (.inr ⟨v, h⟩)

theorem two_new' (w : World) (u v : ByteArray) : HasT (w.alloc (.cells #[.string u, .string v] 9)) (.slice (some ⟨w.heap.size, 0, none⟩) 2 2) [u, v] := by
  refine .inr ⟨⟨w.heap.size, 0, none⟩, 2, rfl, Nat.le_refl _, fun i s hi => ?_⟩
  match i, hi with
  | 0, hi => simp at hi; subst hi; simp [Addr.add]
  | 1, hi => simp at hi; subst hi; simp [Addr.add]

theorem ofB_eq {s : ByteArray} {l : By} (h : l = tl s) : ofB l = s := by rw [h, ofB_tl]

set_option maxHeartbeats 4000000 in
set_option maxRecDepth 100000 in
theorem walk0 (ao : Option Addr) (cap : Nat) (L : List ByteArray) (p : ByteArray) (n : Int) (w : World) (hL : HasT w (.slice ao L.length cap) L) (hLs : ∀ s ∈ L, s.size ≤ 9223372036854775807) (hLl : L.length ≤ 9223372036854775807) :
    Calls Try.prog 7 #[.slice ao L.length cap, .string p, .int .i64 n] w fun e w' => e = .returned (.bool true) ∧ Below w.heap.size w w' := by
  have CK := known_any w
  have CF := fun W h => few_any (.slice ao L.length cap) L W h hLs hLl
  have CN := fun z W => num_any z W
  have HL : Hid (HasT w (.slice ao L.length cap) L) := hL
  clear hL hLs hLl
  go_enter Try.func7, Try.ntmps7
  go_wp2_with fail
  refine CK.mono ?_
  rintro e w1 ⟨rfl, b1⟩
  have B1 : Hid (Below w.heap.size w w1) := b1
  clear b1 CK
  go_wp2_with fail
  refine (CF _ (HL.out.below B1.out)).mono ?_
  rintro e w2 ⟨⟨q, rfl, hq⟩, b2⟩
  have B2 : Hid (Below w.heap.size w w2) := Below.up B1.out b2
  clear b2 CF B1
  cases q with
  | false =>
    go_wp2
    go_ret
    exact ⟨rfl, B2.out⟩
  | true =>
    have hws := hq rfl
    obtain ⟨hl1, hl2, hl3⟩ := wsum_facts (L := L)
    have HJ : Hid ((joinL (L.map tl)).length ≤ 30000) := Nat.le_trans hl2 hws
    have HS3 : Hid (∀ s ∈ L, s.size ≤ 30000) := fun s h => Nat.le_trans (hl3 s h) hws
    have hLl : L.length ≤ 30000 := by omega
    clear hq hws hl1 hl2 hl3
    by_cases hp : 20000 < p.size
    · have ip : (20000 : Int) < (p.size : Int) := by omega
      go_wp2
      go_ret
      exact ⟨rfl, B2.out⟩
    · have ip : ¬ ((20000 : Int) < (p.size : Int)) := by omega
      have hp2 : p.size ≤ 20000 := by omega
      have C22 := fun W => split_any p n W (by omega)
      have C12 := fun W => above_any p W (by omega)
      clear hp
      go_wp2_with fail
      refine (C22 _).mono ?_
      rintro e w3 ⟨⟨v, M, rfl, own3, hM⟩, b3⟩
      have B3 : Hid (Below w.heap.size w w3) := Below.up B2.out b3
      have HM : Hid (HasT w3 v M) := own3.has
      have HMM : Hid (M.map tl = splitL (tl p) n) := hM
      obtain ⟨mo, mc, hv, _⟩ := own3.has.form
      subst hv
      clear own3 hM b3 B2 C22
      obtain ⟨se, hse⟩ : ∃ se, splitE (tl p) n = se := ⟨_, rfl⟩
      have HSE : Hid (splitE (tl p) n = se) := hse
      rw [hse]
      clear hse
      by_cases h0 : se = 0
      · subst h0
        have hMp : M.map tl = pieces (tl p) := by rw [HMM.out]; unfold splitL; rw [if_pos HSE.out]
        have hMl : M.length = (pieces (tl p)).length := by rw [← hMp, List.length_map]
        have hmax : ((pieces (tl p)).length : Int) ≤ max n 0 := by
          have h := HSE.out
          unfold splitE at h
          by_cases q : max n 0 < ((pieces (tl p)).length : Int)
          · rw [if_pos q] at h; omega
          · omega
        have hM20 : M.length ≤ 20001 := by
          rw [hMl]; have := pieces_len' (tl p); rw [tl_len] at this; omega
        have CJ := join_any (.slice mo M.length mc) M w3 HM.out (by omega) (by rw [hMp, join_pieces, tl_len]; omega)
        rw [hMp, join_pieces, ofB_tl] at CJ
        have hpp : (p.toList == p.toList) = true := by simp
        obtain ⟨mx, hmx⟩ : ∃ mx, (if n < 0 then (0 : Int) else n) = mx := ⟨_, rfl⟩
        have hmm : ¬ (mx < (M.length : Int)) := by rw [← hmx, hMl]; split <;> omega
        clear hMp hMl hmax HMM HSE
        go_wp2_with (first
          | (go_at_call 9; refine (CN _ _).mono ?_; rintro e w4 ⟨rfl, e4⟩; subst e4)
          | (go_at_call 23; refine CJ.mono ?_; rintro e w5 ⟨rfl, b5⟩))
        have BQ : Hid (Below w.heap.size w w5) := Below.up B3.out b5
        clear b5 CJ hM20 hmm hmx hpp B3 HM
        refine (C12 _).mono ?_
        rintro e w6 ⟨⟨u, x, rfl, hA⟩, d6⟩
        have B6 : Hid (Below w.heap.size w w6) := Below.drews BQ.out d6
        have hus : u.size ≤ 20000 ∧ x.size ≤ 20000 := by
          rcases hA with ⟨h1, h2, _⟩ | ⟨h1, _⟩
          · rw [← tl_len u, ← tl_len x, h1, h2, tl_len]; simp; omega
          · have := congrArg List.length h1
            rw [List.length_append, List.length_cons, tl_len, tl_len, tl_len] at this; omega
        have CU := fun W => under_any p u W (by omega) (by omega)
        rw [underB_iff.2 (under_above hA)] at CU
        have HA : Hid (AboveR (tl p) (tl u) (tl x)) := hA
        clear d6 C12 hA BQ
        by_cases hu : u.toList = []
        · have b0 : u.toList.isEmpty = true := by simpa using hu
          have b1 : (u.toList == []) = true := by rw [hu]; rfl
          clear hu HA
          go_wp2_with (go_at_call 16; refine (CU _).mono ?_; rintro e w7 ⟨rfl, e7⟩; subst e7)
          have BL : Hid (Below w.heap.size w _) := B6
          go_loopw [11, 12] (fun y i wr => ∃ (k : Nat) (r : Bool), y = .bool r ∧ i = .int .i64 k ∧ k ≤ L.length ∧ Hid (r = (L.take k).all (fun s => nameB (tl s))) ∧ Hid (Below w.heap.size w wr)) (fun _ i _ => L.length - iOf i)
          case atStart => exact ⟨0, true, rfl, rfl, Nat.zero_le _, rfl, BL⟩
          case round =>
            obtain ⟨k, r, rfl, rfl, hk, HR, HB⟩ := hrel
            by_cases hlt : k < L.length
            · have i1 : (k : Int) < (L.length : Int) := by omega
              obtain ⟨y, hy⟩ : ∃ y, L[k]? = some y := ⟨_, List.getElem?_eq_getElem hlt⟩
              have hall : (L.take (k + 1)).all (fun s => nameB (tl s)) = ((L.take k).all (fun s => nameB (tl s)) && nameB (tl y)) := by
                rw [List.take_add_one, hy]; simp
              have HALL : Hid ((L.take (k + 1)).all (fun s => nameB (tl s)) = (r && nameB (tl y))) := by show _ = _; rw [hall, ← HR.out]
              clear hall HR
              cases r with
              | true =>
                have hys := HS3.out y (List.mem_of_getElem? hy)
                have C10 := check_any y wr (by omega)
                obtain ⟨a0, _, hva, hca⟩ := (HL.out.below HB.out).at hy
                simp at hva
                obtain ⟨rfl, rfl⟩ := hva
                obtain ⟨nb, hnb⟩ : ∃ nb, nameB (tl y) = nb := ⟨_, rfl⟩
                rw [hnb] at HALL C10
                clear hnb
                cases nb with
                | true =>
                  rw [show eno true = 0 from rfl] at C10
                  have HR2 : Hid (true = (L.take (k + 1)).all (fun s => nameB (tl s))) := HALL.out.symm
                  clear HALL
                  go_wp2_with (first
                    | (go_at_call 10; refine C10.mono ?_; rintro e wa ⟨rfl, ba⟩)
                    | (go_at_call 9; refine (CN _ _).mono ?_; rintro e wb ⟨rfl, eb⟩; subst eb))
                  go_roundw
                  case rel => exact ⟨k + 1, true, rfl, by go_num, by omega, HR2, Below.up HB.out ba⟩
                  case measure => simp; omega
                | false =>
                  rw [show eno false = 30 from rfl] at C10
                  have HR2 : Hid (false = (L.take (k + 1)).all (fun s => nameB (tl s))) := HALL.out.symm
                  clear HALL
                  go_wp2_with (first
                    | (go_at_call 10; refine C10.mono ?_; rintro e wa ⟨rfl, ba⟩)
                    | (go_at_call 9; refine (CN _ _).mono ?_; rintro e wb ⟨rfl, eb⟩; subst eb))
                  go_roundw
                  case rel => exact ⟨k + 1, false, rfl, by go_num, by omega, HR2, Below.up HB.out ba⟩
                  case measure => simp; omega
              | false =>
                have HR2 : Hid (false = (L.take (k + 1)).all (fun s => nameB (tl s))) := by show _ = _; rw [HALL.out]; rfl
                clear HALL hy
                go_wp2
                go_roundw
                case rel => exact ⟨k + 1, false, rfl, by go_num, by omega, HR2, HB⟩
                case measure => simp; omega
            · have i1 : ¬ ((k : Int) < (L.length : Int)) := by omega
              have HR2 : Hid (r = L.all (fun s => nameB (tl s))) := by
                show _ = _
                rw [HR.out, List.take_of_length_le (by omega)]
              have CJ := join_any (.slice ao L.length cap) L wr (HL.out.below HB.out) (by omega) (by have := HJ.out; omega)
              have CS := fun W => split_any (ofB (joinL (L.map tl))) (L.length : Nat) W (by rw [← tl_len, tl_ofB]; have := HJ.out; omega)
              rw [tl_ofB] at CS
              generalize ofB (joinL (L.map tl)) = js at *
              clear HR
              go_wp2_with fail
              refine CJ.mono ?_
              rintro e wc ⟨rfl, bc⟩
              have BC : Hid (Below w.heap.size w wc) := Below.up HB.out bc
              clear bc CJ
              go_wp2_with fail
              refine (CS _).mono ?_
              rintro e wd ⟨⟨bv, F, rfl, own, hF⟩, bd⟩
              have BD : Hid (Below w.heap.size w wd) := Below.up BC.out bd
              have HF : Hid (HasT wd bv F) := own.has
              have HFF : Hid (F.map tl = splitL (joinL (L.map tl)) L.length) := hF
              obtain ⟨fo, fc, hv, _⟩ := own.has.form
              subst hv
              clear own hF bd CS
              cases r with
              | true =>
                have hnm : ∀ q ∈ L.map tl, nameB q = true := by
                  intro q hq
                  obtain ⟨y, hy, rfl⟩ := List.mem_map.1 hq
                  exact List.all_eq_true.1 HR2.out.symm y hy
                have hpj := pieces_join hnm
                have hse : splitE (joinL (L.map tl)) (L.length : Nat) = 0 := by
                  unfold splitE
                  rw [hpj, List.length_map, if_neg (by omega), if_pos (List.all_eq_true.2 hnm)]
                have hFl : F.map tl = L.map tl := by rw [HFF.out]; unfold splitL; rw [if_pos hse, hpj]
                have hFn : F.length = L.length := by have := congrArg List.length hFl; simpa using this
                have CM := same_any (.slice fo F.length fc) (.slice ao L.length cap) F L wd HF.out (HL.out.below BD.out) (by omega) (by omega)
                rw [decide_eq_true hFl] at CM
                have HFN : Hid (F.length = L.length) := hFn
                rw [hse]
                clear hnm hpj hse hFl hFn HFF HR2
                go_wp2_with (first
                  | (go_at_call 9; refine (CN _ _).mono ?_; rintro e wb ⟨rfl, eb⟩; subst eb)
                  | (go_at_call 24; refine CM.mono ?_; rintro e we ⟨rfl, de⟩))
                go_ret
                exact ⟨rfl, Below.drews BD.out de⟩
              | false =>
                go_wp2_with (go_at_call 9; refine (CN _ _).mono ?_; rintro e wb ⟨rfl, eb⟩; subst eb)
                go_ret
                exact ⟨rfl, BD.out⟩
        · have b0 : u.toList.isEmpty = false := by simpa using hu
          have b1 : (u.toList == []) = false := by rw [beq_eq_false_iff_ne]; exact hu
          have hpj : joinL [tl u, tl x] = tl p := by
            rcases HA.out with ⟨h1, _, _⟩ | ⟨h1, _⟩
            · exact absurd h1 hu
            · rw [h1]; rfl
          have hpp2 : (p.toList == p.toList) = true := by simp
          have CJ2 := fun W => join_any (.slice (some ⟨W.heap.size, 0, none⟩) 2 2) [u, x] (W.alloc (.cells #[.string u, .string x] 9)) (two_new' W u x) (by simp) (by simp only [List.map_cons, List.map_nil]; rw [hpj, tl_len]; omega)
          have CJ3 : ∀ W : World, Calls Try.prog 23 #[.slice (some ⟨W.heap.size, 0, none⟩) 2 2] (W.alloc (.cells #[.string u, .string x] 9)) fun e w' => e = .returned (.string p) ∧ Below W.heap.size W w' := by
            intro W
            refine (CJ2 W).mono fun e w' h => ⟨?_, Below.up ((Below.refl _ W).alloc (Nat.le_refl _) _) h.2⟩
            rw [h.1]; simp only [List.map_cons, List.map_nil]; rw [hpj, ofB_tl]
          clear hu HA hpj CJ2
          go_wp2_with (first
            | (go_at_call 16; refine (CU _).mono ?_; rintro e w7 ⟨rfl, e7⟩; subst e7)
            | (go_at_call 23; refine (CJ3 _).mono ?_; rintro e w8 ⟨rfl, b8⟩))
          have BL : Hid (Below w.heap.size w _) := Below.up B6.out b8
          go_loopw [11, 12] (fun y i wr => ∃ (k : Nat) (r : Bool), y = .bool r ∧ i = .int .i64 k ∧ k ≤ L.length ∧ Hid (r = (L.take k).all (fun s => nameB (tl s))) ∧ Hid (Below w.heap.size w wr)) (fun _ i _ => L.length - iOf i)
          case atStart => exact ⟨0, true, rfl, rfl, Nat.zero_le _, rfl, BL⟩
          case round =>
            obtain ⟨k, r, rfl, rfl, hk, HR, HB⟩ := hrel
            by_cases hlt : k < L.length
            · have i1 : (k : Int) < (L.length : Int) := by omega
              obtain ⟨y, hy⟩ : ∃ y, L[k]? = some y := ⟨_, List.getElem?_eq_getElem hlt⟩
              have hall : (L.take (k + 1)).all (fun s => nameB (tl s)) = ((L.take k).all (fun s => nameB (tl s)) && nameB (tl y)) := by
                rw [List.take_add_one, hy]; simp
              have HALL : Hid ((L.take (k + 1)).all (fun s => nameB (tl s)) = (r && nameB (tl y))) := by show _ = _; rw [hall, ← HR.out]
              clear hall HR
              cases r with
              | true =>
                have hys := HS3.out y (List.mem_of_getElem? hy)
                have C10 := check_any y wr (by omega)
                obtain ⟨a0, _, hva, hca⟩ := (HL.out.below HB.out).at hy
                simp at hva
                obtain ⟨rfl, rfl⟩ := hva
                obtain ⟨nb, hnb⟩ : ∃ nb, nameB (tl y) = nb := ⟨_, rfl⟩
                rw [hnb] at HALL C10
                clear hnb
                cases nb with
                | true =>
                  rw [show eno true = 0 from rfl] at C10
                  have HR2 : Hid (true = (L.take (k + 1)).all (fun s => nameB (tl s))) := HALL.out.symm
                  clear HALL
                  go_wp2_with (first
                    | (go_at_call 10; refine C10.mono ?_; rintro e wa ⟨rfl, ba⟩)
                    | (go_at_call 9; refine (CN _ _).mono ?_; rintro e wb ⟨rfl, eb⟩; subst eb))
                  go_roundw
                  case rel => exact ⟨k + 1, true, rfl, by go_num, by omega, HR2, Below.up HB.out ba⟩
                  case measure => simp; omega
                | false =>
                  rw [show eno false = 30 from rfl] at C10
                  have HR2 : Hid (false = (L.take (k + 1)).all (fun s => nameB (tl s))) := HALL.out.symm
                  clear HALL
                  go_wp2_with (first
                    | (go_at_call 10; refine C10.mono ?_; rintro e wa ⟨rfl, ba⟩)
                    | (go_at_call 9; refine (CN _ _).mono ?_; rintro e wb ⟨rfl, eb⟩; subst eb))
                  go_roundw
                  case rel => exact ⟨k + 1, false, rfl, by go_num, by omega, HR2, Below.up HB.out ba⟩
                  case measure => simp; omega
              | false =>
                have HR2 : Hid (false = (L.take (k + 1)).all (fun s => nameB (tl s))) := by show _ = _; rw [HALL.out]; rfl
                clear HALL hy
                go_wp2
                go_roundw
                case rel => exact ⟨k + 1, false, rfl, by go_num, by omega, HR2, HB⟩
                case measure => simp; omega
            · have i1 : ¬ ((k : Int) < (L.length : Int)) := by omega
              have HR2 : Hid (r = L.all (fun s => nameB (tl s))) := by
                show _ = _
                rw [HR.out, List.take_of_length_le (by omega)]
              have CJ := join_any (.slice ao L.length cap) L wr (HL.out.below HB.out) (by omega) (by have := HJ.out; omega)
              have CS := fun W => split_any (ofB (joinL (L.map tl))) (L.length : Nat) W (by rw [← tl_len, tl_ofB]; have := HJ.out; omega)
              rw [tl_ofB] at CS
              generalize ofB (joinL (L.map tl)) = js at *
              clear HR
              go_wp2_with fail
              refine CJ.mono ?_
              rintro e wc ⟨rfl, bc⟩
              have BC : Hid (Below w.heap.size w wc) := Below.up HB.out bc
              clear bc CJ
              go_wp2_with fail
              refine (CS _).mono ?_
              rintro e wd ⟨⟨bv, F, rfl, own, hF⟩, bd⟩
              have BD : Hid (Below w.heap.size w wd) := Below.up BC.out bd
              have HF : Hid (HasT wd bv F) := own.has
              have HFF : Hid (F.map tl = splitL (joinL (L.map tl)) L.length) := hF
              obtain ⟨fo, fc, hv, _⟩ := own.has.form
              subst hv
              clear own hF bd CS
              cases r with
              | true =>
                have hnm : ∀ q ∈ L.map tl, nameB q = true := by
                  intro q hq
                  obtain ⟨y, hy, rfl⟩ := List.mem_map.1 hq
                  exact List.all_eq_true.1 HR2.out.symm y hy
                have hpj := pieces_join hnm
                have hse : splitE (joinL (L.map tl)) (L.length : Nat) = 0 := by
                  unfold splitE
                  rw [hpj, List.length_map, if_neg (by omega), if_pos (List.all_eq_true.2 hnm)]
                have hFl : F.map tl = L.map tl := by rw [HFF.out]; unfold splitL; rw [if_pos hse, hpj]
                have hFn : F.length = L.length := by have := congrArg List.length hFl; simpa using this
                have CM := same_any (.slice fo F.length fc) (.slice ao L.length cap) F L wd HF.out (HL.out.below BD.out) (by omega) (by omega)
                rw [decide_eq_true hFl] at CM
                have HFN : Hid (F.length = L.length) := hFn
                rw [hse]
                clear hnm hpj hse hFl hFn HFF HR2
                go_wp2_with (first
                  | (go_at_call 9; refine (CN _ _).mono ?_; rintro e wb ⟨rfl, eb⟩; subst eb)
                  | (go_at_call 24; refine CM.mono ?_; rintro e we ⟨rfl, de⟩))
                go_ret
                exact ⟨rfl, Below.drews BD.out de⟩
              | false =>
                go_wp2_with (go_at_call 9; refine (CN _ _).mono ?_; rintro e wb ⟨rfl, eb⟩; subst eb)
                go_ret
                exact ⟨rfl, BD.out⟩
      · have hne : (se == 0) = false := by simpa using h0
        clear h0 HSE HMM
        go_wp2_with (go_at_call 9; refine (CN _ _).mono ?_; rintro e w4 ⟨rfl, e4⟩; subst e4)
        have BQ : Hid (Below w.heap.size w _) := B3
        clear B3 HM
        refine (C12 _).mono ?_
        rintro e w6 ⟨⟨u, x, rfl, hA⟩, d6⟩
        have B6 : Hid (Below w.heap.size w w6) := Below.drews BQ.out d6
        have hus : u.size ≤ 20000 ∧ x.size ≤ 20000 := by
          rcases hA with ⟨h1, h2, _⟩ | ⟨h1, _⟩
          · rw [← tl_len u, ← tl_len x, h1, h2, tl_len]; simp; omega
          · have := congrArg List.length h1
            rw [List.length_append, List.length_cons, tl_len, tl_len, tl_len] at this; omega
        have CU := fun W => under_any p u W (by omega) (by omega)
        rw [underB_iff.2 (under_above hA)] at CU
        have HA : Hid (AboveR (tl p) (tl u) (tl x)) := hA
        clear d6 C12 hA BQ
        by_cases hu : u.toList = []
        · have b0 : u.toList.isEmpty = true := by simpa using hu
          have b1 : (u.toList == []) = true := by rw [hu]; rfl
          clear hu HA
          go_wp2_with (go_at_call 16; refine (CU _).mono ?_; rintro e w7 ⟨rfl, e7⟩; subst e7)
          have BL : Hid (Below w.heap.size w _) := B6
          go_loopw [11, 12] (fun y i wr => ∃ (k : Nat) (r : Bool), y = .bool r ∧ i = .int .i64 k ∧ k ≤ L.length ∧ Hid (r = (L.take k).all (fun s => nameB (tl s))) ∧ Hid (Below w.heap.size w wr)) (fun _ i _ => L.length - iOf i)
          case atStart => exact ⟨0, true, rfl, rfl, Nat.zero_le _, rfl, BL⟩
          case round =>
            obtain ⟨k, r, rfl, rfl, hk, HR, HB⟩ := hrel
            by_cases hlt : k < L.length
            · have i1 : (k : Int) < (L.length : Int) := by omega
              obtain ⟨y, hy⟩ : ∃ y, L[k]? = some y := ⟨_, List.getElem?_eq_getElem hlt⟩
              have hall : (L.take (k + 1)).all (fun s => nameB (tl s)) = ((L.take k).all (fun s => nameB (tl s)) && nameB (tl y)) := by
                rw [List.take_add_one, hy]; simp
              have HALL : Hid ((L.take (k + 1)).all (fun s => nameB (tl s)) = (r && nameB (tl y))) := by show _ = _; rw [hall, ← HR.out]
              clear hall HR
              cases r with
              | true =>
                have hys := HS3.out y (List.mem_of_getElem? hy)
                have C10 := check_any y wr (by omega)
                obtain ⟨a0, _, hva, hca⟩ := (HL.out.below HB.out).at hy
                simp at hva
                obtain ⟨rfl, rfl⟩ := hva
                obtain ⟨nb, hnb⟩ : ∃ nb, nameB (tl y) = nb := ⟨_, rfl⟩
                rw [hnb] at HALL C10
                clear hnb
                cases nb with
                | true =>
                  rw [show eno true = 0 from rfl] at C10
                  have HR2 : Hid (true = (L.take (k + 1)).all (fun s => nameB (tl s))) := HALL.out.symm
                  clear HALL
                  go_wp2_with (first
                    | (go_at_call 10; refine C10.mono ?_; rintro e wa ⟨rfl, ba⟩)
                    | (go_at_call 9; refine (CN _ _).mono ?_; rintro e wb ⟨rfl, eb⟩; subst eb))
                  go_roundw
                  case rel => exact ⟨k + 1, true, rfl, by go_num, by omega, HR2, Below.up HB.out ba⟩
                  case measure => simp; omega
                | false =>
                  rw [show eno false = 30 from rfl] at C10
                  have HR2 : Hid (false = (L.take (k + 1)).all (fun s => nameB (tl s))) := HALL.out.symm
                  clear HALL
                  go_wp2_with (first
                    | (go_at_call 10; refine C10.mono ?_; rintro e wa ⟨rfl, ba⟩)
                    | (go_at_call 9; refine (CN _ _).mono ?_; rintro e wb ⟨rfl, eb⟩; subst eb))
                  go_roundw
                  case rel => exact ⟨k + 1, false, rfl, by go_num, by omega, HR2, Below.up HB.out ba⟩
                  case measure => simp; omega
              | false =>
                have HR2 : Hid (false = (L.take (k + 1)).all (fun s => nameB (tl s))) := by show _ = _; rw [HALL.out]; rfl
                clear HALL hy
                go_wp2
                go_roundw
                case rel => exact ⟨k + 1, false, rfl, by go_num, by omega, HR2, HB⟩
                case measure => simp; omega
            · have i1 : ¬ ((k : Int) < (L.length : Int)) := by omega
              have HR2 : Hid (r = L.all (fun s => nameB (tl s))) := by
                show _ = _
                rw [HR.out, List.take_of_length_le (by omega)]
              have CJ := join_any (.slice ao L.length cap) L wr (HL.out.below HB.out) (by omega) (by have := HJ.out; omega)
              have CS := fun W => split_any (ofB (joinL (L.map tl))) (L.length : Nat) W (by rw [← tl_len, tl_ofB]; have := HJ.out; omega)
              rw [tl_ofB] at CS
              generalize ofB (joinL (L.map tl)) = js at *
              clear HR
              go_wp2_with fail
              refine CJ.mono ?_
              rintro e wc ⟨rfl, bc⟩
              have BC : Hid (Below w.heap.size w wc) := Below.up HB.out bc
              clear bc CJ
              go_wp2_with fail
              refine (CS _).mono ?_
              rintro e wd ⟨⟨bv, F, rfl, own, hF⟩, bd⟩
              have BD : Hid (Below w.heap.size w wd) := Below.up BC.out bd
              have HF : Hid (HasT wd bv F) := own.has
              have HFF : Hid (F.map tl = splitL (joinL (L.map tl)) L.length) := hF
              obtain ⟨fo, fc, hv, _⟩ := own.has.form
              subst hv
              clear own hF bd CS
              cases r with
              | true =>
                have hnm : ∀ q ∈ L.map tl, nameB q = true := by
                  intro q hq
                  obtain ⟨y, hy, rfl⟩ := List.mem_map.1 hq
                  exact List.all_eq_true.1 HR2.out.symm y hy
                have hpj := pieces_join hnm
                have hse : splitE (joinL (L.map tl)) (L.length : Nat) = 0 := by
                  unfold splitE
                  rw [hpj, List.length_map, if_neg (by omega), if_pos (List.all_eq_true.2 hnm)]
                have hFl : F.map tl = L.map tl := by rw [HFF.out]; unfold splitL; rw [if_pos hse, hpj]
                have hFn : F.length = L.length := by have := congrArg List.length hFl; simpa using this
                have CM := same_any (.slice fo F.length fc) (.slice ao L.length cap) F L wd HF.out (HL.out.below BD.out) (by omega) (by omega)
                rw [decide_eq_true hFl] at CM
                have HFN : Hid (F.length = L.length) := hFn
                rw [hse]
                clear hnm hpj hse hFl hFn HFF HR2
                go_wp2_with (first
                  | (go_at_call 9; refine (CN _ _).mono ?_; rintro e wb ⟨rfl, eb⟩; subst eb)
                  | (go_at_call 24; refine CM.mono ?_; rintro e we ⟨rfl, de⟩))
                go_ret
                exact ⟨rfl, Below.drews BD.out de⟩
              | false =>
                go_wp2_with (go_at_call 9; refine (CN _ _).mono ?_; rintro e wb ⟨rfl, eb⟩; subst eb)
                go_ret
                exact ⟨rfl, BD.out⟩
        · have b0 : u.toList.isEmpty = false := by simpa using hu
          have b1 : (u.toList == []) = false := by rw [beq_eq_false_iff_ne]; exact hu
          have hpj : joinL [tl u, tl x] = tl p := by
            rcases HA.out with ⟨h1, _, _⟩ | ⟨h1, _⟩
            · exact absurd h1 hu
            · rw [h1]; rfl
          have hpp2 : (p.toList == p.toList) = true := by simp
          have CJ2 := fun W => join_any (.slice (some ⟨W.heap.size, 0, none⟩) 2 2) [u, x] (W.alloc (.cells #[.string u, .string x] 9)) (two_new' W u x) (by simp) (by simp only [List.map_cons, List.map_nil]; rw [hpj, tl_len]; omega)
          have CJ3 : ∀ W : World, Calls Try.prog 23 #[.slice (some ⟨W.heap.size, 0, none⟩) 2 2] (W.alloc (.cells #[.string u, .string x] 9)) fun e w' => e = .returned (.string p) ∧ Below W.heap.size W w' := by
            intro W
            refine (CJ2 W).mono fun e w' h => ⟨?_, Below.up ((Below.refl _ W).alloc (Nat.le_refl _) _) h.2⟩
            rw [h.1]; simp only [List.map_cons, List.map_nil]; rw [hpj, ofB_tl]
          clear hu HA hpj CJ2
          go_wp2_with (first
            | (go_at_call 16; refine (CU _).mono ?_; rintro e w7 ⟨rfl, e7⟩; subst e7)
            | (go_at_call 23; refine (CJ3 _).mono ?_; rintro e w8 ⟨rfl, b8⟩))
          have BL : Hid (Below w.heap.size w _) := Below.up B6.out b8
          go_loopw [11, 12] (fun y i wr => ∃ (k : Nat) (r : Bool), y = .bool r ∧ i = .int .i64 k ∧ k ≤ L.length ∧ Hid (r = (L.take k).all (fun s => nameB (tl s))) ∧ Hid (Below w.heap.size w wr)) (fun _ i _ => L.length - iOf i)
          case atStart => exact ⟨0, true, rfl, rfl, Nat.zero_le _, rfl, BL⟩
          case round =>
            obtain ⟨k, r, rfl, rfl, hk, HR, HB⟩ := hrel
            by_cases hlt : k < L.length
            · have i1 : (k : Int) < (L.length : Int) := by omega
              obtain ⟨y, hy⟩ : ∃ y, L[k]? = some y := ⟨_, List.getElem?_eq_getElem hlt⟩
              have hall : (L.take (k + 1)).all (fun s => nameB (tl s)) = ((L.take k).all (fun s => nameB (tl s)) && nameB (tl y)) := by
                rw [List.take_add_one, hy]; simp
              have HALL : Hid ((L.take (k + 1)).all (fun s => nameB (tl s)) = (r && nameB (tl y))) := by show _ = _; rw [hall, ← HR.out]
              clear hall HR
              cases r with
              | true =>
                have hys := HS3.out y (List.mem_of_getElem? hy)
                have C10 := check_any y wr (by omega)
                obtain ⟨a0, _, hva, hca⟩ := (HL.out.below HB.out).at hy
                simp at hva
                obtain ⟨rfl, rfl⟩ := hva
                obtain ⟨nb, hnb⟩ : ∃ nb, nameB (tl y) = nb := ⟨_, rfl⟩
                rw [hnb] at HALL C10
                clear hnb
                cases nb with
                | true =>
                  rw [show eno true = 0 from rfl] at C10
                  have HR2 : Hid (true = (L.take (k + 1)).all (fun s => nameB (tl s))) := HALL.out.symm
                  clear HALL
                  go_wp2_with (first
                    | (go_at_call 10; refine C10.mono ?_; rintro e wa ⟨rfl, ba⟩)
                    | (go_at_call 9; refine (CN _ _).mono ?_; rintro e wb ⟨rfl, eb⟩; subst eb))
                  go_roundw
                  case rel => exact ⟨k + 1, true, rfl, by go_num, by omega, HR2, Below.up HB.out ba⟩
                  case measure => simp; omega
                | false =>
                  rw [show eno false = 30 from rfl] at C10
                  have HR2 : Hid (false = (L.take (k + 1)).all (fun s => nameB (tl s))) := HALL.out.symm
                  clear HALL
                  go_wp2_with (first
                    | (go_at_call 10; refine C10.mono ?_; rintro e wa ⟨rfl, ba⟩)
                    | (go_at_call 9; refine (CN _ _).mono ?_; rintro e wb ⟨rfl, eb⟩; subst eb))
                  go_roundw
                  case rel => exact ⟨k + 1, false, rfl, by go_num, by omega, HR2, Below.up HB.out ba⟩
                  case measure => simp; omega
              | false =>
                have HR2 : Hid (false = (L.take (k + 1)).all (fun s => nameB (tl s))) := by show _ = _; rw [HALL.out]; rfl
                clear HALL hy
                go_wp2
                go_roundw
                case rel => exact ⟨k + 1, false, rfl, by go_num, by omega, HR2, HB⟩
                case measure => simp; omega
            · have i1 : ¬ ((k : Int) < (L.length : Int)) := by omega
              have HR2 : Hid (r = L.all (fun s => nameB (tl s))) := by
                show _ = _
                rw [HR.out, List.take_of_length_le (by omega)]
              have CJ := join_any (.slice ao L.length cap) L wr (HL.out.below HB.out) (by omega) (by have := HJ.out; omega)
              have CS := fun W => split_any (ofB (joinL (L.map tl))) (L.length : Nat) W (by rw [← tl_len, tl_ofB]; have := HJ.out; omega)
              rw [tl_ofB] at CS
              generalize ofB (joinL (L.map tl)) = js at *
              clear HR
              go_wp2_with fail
              refine CJ.mono ?_
              rintro e wc ⟨rfl, bc⟩
              have BC : Hid (Below w.heap.size w wc) := Below.up HB.out bc
              clear bc CJ
              go_wp2_with fail
              refine (CS _).mono ?_
              rintro e wd ⟨⟨bv, F, rfl, own, hF⟩, bd⟩
              have BD : Hid (Below w.heap.size w wd) := Below.up BC.out bd
              have HF : Hid (HasT wd bv F) := own.has
              have HFF : Hid (F.map tl = splitL (joinL (L.map tl)) L.length) := hF
              obtain ⟨fo, fc, hv, _⟩ := own.has.form
              subst hv
              clear own hF bd CS
              cases r with
              | true =>
                have hnm : ∀ q ∈ L.map tl, nameB q = true := by
                  intro q hq
                  obtain ⟨y, hy, rfl⟩ := List.mem_map.1 hq
                  exact List.all_eq_true.1 HR2.out.symm y hy
                have hpj := pieces_join hnm
                have hse : splitE (joinL (L.map tl)) (L.length : Nat) = 0 := by
                  unfold splitE
                  rw [hpj, List.length_map, if_neg (by omega), if_pos (List.all_eq_true.2 hnm)]
                have hFl : F.map tl = L.map tl := by rw [HFF.out]; unfold splitL; rw [if_pos hse, hpj]
                have hFn : F.length = L.length := by have := congrArg List.length hFl; simpa using this
                have CM := same_any (.slice fo F.length fc) (.slice ao L.length cap) F L wd HF.out (HL.out.below BD.out) (by omega) (by omega)
                rw [decide_eq_true hFl] at CM
                have HFN : Hid (F.length = L.length) := hFn
                rw [hse]
                clear hnm hpj hse hFl hFn HFF HR2
                go_wp2_with (first
                  | (go_at_call 9; refine (CN _ _).mono ?_; rintro e wb ⟨rfl, eb⟩; subst eb)
                  | (go_at_call 24; refine CM.mono ?_; rintro e we ⟨rfl, de⟩))
                go_ret
                exact ⟨rfl, Below.drews BD.out de⟩
              | false =>
                go_wp2_with (go_at_call 9; refine (CN _ _).mono ?_; rintro e wb ⟨rfl, eb⟩; subst eb)
                go_ret
                exact ⟨rfl, BD.out⟩

theorem walk (ao : Option Addr) (cap : Nat) (L : List ByteArray) (p : ByteArray) (n : Int) (w : World) (hL : InT w (.slice ao L.length cap) L) (_ : p.size ≤ maxLen) (_ : (Lit.int .i64 n).wf = true) :
    Calls Try.prog 7 #[.slice ao L.length cap, .string p, .int .i64 n] w fun e w' => e = .returned (.bool true) ∧ Below w.heap.size w w' :=
  walk0 ao cap L p n w hL.1 hL.2.1 hL.2.2
set_option maxRecDepth 100000 in
theorem contract (H : Type) (enc : TypeId × Value → H) (W : World) (base : Nat) (args : Array Value) (ds gs : List (DataW H)) (before : List MemPlace)
    (hval : ∀ (j : Nat) t v, Try.f7.params[j]? = some t → args[j]? = some v → Value.okWide Try.prog W .any base t v)
    (hW : DataW.Whole enc Try.prog Try.f7.params.toList Rows.pathBackSpec.vars false W args.toList ds gs before) :
    Calls Try.prog 7 args W fun e W' => ∃ v, e = .returned v ∧ Rows.pathBackSpec.post enc Try.prog Try.f7 false true false false W args v W' := by
  have hW' := hW
  obtain ⟨p, q, hA0, hV, rfl, hfz, hnd⟩ := hW
  have hA : DataW.TrodAll enc Try.prog W 0 (fun _ => true) true Try.f7.params.toList args.toList ds p := hA0
  rw [Try.params7] at hA hval
  obtain ⟨v0, vs0, d0, ds0, p0, q0, hargs, rfl, rfl, h0, r0⟩ := trodAll_cons hA
  obtain ⟨v1, vs1, d1, ds1, p1, q1, rfl, rfl, rfl, h1, r1⟩ := trodAll_cons r0
  obtain ⟨v2, vs2, d2, ds2, p2, q2, rfl, rfl, rfl, h2, r2⟩ := trodAll_cons r1
  obtain ⟨rfl, rfl, rfl⟩ := trodAll_nil r2
  obtain rfl : args = #[v0, v1, v2] := by cases args; simp_all
  obtain ⟨rfl, rfl⟩ := trodVars_none hV
  obtain ⟨a0, len0, cap0, rfl⟩ := okWide_slice Try.underlying37 (hval 0 37 v0 rfl rfl)
  have k0 := h0
  have lt0 : ∀ x ∈ p0, x.block < W.heap.size := by obtain ⟨m, hm⟩ := k0; exact DataW.trod_lt m _ _ _ hm
  obtain ⟨l0, rfl, hl0⟩ := texts_in h0
  obtain ⟨a1, rfl, rfl, rfl, w1⟩ := open_string Try.underlying9 (hval 1 9 v1 rfl rfl) h1
  obtain ⟨a2, rfl, rfl, rfl, w2⟩ := open_int Try.underlying3 (hval 2 3 v2 rfl rfl) h2
  clear hA0
  refine (walk a0 cap0 l0 a1 a2 W hl0 w1 w2).mono fun e W' ⟨he, bel⟩ => ?_
  subst he
  exact ⟨_, rfl, _, _, _, [], _, [], hW', trodAll_mk1 (shut_bool Try.underlying4 _), (trodAll_cons_mk (Below.trod laidOut (by kernel_rfl) (of_decide_eq_true (by kernel_rfl)) k0 bel lt0) (trodAll_cons_mk (shut_string Try.underlying9 w1) (trodAll_cons_mk (shut_int Try.underlying3 w2) trodAll_mk0))), rfl, bel.frame _, fun h => by cases h⟩

noncomputable def aWorld (os : Os) : World := World.holding Try.prog os ⟨#[], #[], []⟩
theorem laid_met (os : Os) : laidMetH Try.prog Rows.pathBackRow.laid ((aWorld os).forCall (fun _ _ => 0) ⟨#[], #[.slice none 0 0, .string ByteArray.empty, .int .i64 0], []⟩).memory :=
  laidMetH_of_parts (laidMet_nil _ _) (by kernel_rfl)
theorem reads (os : Os) {H : Type} (enc : TypeId × Value → H) : ∃ places, DataW.whole enc Try.prog ((aWorld os).forCall (fun _ _ => 0) ⟨#[], #[.slice none 0 0, .string ByteArray.empty, .int .i64 0], []⟩).memory Try.f7.params.toList Rows.pathBackSpec.vars false #[Value.slice none 0 0, .string ByteArray.empty, .int .i64 0].toList 8 = some ([.nil, .lit (.string []), .lit (.int .i64 0)], [], places) :=
  ⟨[], by kernel_rfl⟩

set_option maxRecDepth 100000 in
theorem lifted (os : Os) (started : os.Started) (H : Type) (enc : TypeId × Value → H) (F : Stop.Interp) :
    ReturnsInHanded {} Try.checked os 7 .any ((OpenSpec.ofChange Rows.pathBackSpec).preRow enc Try.prog Try.f7 Rows.pathBackRow.domain false Rows.pathBackRow.laid) (((OpenSpec.ofChange Rows.pathBackSpec).at F).post enc Try.prog Try.f7 false true false false) := by
  obtain ⟨places, hx⟩ := reads os enc
  refine returnsInHanded_of_row (C := Try.checked) (s := OpenSpec.ofChange Rows.pathBackSpec) own started (by kernel_rfl) Try.func7
    (witness_row_at (enc := enc) (C := Try.checked) false (aWorld os) #[.slice none 0 0, .string ByteArray.empty, .int .i64 0] rfl (by kernel_rfl) (by kernel_rfl) (by kernel_rfl)
      (OpenSpec.preRow_of_cond 8 hx (by kernel_rfl) (fun k hk => by cases hk) (by kernel_rfl) (laid_met os))) ?_
  intro W base args ds gs before hval hW _ _ _ hL _ _
  exact contract H enc W base args ds gs before hval hW

theorem said : Rows.PathBackSaid :=
  OpenClaim.holds_of_cond 7 Try.f7 rfl rfl rfl rfl rfl rfl rfl ⟨rfl, rfl, rfl, rfl, rfl⟩ rfl rfl rfl rfl rfl (by kernel_rfl) Try.func7 (by kernel_rfl)
    (of_decide_eq_true (by kernel_rfl)) (by unfold Func.isWrapper; first | (rw [if_pos (by decide +kernel)]; kernel_rfl) | (rw [if_neg (by decide +kernel)]; exact ⟨rfl, rfl⟩))
    (fun os started H enc _ F => by rw [OpenClaim.pre_eq_preRow]; exact lifted os started H enc F)
end Go.Proofs.Ytadkdjgffnpgcaa.BackR
namespace Go.Proofs.Ytadkdjgffnpgcaa
theorem pathBack_holds : Rows.PathBackSaid := BackR.said
#print axioms pathBack_holds
end Go.Proofs.Ytadkdjgffnpgcaa
