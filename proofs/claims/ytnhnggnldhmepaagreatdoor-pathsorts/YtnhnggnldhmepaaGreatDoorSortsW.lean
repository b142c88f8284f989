/-
  PathSorts: the walk of the law.
-/
import Derived.Test.YtnhnggnldhmepaaGreatDoorSortsG
import Derived.Test.YtnhnggnldhmepaaGreatDoorSorted
import Derived.Test.YtnhnggnldhmepaaGreatDoorFew
import Derived.Test.YtnhnggnldhmepaaGreatDoorSame
namespace Go.Proofs.YtnhnggnldhmepaaGreatDoor
open Go.RowKit Bk

set_option maxHeartbeats 8000000 in
set_option maxRecDepth 100000 in
theorem sorts_walk (ao : Option Addr) (cap : Nat) (L : List ByteArray) (w : World) (hv : HasT w (.slice ao L.length cap) L) (hL : ∀ s ∈ L, s.size ≤ 9223372036854775807) (hLl : L.length ≤ 9223372036854775807) (htb : Tb w.heap.size w) :
    Calls Tryz.prog 4 #[.slice ao L.length cap] w fun e w' => e = .returned (.bool true) ∧ Below w.heap.size w w' := by
  have C10 := few_any _ L w hv hL hLl
  have HV : Hid (HasT w (.slice ao L.length cap) L) := hv
  have HTB := hid htb
  clear hv hL htb
  go_enter Tryz.func4, Tryz.ntmps4
  go_wp2_with fail
  refine C10.mono ?_
  rintro e w1 ⟨⟨q, rfl, hq⟩, b1⟩
  have B1 : Hid (Below w.heap.size w w1) := b1
  have HQ : Hid (q = true → wsum L ≤ 30000) := hq
  clear b1 hq C10
  cases q with
  | false =>
    go_wp2
    go_ret
    exact ⟨rfl, B1.out⟩
  | true =>
    have hws : wsum L ≤ 30000 := HQ.out rfl
    obtain ⟨hf1, hf2, hf3⟩ := wsum_facts (L := L)
    have HF3 := hid hf3
    clear hf3 HQ hLl hf2
    by_cases h500 : 500 < L.length
    · have i1 : (500 : Int) < (L.length : Int) := by omega
      go_wp2
      go_ret
      exact ⟨rfl, B1.out⟩
    · have i1 : ¬ ((500 : Int) < (L.length : Int)) := by omega
      have hs1 := B1.out.size
      go_upto_region 7 with (refine wpList_book rfl rfl rfl _ rfl rfl ?_)
      obtain ⟨R, hR⟩ : ∃ R, w1.heap.size = R := ⟨_, rfl⟩
      obtain ⟨wa, ewa⟩ : ∃ wa, w1.alloc roomObj = wa := ⟨_, rfl⟩
      have hza : wa.heap.size = R + 1 := by rw [← ewa, ← hR]; simp
      have hna := room_new w1
      rw [ewa, hR] at hna
      have bwa : Below w.heap.size w wa := by rw [← ewa]; exact B1.out.alloc hs1 _
      obtain ⟨wb, ewb⟩ : ∃ wb, wa.alloc bookObj = wb := ⟨_, rfl⟩
      have hzb : wb.heap.size = R + 2 := by rw [← ewb]; simp [hza]
      have bab : Below wa.heap.size wa wb := by rw [← ewb]; exact (Below.refl _ _).alloc (Nat.le_refl _) _
      have bwb : Below w.heap.size w wb := bwa.trans (bab.mono bwa.size)
      have bkb := book_new wa w.heap.size (by rw [hza, ← hR]; omega)
      rw [ewb, hza] at bkb
      have hcb : ∀ i, i < 26 → wb.cell? ⟨R, i, none⟩ = some (.slice none 0 0) := fun i hi => bcell bab (hna.1 i hi)
      have hfb : ∀ o, wb.frozen? ⟨R, o, none⟩ = false := fun o => (bab.frozen (p := ⟨R, o, none⟩) (show R < wa.heap.size by omega)).trans (hna.2 o)
      have HVB : Hid (HasT wb (.slice ao L.length cap) L) := HV.out.below bwb
      have hn : L.length ≤ 500 := by omega
      have CR := hid (roomTexts_any w.heap.size R (.slice ao L.length cap) L wb (by omega) (by omega) hcb hfb HVB.out (by omega))
      have HKB := hid bkb
      have HBB := hid bwb
      have HK0 : Hid (wb.cell? ⟨R + 1, 0, none⟩ = some (.bool false)) := by
        show _ = _
        rw [← ewb, ← hza]
        have h : (wa.alloc bookObj).heap[wa.heap.size]? = some bookObj := heap_alloc_new wa bookObj
        rw [bookObj_eq] at h ⊢
        simp only [World.cell?, h]
        rfl
      clear hna bwa bab bwb bkb hcb hfb HVB B1
      change Calls Tryz.prog 12 _ ((w1.alloc roomObj).alloc bookObj) _
      rw [ewa, ewb, hR]
      clear ewa ewb hza hs1
      refine CR.out.mono ?_
      rintro e w2 ⟨g, rfl, hg, hT, hRm, b2, hgz, hbk⟩
      have HS : Hid (SX w (R + 1) R g L.length L 0 w2) := by
        obtain ⟨c1, c2, c3, c4, c5, c6, c7, c8, c9, c10, c11⟩ := hRm.rows
        have hbK : w2.heap[R + 1]? = wb.heap[R + 1]? := hbk (R + 1) (by omega) (by omega)
        have k0 : w2.cell? ⟨R + 1, 0, none⟩ = some (.bool false) := cell_block hbK HK0.out
        have n1 : c1 ≠ R + 1 := fun e => by rw [e, k0] at c8; simp at c8
        have n2 : c3 ≠ R + 1 := fun e => by rw [e, k0] at c9; simp at c9
        refine ⟨⟨_, HKB.out.keep b2.size (fun b hb => by obtain rfl : b = R + 1 := hb; exact hbK) b2.os b2.tape b2.output, by simp, by intro e; have : g = R + 1 := e; omega, c1, c2, c3, c4, c5, c6, c7, c8, c9, c10, c11, n1, n2⟩, hRm, hT, HBB.out.trans b2, hg⟩
      clear hT hRm b2 hbk CR HKB HBB HK0 hgz hR
      have HSZ : Hid (∀ s ∈ L, s.size ≤ 1048576) := fun s hs => by have := HF3.out s hs; omega
      go_wp2
      go_loopw [6] (fun i wi => ∃ (j : Nat), j ≤ 3 ∧ i = .int .i64 j ∧ Hid (SX w (R + 1) R g L.length L j wi)) (fun i _ => 3 - (intOf i).toNat)
      case atStart => exact ⟨0, by omega, rfl, HS.out⟩
      case round =>
        clear HS
        obtain ⟨j, hj, rfl, HJ⟩ := hrel
        by_cases hjl : j < 3
        · have C13 := hid (sorted_any _ L wr HJ.out.lent (by omega) HSZ.out)
          go_wp2_with fail
          refine C13.out.mono ?_
          rintro e w3 ⟨⟨v, O, rfl, ho, hp, hso⟩, b3⟩
          have HO := hid ho
          have HP := hid hp
          have HSO := hid hso
          have HB3 := hid b3
          obtain ⟨pv, cv, hvf, _⟩ := ho.has.form
          have hol : O.length = L.length := hp.length_eq
          have HOL := hid hol
          rw [hol] at hvf
          subst hvf
          clear hol
          clear ho hp hso b3 C13
          have C14 := hid (refSorted_any _ L w3 (HV.out.below ((HJ.out.up HB3.out).bel)) (by omega) HSZ.out)
          go_wp2_with fail
          refine C14.out.mono ?_
          rintro e w4 ⟨⟨v2, O2, rfl, ho2, hp2, hso2⟩, b4⟩
          obtain rfl : O2 = O := srt_unique (hp2.trans HP.out.symm) hso2 HSO.out
          have HB4 : Hid (Below wr.heap.size wr w4) := Below.up HB3.out b4
          have HO4 : Hid (OwnsT w4 wr.heap.size (.slice pv L.length cv) O2) := row_block HO.out fun k hk => b4.block k (World.ownsRow.lt HO.out k hk).2
          have HX4 : Hid (HasT w4 v2 O2) := ho2.has
          obtain ⟨pv2, cv2, hvf2, _⟩ := ho2.has.form
          rw [HOL.out] at hvf2
          subst hvf2
          clear ho2 hp2 hso2 b4 C14 HO HB3 HP HSO
          have CS : Hid (∀ wz, Drew w4 wz → Calls Tryz.prog 8 #[.slice pv L.length cv, .slice pv2 L.length cv2] wz fun e w' => e = .returned (.bool true) ∧ Drew w4 w') := fun wz hz => by
            have hol := HOL.out
            refine (same_any _ _ O2 O2 wz (HO4.out.has.drew hz) (HX4.out.drew hz) (by omega) (by omega)).mono ?_
            rintro e w' ⟨rfl, hd⟩
            exact ⟨by simp, hz.trans hd⟩
          have CL : Hid (∀ wz, Drew w4 wz → Calls Tryz.prog 8 #[.slice (some ⟨g, 0, none⟩) L.length (L.length + 40), .slice ao L.length cap] wz fun e w' => e = .returned (.bool true) ∧ Drew w4 w') := fun wz hz => by
            have hx := (HJ.out.up HB4.out).up hz.below
            refine (same_any _ _ L L wz hx.lent (HV.out.below hx.bel) (by omega) (by omega)).mono ?_
            rintro e w' ⟨rfl, hd⟩
            exact ⟨by simp, hz.trans hd⟩
          have CH : Hid (∀ wz, Drew w4 wz → Calls Tryz.prog 15 #[.pointer (some ⟨R, 0, none⟩)] wz fun e w' => e = .returned (.bool true) ∧ w' = wz) := fun wz hz =>
            roomHold_any R g L.length wz ((HJ.out.up HB4.out).up hz.below).room (by omega)
          go_wp2_with fail
          refine (CS.out w4 (Drew.refl _)).mono ?_
          rintro e w5 ⟨rfl, d5⟩
          have D5 := hid d5
          clear d5 CS
          go_wp2_with fail
          refine (CL.out w5 D5.out).mono ?_
          rintro e w6 ⟨rfl, d6⟩
          have D6 := hid d6
          clear d6 CL D5
          go_wp2_with fail
          refine (CH.out w6 D6.out).mono ?_
          rintro e w7 ⟨rfl, e7⟩
          have e7' := e7.symm
          clear e7
          subst e7'
          clear CH
          have CT : Hid (Calls Tryz.prog 9 #[.pointer (some ⟨R + 1, 0, none⟩), .slice pv L.length cv, .int .i64 (100 * (j : Int))] w6 fun e w2 => e = .returned (.tuple #[]) ∧ SX w (R + 1) R g L.length L (j + 1) w2) := by
            have hol := HOL.out
            have h := HJ.out.texts HTB.out (Below.drews HB4.out D6.out) (row_block HO4.out fun k _ => by rw [D6.out.heap]) (by omega) (100 * j) (by omega) (by omega)
            push_cast at h
            exact h
          clear HB4 HO4 HX4 D6 HJ
          go_wp2_with (go_at_call 9; refine CT.out.mono ?_; rintro e w8 ⟨rfl, h8⟩; have HS8 := hid h8; clear h8 CT)
          exact ⟨⟨j + 1, by omega, by go_num, HS8.out⟩, by simp [intOf]; omega⟩
        · obtain rfl : j = 3 := by omega
          have CL : Hid (Calls Tryz.prog 8 #[.slice (some ⟨g, 0, none⟩) L.length (L.length + 40), .slice ao L.length cap] wr fun e w' => e = .returned (.bool true) ∧ Drew wr w') := by
            refine (same_any _ _ L L wr HJ.out.lent (HV.out.below HJ.out.bel) (by omega) (by omega)).mono ?_
            rintro e w' ⟨rfl, hd⟩
            exact ⟨by simp, hd⟩
          go_wp2_with fail
          refine CL.out.mono ?_
          rintro e w3 ⟨rfl, d3⟩
          have HS3 := hid (HJ.out.up d3.below)
          clear d3 CL HJ
          have CH := hid (roomHold_any R g L.length w3 HS3.out.room (by omega))
          go_wp2_with fail
          refine CH.out.mono ?_
          rintro e w4 ⟨rfl, e4⟩
          have e4' := e4.symm
          clear e4
          subst e4'
          clear CH
          go_wp2
          go_loopw [9] (fun i wi => ∃ (k : Nat) (M : List ByteArray), k ≤ L.length ∧ i = .int .i64 k ∧ Hid (M.length = L.length ∧ (∀ s ∈ M, s.size ≤ 30000 + 2 * k) ∧ SX w (R + 1) R g L.length M 3 wi)) (fun i _ => L.length - (intOf i).toNat)
          case atStart => exact ⟨0, L, Nat.zero_le _, rfl, rfl, fun s hs => by have := HF3.out s hs; omega, HS3.out⟩
          case round =>
            clear HS3
            obtain ⟨k, M, hk, rfl, HM⟩ := hrel
            by_cases hkl : k < L.length
            · obtain ⟨hml, hms, hx⟩ := HM.out
              obtain ⟨m, hm⟩ : ∃ m, L.length - 1 - k = m := ⟨_, rfl⟩
              obtain ⟨x, hxm⟩ : ∃ x, M[m]? = some x := ⟨_, List.getElem?_eq_getElem (by omega)⟩
              obtain ⟨y, hyk⟩ : ∃ y, M[k]? = some y := ⟨_, List.getElem?_eq_getElem (by omega)⟩
              have cx := cellG hx.lent hxm
              have cy := cellG hx.lent hyk
              have fy := hx.room.fz k hkl
              have hxs : x.size ≤ 100000 := by have := hms x (List.mem_of_getElem? hxm); omega
              have a1 : x.size + 2 ≤ 9223372036854775807 := by omega
              have HN : Hid ((M.set k (x ++ ⟨#[47, 121]⟩)).length = L.length ∧ (∀ s ∈ M.set k (x ++ ⟨#[47, 121]⟩), s.size ≤ 30000 + 2 * (k + 1)) ∧ SX w (R + 1) R g L.length (M.set k (x ++ ⟨#[47, 121]⟩)) 3 (wr.setCell ⟨g, k, none⟩ (.string (x ++ ⟨#[47, 121]⟩)))) := by
                refine ⟨by rw [List.length_set]; exact hml, fun s hs => ?_, hx.set hyk hkl _⟩
                rcases List.mem_or_eq_of_mem_set hs with hs | rfl
                · have := hms s hs; omega
                · have h2 : (x ++ (⟨#[47, 121]⟩ : ByteArray)).size = x.size + 2 := by rw [ByteArray.size_append]; rfl
                  have := hms x (List.mem_of_getElem? hxm)
                  omega
              have e1 : ((L.length : Int) - 1 - (k : Int)) = (m : Int) := by omega
              have e2 : m < L.length := by omega
              clear hml hms hx HM hxm hyk hm
              go_wp2_with fail
              exact ⟨⟨k + 1, _, by omega, by go_num, HN.out⟩, by simp [intOf]; omega⟩
            · obtain rfl : k = L.length := by omega
              obtain ⟨hml, hms, hx⟩ := HM.out
              have HML := hid hml
              have HMS : Hid (∀ s ∈ M, s.size ≤ 1048576) := fun s hs => by have := hms s hs; omega
              have HX := hid hx
              have hn1 : Hid (([] : List ByteArray).length + M.length ≤ 1048576) := by show _ ≤ _; rw [hml, List.length_nil]; omega
              clear hml hms hx HM
              go_wp2_with (at_builtin; refine wpList_append_texts rfl _ _ rfl wr.heap.size _ _ [] M rfl rfl (OwnsT.nil _ _) HX.out.lent hn1.out (Nat.le_refl _) ?_)
              intro v5 w5 ho5 hb5
              have HO5 : Hid (OwnsT w5 wr.heap.size v5 M) := ho5
              have HX5 := hid (HX.out.up hb5)
              obtain ⟨p5, k5, e5⟩ := row_form HO5.out
              rw [HML.out] at e5
              subst e5
              clear ho5 hb5 HX hn1
              have C13 := hid (sorted_any _ M w5 HX5.out.lent (by have := HML.out; omega) HMS.out)
              go_wp2_with fail
              refine C13.out.mono ?_
              rintro e w6 ⟨⟨v6, O, rfl, ho, hp, hso⟩, b6⟩
              have hol : O.length = L.length := hp.length_eq.trans HML.out
              have HOL := hid hol
              obtain ⟨pv, cv, hvf, _⟩ := ho.has.form
              rw [hol] at hvf
              subst hvf
              have HO := hid ho
              have HP := hid hp
              have HSO := hid hso
              have HB6 := hid b6
              clear ho hp hso b6 C13 hol
              have HN6 : Hid (HasT w6 (.slice p5 L.length k5) M) := HO5.out.has.below HB6.out
              have C14 := hid (refSorted_any _ M w6 HN6.out (by have := HML.out; omega) HMS.out)
              go_wp2_with fail
              refine C14.out.mono ?_
              rintro e w7 ⟨⟨v7, O2, rfl, ho2, hp2, hso2⟩, b7⟩
              obtain rfl : O2 = O := srt_unique (hp2.trans HP.out.symm) hso2 HSO.out
              have HO7 : Hid (HasT w7 (.slice pv L.length cv) O2) := HO.out.has.below b7
              have HX7 : Hid (SX w (R + 1) R g L.length M 3 w7) := (HX5.out.up HB6.out).up b7
              obtain ⟨pv2, cv2, hvf2, _⟩ := ho2.has.form
              rw [HOL.out] at hvf2
              subst hvf2
              have HH7 := hid ho2.has
              clear ho2 hp2 hso2 b7 C14 HO HP HSO HB6 HN6 HO5 HX5
              have CS : Hid (Calls Tryz.prog 8 #[.slice pv L.length cv, .slice pv2 L.length cv2] w7 fun e w' => e = .returned (.bool true) ∧ Drew w7 w') := by
                have hol := HOL.out
                refine (same_any _ _ O2 O2 w7 HO7.out HH7.out (by omega) (by omega)).mono ?_
                rintro e w' ⟨rfl, hd⟩
                exact ⟨by simp, hd⟩
              clear HO7 HH7
              go_wp2_with fail
              refine CS.out.mono ?_
              rintro e w8 ⟨rfl, d8⟩
              have HX8 := hid (HX7.out.up d8.below)
              clear d8 CS HX7
              have CH := hid (roomHold_any R g L.length w8 HX8.out.room (by omega))
              go_wp2_with fail
              refine CH.out.mono ?_
              rintro e w9 ⟨rfl, e9⟩
              have e9' := e9.symm
              clear e9
              subst e9'
              clear CH
              have CB := hid (HX8.out.hold (by omega))
              go_wp2_with fail
              refine CB.out.mono ?_
              rintro e wx ⟨rfl, hbx⟩
              have HBX := hid hbx
              clear hbx CB HX8
              go_wp2
              go_ret
              exact ⟨rfl, HBX.out⟩
end Go.Proofs.YtnhnggnldhmepaaGreatDoor
