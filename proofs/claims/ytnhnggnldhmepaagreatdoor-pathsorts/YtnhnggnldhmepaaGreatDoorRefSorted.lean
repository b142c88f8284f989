/-
  The reference's Sorted by contract.
-/
import Derived.Test.YtnhnggnldhmepaaGreatDoorSortP
import Derived.Test.YtnhnggnldhmepaaGreatDoorRefOrder
import Derived.Test.YtnhnggnldhmepaaGreatDoorRoomLay
import Derived.Deep.DeepCutAuto
import Derived.Deep.RegionHeld3
import Derived.DataElems
namespace Go.Proofs.YtnhnggnldhmepaaGreatDoor
open Go.RowKit

theorem bcell {w w' : World} {p : Addr} {v : Value} (hb : Below w.heap.size w w') (h : w.cell? p = some v) : w'.cell? p = some v := by
  have q : p.block < w.heap.size := by
    rcases Nat.lt_or_ge p.block w.heap.size with q | q
    · exact q
    · simp [World.cell?, Array.getElem?_eq_none q] at h
  rw [hb.cell q]; exact h

theorem owns_at {w : World} {lo : Nat} {v : Value} {l : List ByteArray} (h : OwnsT w lo v l) {k : Nat} {s : ByteArray} (hk : l[k]? = some s) : ∃ g cap, v = .slice (some ⟨g, 0, none⟩) l.length cap ∧ l.length ≤ cap ∧ w.cell? ⟨g, k, none⟩ = some (.string s) := by
  obtain ⟨h1, ⟨_, h2⟩ | ⟨g, cap, cur, hv, hg, hh, hn, hr⟩⟩ := h
  · have := List.length_eq_zero_iff.1 h2
    subst this
    simp at hk
  · refine ⟨g, cap, hv, hn, ?_⟩
    have := World.ownsRow.cells ⟨h1, .inr ⟨g, cap, cur, hv, hg, hh, hn, hr⟩⟩ (g := g) (by rw [hv]; rfl) k (.string s) (by rw [List.getElem?_map, hk]; rfl)
    rw [Addr.add_lit, Nat.zero_add] at this
    exact this

theorem rowB1 {w w' : World} {lo : Nat} {v : Value} {l : List ByteArray} (h : OwnsT w lo v l) (hb : Below w.heap.size w w') : OwnsT w' lo v l := row_block h fun k hk => hb.block k (World.ownsRow.lt h k hk).2
theorem hasT_one (w : World) (x : ByteArray) : HasT (w.alloc (.cells #[.string x] 9)) (.slice (some ⟨w.heap.size, 0, none⟩) 1 1) [x] := by
  refine .inr ⟨_, 1, rfl, Nat.le_refl _, fun i s hi => ?_⟩
  match i, hi with
  | 0, hi =>
    obtain rfl : x = s := by simpa using hi
    exact one_new 0 _ rfl
theorem hasT_take {w : World} {po : Option Addr} {co t : Nat} {O : List ByteArray} (h : HasT w (.slice po O.length co) O) (ht : t ≤ O.length) : HasT w (.slice po t co) (O.take t) := by
  have hl : (O.take t).length = t := by rw [List.length_take]; omega
  rcases h with ⟨h, rfl⟩ | ⟨a, cap, hv, hc, hcell⟩
  · simp only [Value.slice.injEq] at h
    obtain ⟨rfl, _, rfl⟩ := h
    obtain rfl : t = 0 := by simpa using ht
    exact .inl ⟨rfl, rfl⟩
  · simp only [Value.slice.injEq] at hv
    obtain ⟨rfl, _, rfl⟩ := hv
    refine .inr ⟨a, _, by rw [hl], by rw [hl]; omega, fun i s hi => hcell i s ?_⟩
    have := (List.getElem?_eq_some_iff.1 hi).1
    rw [List.getElem?_take, if_pos (by omega)] at hi
    exact hi
theorem hasT_drop {w : World} {po A : Option Addr} {co t : Nat} {O : List ByteArray} (h : HasT w (.slice po O.length co) O) (ht : t ≤ O.length) (hA : (if co = t then po else po.map (·.add t)) = A) : HasT w (.slice A (O.length - t) (co - t)) (O.drop t) := by
  have hl : (O.drop t).length = O.length - t := List.length_drop
  rcases h with ⟨h, rfl⟩ | ⟨a, cap, hv, hc, hcell⟩
  · simp only [Value.slice.injEq] at h
    obtain ⟨rfl, _, rfl⟩ := h
    obtain rfl : t = 0 := by simpa using ht
    subst hA
    exact .inl ⟨rfl, rfl⟩
  · simp only [Value.slice.injEq] at hv
    obtain ⟨rfl, _, rfl⟩ := hv
    by_cases e : co = t
    · rw [if_pos e] at hA
      subst hA
      rw [List.drop_eq_nil_of_le (by omega), show O.length - t = 0 by omega]
      exact .inr ⟨a, co - t, rfl, by simp, by simp⟩
    · rw [if_neg e] at hA
      subst hA
      refine .inr ⟨_, _, by rw [hl]; rfl, by rw [hl]; omega, fun i s hi => ?_⟩
      rw [List.getElem?_drop] at hi
      rw [Addr.add_add]
      exact hcell _ _ hi

theorem hid {p : Prop} (h : p) : Hid p := h

set_option maxHeartbeats 4000000 in
set_option maxRecDepth 100000 in
theorem refSorted_any (v : Value) (L : List ByteArray) (w : World) (hv : HasT w v L) (hl : L.length ≤ 100000) (hs : ∀ s ∈ L, s.size ≤ 1048576) :
    Calls Tryz.prog 14 #[v] w fun e w' => (∃ v' O, e = .returned v' ∧ OwnsT w' w.heap.size v' O ∧ O.Perm L ∧ Srt O) ∧ Below w.heap.size w w' := by
  have HV := hid hv
  have HS := hid hs
  obtain ⟨ao, cap, rfl, hcap⟩ := hv.form
  clear hv hs
  go_enter Tryz.func14, Tryz.ntmps14
  go_wp2
  go_loopw [3, 4] (fun vo i wi => ∃ (j : Nat) (O : List ByteArray), j ≤ L.length ∧ i = .int .i64 j ∧ Hid (OwnsT wi w.heap.size vo O ∧ O.Perm (L.take j) ∧ Srt O ∧ Below w.heap.size w wi)) (fun _ i _ => L.length - (intOf i).toNat)
  case atStart => exact ⟨0, [], Nat.zero_le _, rfl, OwnsT.nil _ _, by simp, by simp [Srt], Below.refl _ _⟩
  case round =>
    obtain ⟨j, O, hj, rfl, HJ⟩ := hrel
    by_cases hjl : j < L.length
    · obtain ⟨ho, hp, hso, hb⟩ := HJ.out
      have HO := hid ho
      have HP := hid hp
      have HSO := hid hso
      have HB := hid hb
      obtain ⟨x, hx⟩ : ∃ x, L[j]? = some x := ⟨_, List.getElem?_eq_getElem hjl⟩
      have HXS : Hid (x.size ≤ 1048576) := HS.out x (List.mem_of_getElem? hx)
      have HOS : Hid (∀ s ∈ O, s.size ≤ 1048576) := fun s hs => HS.out s (List.mem_of_mem_take (hp.mem_iff.1 hs))
      have hol : O.length = j := by have := hp.length_eq; rw [List.length_take] at this; omega
      obtain ⟨po, co, hvo, hco⟩ := ho.has.form
      subst hvo
      subst hol
      obtain ⟨a0, _, hva, hca⟩ := (HV.out.below hb).at hx
      simp at hva
      obtain ⟨rfl, rfl⟩ := hva
      have HXT : Hid (L.take (O.length + 1) = L.take O.length ++ [x]) := by show _ = _; rw [List.take_add_one, hx]; rfl
      clear ho hp hso hb HJ hx hj
      go_wp2
      obtain ⟨w0, ew0⟩ : ∃ w0, w0 = wr := ⟨_, rfl⟩
      go_loopw [5] (fun k wi => ∃ (t : Nat), t ≤ O.length ∧ k = .int .i64 t ∧ Hid ((∀ y ∈ O.drop t, 0 < cmpT y x) ∧ Below w0.heap.size w0 wi)) (fun k _ => (intOf k).toNat)
      case atStart => exact ⟨O.length, Nat.le_refl _, rfl, by simp, by rw [ew0]; exact Below.refl _ _⟩
      case round =>
        rw [← ew0] at HO HB hca
        clear ew0
        obtain ⟨t, ht, rfl, HT⟩ := hrel
        obtain ⟨htd, htb⟩ := HT.out
        have HTD := hid htd
        have HTB := hid htb
        have cx : wr.cell? (a0.add O.length) = some (.string x) := bcell htb hca
        clear htd htb HT
        by_cases ht0 : t = 0
        · subst ht0
          go_wp2_with fail
          go_region
          all_goals
            obtain ⟨wd, ewd⟩ : ∃ wd, wr.drew = wd := ⟨_, rfl⟩
            have HBD : Hid (Below w0.heap.size w0 wd) := by rw [← ewd]; exact Below.drews HTB.out ⟨1, rfl⟩
            go_upto_region 8 with fail
            rw [ewd]
            clear ewd
            have hwd : w0.heap.size ≤ wd.heap.size := HBD.out.size
            have hw0 : w.heap.size ≤ w0.heap.size := HB.out.size
            have HOD : Hid (HasT wd (.slice po O.length co) O) := HO.out.has.below HBD.out
            have HH1 : Hid (HasT wd (.slice po 0 co) (O.take 0)) := hasT_take HOD.out ht
            have HH3 : Hid (HasT wd (.slice po O.length co) (O.drop 0)) := HOD.out
            have htl : (O.take 0).length = 0 := by rw [List.length_take]; omega
            have HTL := hid htl
            have hn1 : Hid (([] : List ByteArray).length + (O.take 0).length ≤ 1048576) := by show _ ≤ _; rw [htl, List.length_nil]; omega
            have hn2 : Hid ((O.take 0).length + [x].length ≤ 1048576) := by show _ ≤ _; rw [htl, List.length_singleton]; omega
            have hn3 : Hid ((O.take 0 ++ [x]).length + (O.drop 0).length ≤ 1048576) := by show _ ≤ _; rw [List.length_append, htl, List.length_singleton, List.length_drop]; omega
            clear HOD htl
            have cxd : wd.cell? (a0.add O.length) = some (.string x) := bcell HBD.out hca
            go_wp2_with (at_builtin; refine wpList_append_texts rfl _ _ rfl wd.heap.size _ _ [] (O.take 0) rfl rfl (OwnsT.nil _ _) HH1.out hn1.out (Nat.le_refl _) ?_)
            intro v1 w1 ho1 hb1
            have HO1 : Hid (OwnsT w1 wd.heap.size v1 (O.take 0)) := ho1
            have HB1 := hid hb1
            have cx1 : w1.cell? (a0.add O.length) = some (.string x) := bcell hb1 cxd
            have hz1 := hb1.size
            clear ho1 hb1 HH1
            obtain ⟨p1, k1, e1⟩ := row_form HO1.out
            rw [HTL.out] at e1
            subst e1
            go_wp2_with (at_builtin; refine wpList_append_texts rfl _ _ rfl wd.heap.size _ _ (O.take 0) [x] rfl rfl (rowB1 HO1.out ((Below.refl _ _).alloc (Nat.le_refl _) _)) (hasT_one _ x) hn2.out (by simp; omega) ?_)
            intro v2 w2 ho2 hb2
            have HO2 := hid ho2
            have HB2 : Hid (Below wd.heap.size wd w2) := HB1.out.trans (((Below.refl _ w1).alloc (Nat.le_refl _) _).mono hz1 |>.trans hb2)
            have hz2 := HB2.out.size
            clear ho2 hb2 HO1 HB1 cx1
            obtain ⟨p2, k2, e2⟩ := row_form HO2.out
            subst e2
            have HH4 : Hid (HasT w2 (.slice po O.length co) (O.drop 0)) := HH3.out.below HB2.out
            go_wp2_with (at_builtin; refine wpList_append_texts rfl _ _ rfl wd.heap.size _ _ (O.take 0 ++ [x]) (O.drop 0) rfl rfl HO2.out HH4.out hn3.out hz2 ?_)
            intro v3 w3 ho3 hb3
            have FIN : Hid (OwnsT w3 w.heap.size v3 (O.take 0 ++ [x] ++ O.drop 0) ∧ (O.take 0 ++ [x] ++ O.drop 0).Perm (L.take (O.length + 1)) ∧ Srt (O.take 0 ++ [x] ++ O.drop 0) ∧ Below w.heap.size w w3) := by
              have ho4 : OwnsT w3 wd.heap.size v3 (O.take 0 ++ [x] ++ O.drop 0) := by simpa using ho3
              refine ⟨ho4.mono (Nat.le_trans hw0 hwd), ?_, srt_ins HSO.out ht HTD.out (.inl rfl), ?_⟩
              · rw [HXT.out]; exact perm_ins HP.out
              · exact HB.out.trans ((HBD.out.trans ((HB2.out.trans hb3).mono hwd)).mono hw0)
            clear ho3 hb3 HO2 HB2 HH4 HH3
            go_wp2
            exact ⟨⟨O.length + 1, _, by omega, by go_num, FIN.out⟩, by simp [intOf]; omega⟩
        · obtain ⟨y, hy⟩ : ∃ y, O[t - 1]? = some y := ⟨_, List.getElem?_eq_getElem (by omega)⟩
          obtain ⟨g, cc, hgo, _, hg⟩ := owns_at HO.out hy
          injection hgo with e1 e2 e3
          subst e1
          subst e3
          have cy : wr.cell? ⟨g, t - 1, none⟩ = some (.string y) := bcell HTB.out hg
          clear hg e2
          obtain ⟨c, hc⟩ : ∃ c, cmpT y x = c := ⟨_, rfl⟩
          have CC : Hid (Calls Tryz.prog 46 #[.string y, .string x] wr.drew fun e w' => e = .returned (.int .i64 c) ∧ Below wr.heap.size wr w') := by
            refine (refCompare_any y x wr.drew (HOS.out y (List.mem_of_getElem? hy)) HXS.out).mono ?_
            rintro e w' ⟨rfl, hb⟩
            refine ⟨by rw [← hc]; rfl, ?_⟩
            exact Below.up (w1 := wr.drew) ⟨rfl, rfl, rfl, Nat.le_refl _, fun _ _ => rfl⟩ hb
          have HC : Hid (cmpT y x = c) := hc
          clear hc
          have tI : (1 : Int) ≤ (t : Int) := by omega
          have tN : ((t : Int) - 1) = ((t - 1 : Nat) : Int) := by omega
          go_wp2_with fail
          refine wp_region_any (by kernel_rfl) ?_
          change wpAny _ _ _ _ _ _ _ (World.drew _)
          refine wpAny_take (i := 0) (v := .int .i64 t) rfl (by kernel_rfl) (by kernel_rfl) (by kernel_rfl) (fun _ _ _ h => h) (Or.inl ⟨by kernel_rfl, ?_⟩) ?_
          · intro wz; go_simp
          refine wpAny_take (i := 1) (v := .bool true) rfl (by kernel_rfl) (by kernel_rfl) (by kernel_rfl) (fun _ _ _ h => h) (Or.inl ⟨by kernel_rfl, ?_⟩) ?_
          · intro wz; go_simp; omega
          refine wpAny_take (i := 2) (v := .bool true) rfl (by kernel_rfl) (by kernel_rfl) (by kernel_rfl) (fun _ _ _ h => h) (Or.inl ⟨by kernel_rfl, ?_⟩) ?_
          · intro wz; go_simp
          refine wpAny_take (i := 3) (v := .slice (some ⟨g, 0, none⟩) O.length co) rfl (by kernel_rfl) (by kernel_rfl) (by kernel_rfl) (fun _ _ _ h => h) (Or.inl ⟨by kernel_rfl, ?_⟩) ?_
          · intro wz; go_simp
          refine wpAny_take (i := 4) (v := .int .i64 t) rfl (by kernel_rfl) (by kernel_rfl) (by kernel_rfl) (fun _ _ _ h => h) (Or.inl ⟨by kernel_rfl, ?_⟩) ?_
          · intro wz; go_simp
          refine wpAny_take (i := 5) (v := .int .i64 ((t - 1 : Nat) : Int)) rfl (by kernel_rfl) (by kernel_rfl) (by kernel_rfl) (fun _ _ _ h => h) (Or.inl ⟨by kernel_rfl, ?_⟩) ?_
          · intro wz; go_simp; rw [IntKind.wrap_i64]; omega
          refine wpAny_take (i := 6) (v := .pointer (some ⟨g, t - 1, none⟩)) rfl (by kernel_rfl) (by kernel_rfl) (by kernel_rfl) (fun _ _ _ h => h) (Or.inl ⟨by kernel_rfl, ?_⟩) ?_
          · intro wz; go_simp; intro hq; omega
          refine wpAny_take (i := 8) (v := .slice (some a0) L.length cap) rfl (by kernel_rfl) (by kernel_rfl) (by kernel_rfl) (fun _ _ _ h => h) (Or.inl ⟨by kernel_rfl, ?_⟩) ?_
          · intro wz; go_simp
          refine wpAny_take (i := 9) (v := .int .i64 O.length) rfl (by kernel_rfl) (by kernel_rfl) (by kernel_rfl) (fun _ _ _ h => h) (Or.inl ⟨by kernel_rfl, ?_⟩) ?_
          · intro wz; go_simp
          refine wpAny_take (i := 10) (v := .pointer (some (a0.add O.length))) rfl (by kernel_rfl) (by kernel_rfl) (by kernel_rfl) (fun _ _ _ h => h) (Or.inl ⟨by kernel_rfl, ?_⟩) ?_
          · intro wz; go_simp
          try simp only [Act.put, List.getElem_toArray, List.getElem_cons_zero, List.getElem_cons_succ, List.setIfInBounds_toArray, List.set_cons_zero, List.set_cons_succ]
          refine wpAny_ready (rs := [7, 11]) (by kernel_rfl) (by simp) ?_
          refine AllReady.cons rfl (fun K' hK' => ?_) (AllReady.cons rfl (fun K' hK' => ?_) AllReady.nil)
          · go_simp
            refine hK' _ _ ?_
            clear hK' K'
            try simp only [Act.put, List.getElem_toArray, List.getElem_cons_zero, List.getElem_cons_succ, List.setIfInBounds_toArray, List.set_cons_zero, List.set_cons_succ]
            refine wpAny_ready (rs := [11]) (by kernel_rfl) (by simp) ?_
            refine AllReady.cons rfl (fun K' hK' => ?_) AllReady.nil
            go_simp
            refine hK' _ _ ?_
            clear hK' K'
            try simp only [Act.put, List.getElem_toArray, List.getElem_cons_zero, List.getElem_cons_succ, List.setIfInBounds_toArray, List.set_cons_zero, List.set_cons_succ]
            refine wpAny_ready (rs := [12]) (by kernel_rfl) (by simp) ?_
            refine AllReady.cons rfl (fun K' hK' => ?_) AllReady.nil
            go_simp
            refine CC.out.mono ?_
            rintro e wd ⟨rfl, hbd⟩
            have HBD : Hid (Below w0.heap.size w0 wd) := Below.up HTB.out hbd
            clear hbd
            refine hK' _ _ ?_
            clear hK' K'
            refine wpAny_take (i := 13) (v := .bool (decide (0 < c))) rfl (by kernel_rfl) (by kernel_rfl) (by kernel_rfl) (fun _ _ _ h => h) (Or.inl ⟨by kernel_rfl, ?_⟩) ?_
            · intro wz; go_simp
            refine wpAny_take (i := 14) (v := .bool (decide (0 < c))) rfl (by kernel_rfl) (by kernel_rfl) (by kernel_rfl) (fun _ _ _ h => h) (Or.inl ⟨by kernel_rfl, ?_⟩) ?_
            · intro wz; go_simp
            refine wpAny_done (by kernel_rfl) ?_ _
            try simp only [Act.put, List.getElem_toArray, List.getElem_cons_zero, List.getElem_cons_succ, List.setIfInBounds_toArray, List.set_cons_zero, List.set_cons_succ]
            by_cases hc0 : 0 < c
            · have HN : Hid (∀ z ∈ O.drop (t - 1), 0 < cmpT z x) := fun z hz => by
                rw [List.drop_eq_getElem_cons (show t - 1 < O.length by omega), show t - 1 + 1 = t by omega] at hz
                rcases List.mem_cons.1 hz with e | hz
                · obtain ⟨_, ey⟩ := List.getElem?_eq_some_iff.1 hy
                  rw [e, ey, HC.out]; exact hc0
                · exact HTD.out z hz
              go_wp2
              exact ⟨⟨t - 1, by omega, rfl, HN.out, HBD.out⟩, by simp [intOf]; omega⟩
            · have HT2 : Hid (t = 0 ∨ ∃ z, O[t - 1]? = some z ∧ cmpT z x ≤ 0) := .inr ⟨y, hy, by rw [HC.out]; omega⟩
              clear cx cy
              have hwd : w0.heap.size ≤ wd.heap.size := HBD.out.size
              have hw0 : w.heap.size ≤ w0.heap.size := HB.out.size
              obtain ⟨A, hA⟩ : ∃ A, (if co = t then some (⟨g, 0, none⟩ : Addr) else some (⟨g, t, none⟩ : Addr)) = A := ⟨_, rfl⟩
              have hA2 : (if co = t then some (⟨g, 0, none⟩ : Addr) else (some (⟨g, 0, none⟩ : Addr)).map (·.add t)) = A := by rw [Option.map_some, Addr.add_lit, Nat.zero_add]; exact hA
              have HOD : Hid (HasT wd (.slice (some ⟨g, 0, none⟩) O.length co) O) := HO.out.has.below HBD.out
              have HH1 : Hid (HasT wd (.slice (some ⟨g, 0, none⟩) t co) (O.take t)) := hasT_take HOD.out ht
              have HH3 : Hid (HasT wd (.slice A (O.length - t) (co - t)) (O.drop t)) := hasT_drop HOD.out ht hA2
              have htl : (O.take t).length = t := by rw [List.length_take]; omega
              have HTL := hid htl
              have hn1 : Hid (([] : List ByteArray).length + (O.take t).length ≤ 1048576) := by show _ ≤ _; rw [htl, List.length_nil]; omega
              have hn2 : Hid ((O.take t).length + [x].length ≤ 1048576) := by show _ ≤ _; rw [htl, List.length_singleton]; omega
              have hn3 : Hid ((O.take t ++ [x]).length + (O.drop t).length ≤ 1048576) := by show _ ≤ _; rw [List.length_append, htl, List.length_singleton, List.length_drop]; omega
              clear HOD htl
              clear hA2
              have cxd : wd.cell? (a0.add O.length) = some (.string x) := bcell HBD.out hca
              go_wp2_with (at_builtin; refine wpList_append_texts rfl _ _ rfl wd.heap.size _ _ [] (O.take t) rfl rfl (OwnsT.nil _ _) HH1.out hn1.out (Nat.le_refl _) ?_)
              intro v1 w1 ho1 hb1
              have HO1 : Hid (OwnsT w1 wd.heap.size v1 (O.take t)) := ho1
              have HB1 := hid hb1
              have cx1 : w1.cell? (a0.add O.length) = some (.string x) := bcell hb1 cxd
              have hz1 := hb1.size
              clear ho1 hb1 HH1
              obtain ⟨p1, k1, e1⟩ := row_form HO1.out
              rw [HTL.out] at e1
              subst e1
              go_wp2_with (at_builtin; refine wpList_append_texts rfl _ _ rfl wd.heap.size _ _ (O.take t) [x] rfl rfl (rowB1 HO1.out ((Below.refl _ _).alloc (Nat.le_refl _) _)) (hasT_one _ x) hn2.out (by simp; omega) ?_)
              intro v2 w2 ho2 hb2
              have HO2 := hid ho2
              have HB2 : Hid (Below wd.heap.size wd w2) := HB1.out.trans (((Below.refl _ w1).alloc (Nat.le_refl _) _).mono hz1 |>.trans hb2)
              have hz2 := HB2.out.size
              clear ho2 hb2 HO1 HB1 cx1
              obtain ⟨p2, k2, e2⟩ := row_form HO2.out
              subst e2
              have HH4 : Hid (HasT w2 (.slice A (O.length - t) (co - t)) (O.drop t)) := HH3.out.below HB2.out
              go_wp2_with (at_builtin; refine wpList_append_texts rfl _ _ rfl wd.heap.size _ _ (O.take t ++ [x]) (O.drop t) rfl rfl HO2.out HH4.out hn3.out hz2 ?_)
              intro v3 w3 ho3 hb3
              have FIN : Hid (OwnsT w3 w.heap.size v3 (O.take t ++ [x] ++ O.drop t) ∧ (O.take t ++ [x] ++ O.drop t).Perm (L.take (O.length + 1)) ∧ Srt (O.take t ++ [x] ++ O.drop t) ∧ Below w.heap.size w w3) := by
                have ho4 : OwnsT w3 wd.heap.size v3 (O.take t ++ [x] ++ O.drop t) := by simpa using ho3
                refine ⟨ho4.mono (Nat.le_trans hw0 hwd), ?_, srt_ins HSO.out ht HTD.out HT2.out, ?_⟩
                · rw [HXT.out]; exact perm_ins HP.out
                · exact HB.out.trans ((HBD.out.trans ((HB2.out.trans hb3).mono hwd)).mono hw0)
              clear ho3 hb3 HO2 HB2 HH4 HH3
              go_wp2
              exact ⟨⟨O.length + 1, _, by omega, by go_num, FIN.out⟩, by simp [intOf]; omega⟩
          · go_simp
            refine hK' _ _ ?_
            clear hK' K'
            try simp only [Act.put, List.getElem_toArray, List.getElem_cons_zero, List.getElem_cons_succ, List.setIfInBounds_toArray, List.set_cons_zero, List.set_cons_succ]
            refine wpAny_ready (rs := [7]) (by kernel_rfl) (by simp) ?_
            refine AllReady.cons rfl (fun K' hK' => ?_) AllReady.nil
            go_simp
            refine hK' _ _ ?_
            clear hK' K'
            try simp only [Act.put, List.getElem_toArray, List.getElem_cons_zero, List.getElem_cons_succ, List.setIfInBounds_toArray, List.set_cons_zero, List.set_cons_succ]
            refine wpAny_ready (rs := [12]) (by kernel_rfl) (by simp) ?_
            refine AllReady.cons rfl (fun K' hK' => ?_) AllReady.nil
            go_simp
            refine CC.out.mono ?_
            rintro e wd ⟨rfl, hbd⟩
            have HBD : Hid (Below w0.heap.size w0 wd) := Below.up HTB.out hbd
            clear hbd
            refine hK' _ _ ?_
            clear hK' K'
            refine wpAny_take (i := 13) (v := .bool (decide (0 < c))) rfl (by kernel_rfl) (by kernel_rfl) (by kernel_rfl) (fun _ _ _ h => h) (Or.inl ⟨by kernel_rfl, ?_⟩) ?_
            · intro wz; go_simp
            refine wpAny_take (i := 14) (v := .bool (decide (0 < c))) rfl (by kernel_rfl) (by kernel_rfl) (by kernel_rfl) (fun _ _ _ h => h) (Or.inl ⟨by kernel_rfl, ?_⟩) ?_
            · intro wz; go_simp
            refine wpAny_done (by kernel_rfl) ?_ _
            try simp only [Act.put, List.getElem_toArray, List.getElem_cons_zero, List.getElem_cons_succ, List.setIfInBounds_toArray, List.set_cons_zero, List.set_cons_succ]
            by_cases hc0 : 0 < c
            · have HN : Hid (∀ z ∈ O.drop (t - 1), 0 < cmpT z x) := fun z hz => by
                rw [List.drop_eq_getElem_cons (show t - 1 < O.length by omega), show t - 1 + 1 = t by omega] at hz
                rcases List.mem_cons.1 hz with e | hz
                · obtain ⟨_, ey⟩ := List.getElem?_eq_some_iff.1 hy
                  rw [e, ey, HC.out]; exact hc0
                · exact HTD.out z hz
              go_wp2
              exact ⟨⟨t - 1, by omega, rfl, HN.out, HBD.out⟩, by simp [intOf]; omega⟩
            · have HT2 : Hid (t = 0 ∨ ∃ z, O[t - 1]? = some z ∧ cmpT z x ≤ 0) := .inr ⟨y, hy, by rw [HC.out]; omega⟩
              clear cx cy
              have hwd : w0.heap.size ≤ wd.heap.size := HBD.out.size
              have hw0 : w.heap.size ≤ w0.heap.size := HB.out.size
              obtain ⟨A, hA⟩ : ∃ A, (if co = t then some (⟨g, 0, none⟩ : Addr) else some (⟨g, t, none⟩ : Addr)) = A := ⟨_, rfl⟩
              have hA2 : (if co = t then some (⟨g, 0, none⟩ : Addr) else (some (⟨g, 0, none⟩ : Addr)).map (·.add t)) = A := by rw [Option.map_some, Addr.add_lit, Nat.zero_add]; exact hA
              have HOD : Hid (HasT wd (.slice (some ⟨g, 0, none⟩) O.length co) O) := HO.out.has.below HBD.out
              have HH1 : Hid (HasT wd (.slice (some ⟨g, 0, none⟩) t co) (O.take t)) := hasT_take HOD.out ht
              have HH3 : Hid (HasT wd (.slice A (O.length - t) (co - t)) (O.drop t)) := hasT_drop HOD.out ht hA2
              have htl : (O.take t).length = t := by rw [List.length_take]; omega
              have HTL := hid htl
              have hn1 : Hid (([] : List ByteArray).length + (O.take t).length ≤ 1048576) := by show _ ≤ _; rw [htl, List.length_nil]; omega
              have hn2 : Hid ((O.take t).length + [x].length ≤ 1048576) := by show _ ≤ _; rw [htl, List.length_singleton]; omega
              have hn3 : Hid ((O.take t ++ [x]).length + (O.drop t).length ≤ 1048576) := by show _ ≤ _; rw [List.length_append, htl, List.length_singleton, List.length_drop]; omega
              clear HOD htl
              clear hA2
              have cxd : wd.cell? (a0.add O.length) = some (.string x) := bcell HBD.out hca
              go_wp2_with (at_builtin; refine wpList_append_texts rfl _ _ rfl wd.heap.size _ _ [] (O.take t) rfl rfl (OwnsT.nil _ _) HH1.out hn1.out (Nat.le_refl _) ?_)
              intro v1 w1 ho1 hb1
              have HO1 : Hid (OwnsT w1 wd.heap.size v1 (O.take t)) := ho1
              have HB1 := hid hb1
              have cx1 : w1.cell? (a0.add O.length) = some (.string x) := bcell hb1 cxd
              have hz1 := hb1.size
              clear ho1 hb1 HH1
              obtain ⟨p1, k1, e1⟩ := row_form HO1.out
              rw [HTL.out] at e1
              subst e1
              go_wp2_with (at_builtin; refine wpList_append_texts rfl _ _ rfl wd.heap.size _ _ (O.take t) [x] rfl rfl (rowB1 HO1.out ((Below.refl _ _).alloc (Nat.le_refl _) _)) (hasT_one _ x) hn2.out (by simp; omega) ?_)
              intro v2 w2 ho2 hb2
              have HO2 := hid ho2
              have HB2 : Hid (Below wd.heap.size wd w2) := HB1.out.trans (((Below.refl _ w1).alloc (Nat.le_refl _) _).mono hz1 |>.trans hb2)
              have hz2 := HB2.out.size
              clear ho2 hb2 HO1 HB1 cx1
              obtain ⟨p2, k2, e2⟩ := row_form HO2.out
              subst e2
              have HH4 : Hid (HasT w2 (.slice A (O.length - t) (co - t)) (O.drop t)) := HH3.out.below HB2.out
              go_wp2_with (at_builtin; refine wpList_append_texts rfl _ _ rfl wd.heap.size _ _ (O.take t ++ [x]) (O.drop t) rfl rfl HO2.out HH4.out hn3.out hz2 ?_)
              intro v3 w3 ho3 hb3
              have FIN : Hid (OwnsT w3 w.heap.size v3 (O.take t ++ [x] ++ O.drop t) ∧ (O.take t ++ [x] ++ O.drop t).Perm (L.take (O.length + 1)) ∧ Srt (O.take t ++ [x] ++ O.drop t) ∧ Below w.heap.size w w3) := by
                have ho4 : OwnsT w3 wd.heap.size v3 (O.take t ++ [x] ++ O.drop t) := by simpa using ho3
                refine ⟨ho4.mono (Nat.le_trans hw0 hwd), ?_, srt_ins HSO.out ht HTD.out HT2.out, ?_⟩
                · rw [HXT.out]; exact perm_ins HP.out
                · exact HB.out.trans ((HBD.out.trans ((HB2.out.trans hb3).mono hwd)).mono hw0)
              clear ho3 hb3 HO2 HB2 HH4 HH3
              go_wp2
              exact ⟨⟨O.length + 1, _, by omega, by go_num, FIN.out⟩, by simp [intOf]; omega⟩
    · obtain rfl : j = L.length := by omega
      have HF : Hid _ := HJ.out
      clear HJ
      go_wp2
      go_ret
      obtain ⟨h1, h2, h3, h4⟩ := HF.out
      rw [List.take_length] at h2
      exact ⟨⟨_, O, rfl, h1, h2, h3⟩, h4⟩
end Go.Proofs.YtnhnggnldhmepaaGreatDoor
