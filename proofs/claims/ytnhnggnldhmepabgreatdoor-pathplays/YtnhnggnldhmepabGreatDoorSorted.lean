/-
  path.Sorted by contract.
-/
import Derived.Test.YtnhnggnldhmepabGreatDoorSortP
import Derived.Test.YtnhnggnldhmepabGreatDoorRefOrder
import Derived.Test.YtnhnggnldhmepabGreatDoorApp
import Derived.Deep.DeepCutAuto
import Derived.Deep.RegionHeld3
import Derived.DataElems
import Derived.Shelf.SlSortCmp.NoneTotal
import Derived.Test.YtnhnggnldhmepabGreatDoorOrder
import Derived.Laws.CopyOwn
namespace Go.Proofs.YtnhnggnldhmepabGreatDoor
open Go.RowKit

theorem bcell {w w' : World} {p : Addr} {v : Value} (hb : Below w.heap.size w w') (h : w.cell? p = some v) : w'.cell? p = some v := by
  have q : p.block < w.heap.size := by
    rcases Nat.lt_or_ge p.block w.heap.size with q | q
    · exact q
    · simp [World.cell?, Array.getElem?_eq_none q] at h
  rw [hb.cell q]; exact h

theorem owns_at {w : World} {lo : Nat} {v : Value} {l : List ByteArray} (h : OwnsT w lo v l) {k : Nat} {s : ByteArray} (hk : l[k]? = some s) : ∃ g cap, v = .slice (some ⟨g, 0, none⟩) l.length cap ∧ l.length ≤ cap ∧ w.cell? ⟨g, k, none⟩ = some (.string s) := by
  obtain ⟨h1, ⟨_, h2⟩ | ⟨g, cap, cur, hv, hg, hh, hn, hr⟩⟩ := h
  · have := List.length_eq_zero_iff.1 h2
    subst this
    simp at hk
  · refine ⟨g, cap, hv, hn, ?_⟩
    have := World.ownsRow.cells ⟨h1, .inr ⟨g, cap, cur, hv, hg, hh, hn, hr⟩⟩ (g := g) (by rw [hv]; rfl) k (.string s) (by rw [List.getElem?_map, hk]; rfl)
    rw [Addr.add_lit, Nat.zero_add] at this
    exact this

theorem rowB1 {w w' : World} {lo : Nat} {v : Value} {l : List ByteArray} (h : OwnsT w lo v l) (hb : Below w.heap.size w w') : OwnsT w' lo v l := row_block h fun k hk => hb.block k (World.ownsRow.lt h k hk).2
theorem hasT_one (w : World) (x : ByteArray) : HasT (w.alloc (.cells #[.string x] 9)) (.slice (some ⟨w.heap.size, 0, none⟩) 1 1) [x] := by
  refine .inr ⟨_, 1, rfl, Nat.le_refl _, fun i s hi => ?_⟩
  match i, hi with
  | 0, hi =>
    obtain rfl : x = s := by simpa using hi
    exact one_new 0 _ rfl
theorem hasT_take {w : World} {po : Option Addr} {co t : Nat} {O : List ByteArray} (h : HasT w (.slice po O.length co) O) (ht : t ≤ O.length) : HasT w (.slice po t co) (O.take t) := by
  have hl : (O.take t).length = t := by rw [List.length_take]; omega
  rcases h with ⟨h, rfl⟩ | ⟨a, cap, hv, hc, hcell⟩
  · simp only [Value.slice.injEq] at h
    obtain ⟨rfl, _, rfl⟩ := h
    obtain rfl : t = 0 := by simpa using ht
    exact .inl ⟨rfl, rfl⟩
  · simp only [Value.slice.injEq] at hv
    obtain ⟨rfl, _, rfl⟩ := hv
    refine .inr ⟨a, _, by rw [hl], by rw [hl]; omega, fun i s hi => hcell i s ?_⟩
    have := (List.getElem?_eq_some_iff.1 hi).1
    rw [List.getElem?_take, if_pos (by omega)] at hi
    exact hi
theorem hasT_drop {w : World} {po A : Option Addr} {co t : Nat} {O : List ByteArray} (h : HasT w (.slice po O.length co) O) (ht : t ≤ O.length) (hA : (if co = t then po else po.map (·.add t)) = A) : HasT w (.slice A (O.length - t) (co - t)) (O.drop t) := by
  have hl : (O.drop t).length = O.length - t := List.length_drop
  rcases h with ⟨h, rfl⟩ | ⟨a, cap, hv, hc, hcell⟩
  · simp only [Value.slice.injEq] at h
    obtain ⟨rfl, _, rfl⟩ := h
    obtain rfl : t = 0 := by simpa using ht
    subst hA
    exact .inl ⟨rfl, rfl⟩
  · simp only [Value.slice.injEq] at hv
    obtain ⟨rfl, _, rfl⟩ := hv
    by_cases e : co = t
    · rw [if_pos e] at hA
      subst hA
      rw [List.drop_eq_nil_of_le (by omega), show O.length - t = 0 by omega]
      exact .inr ⟨a, co - t, rfl, by simp, by simp⟩
    · rw [if_neg e] at hA
      subst hA
      refine .inr ⟨_, _, by rw [hl]; rfl, by rw [hl]; omega, fun i s hi => ?_⟩
      rw [List.getElem?_drop] at hi
      rw [Addr.add_add]
      exact hcell _ _ hi

theorem hid {p : Prop} (h : p) : Hid p := h

set_option maxHeartbeats 4000000 in
set_option maxRecDepth 100000 in
theorem refSorted_any (v : Value) (L : List ByteArray) (w : World) (hv : HasT w v L) (hl : L.length ≤ 100000) (hs : ∀ s ∈ L, s.size ≤ 1048576) :
    Calls Tryz.prog 21 #[v] w fun e w' => (∃ v' O, e = .returned v' ∧ OwnsT w' w.heap.size v' O ∧ O.Perm L ∧ Srt O) ∧ Below w.heap.size w w' := by
  have HV := hid hv
  have HS := hid hs
  obtain ⟨ao, cap, rfl, hcap⟩ := hv.form
  clear hv hs
  go_enter Tryz.func21, Tryz.ntmps21
  go_wp2
  go_loopw [3, 4] (fun vo i wi => ∃ (j : Nat) (O : List ByteArray), j ≤ L.length ∧ i = .int .i64 j ∧ Hid (OwnsT wi w.heap.size vo O ∧ O.Perm (L.take j) ∧ Srt O ∧ Below w.heap.size w wi)) (fun _ i _ => L.length - (intOf i).toNat)
  case atStart => exact ⟨0, [], Nat.zero_le _, rfl, OwnsT.nil _ _, by simp, by simp [Srt], Below.refl _ _⟩
  case round =>
    obtain ⟨j, O, hj, rfl, HJ⟩ := hrel
    by_cases hjl : j < L.length
    · obtain ⟨ho, hp, hso, hb⟩ := HJ.out
      have HO := hid ho
      have HP := hid hp
      have HSO := hid hso
      have HB := hid hb
      obtain ⟨x, hx⟩ : ∃ x, L[j]? = some x := ⟨_, List.getElem?_eq_getElem hjl⟩
      have HXS : Hid (x.size ≤ 1048576) := HS.out x (List.mem_of_getElem? hx)
      have HOS : Hid (∀ s ∈ O, s.size ≤ 1048576) := fun s hs => HS.out s (List.mem_of_mem_take (hp.mem_iff.1 hs))
      have hol : O.length = j := by have := hp.length_eq; rw [List.length_take] at this; omega
      obtain ⟨po, co, hvo, hco⟩ := ho.has.form
      subst hvo
      subst hol
      obtain ⟨a0, _, hva, hca⟩ := (HV.out.below hb).at hx
      simp at hva
      obtain ⟨rfl, rfl⟩ := hva
      have HXT : Hid (L.take (O.length + 1) = L.take O.length ++ [x]) := by show _ = _; rw [List.take_add_one, hx]; rfl
      clear ho hp hso hb HJ hx hj
      go_wp2
      obtain ⟨w0, ew0⟩ : ∃ w0, w0 = wr := ⟨_, rfl⟩
      go_loopw [5] (fun k wi => ∃ (t : Nat), t ≤ O.length ∧ k = .int .i64 t ∧ Hid ((∀ y ∈ O.drop t, 0 < cmpT y x) ∧ Below w0.heap.size w0 wi)) (fun k _ => (intOf k).toNat)
      case atStart => exact ⟨O.length, Nat.le_refl _, rfl, by simp, by rw [ew0]; exact Below.refl _ _⟩
      case round =>
        rw [← ew0] at HO HB hca
        clear ew0
        obtain ⟨t, ht, rfl, HT⟩ := hrel
        obtain ⟨htd, htb⟩ := HT.out
        have HTD := hid htd
        have HTB := hid htb
        have cx : wr.cell? (a0.add O.length) = some (.string x) := bcell htb hca
        clear htd htb HT
        by_cases ht0 : t = 0
        · subst ht0
          go_wp2_with fail
          go_region
          all_goals
            obtain ⟨wd, ewd⟩ : ∃ wd, wr.drew = wd := ⟨_, rfl⟩
            have HBD : Hid (Below w0.heap.size w0 wd) := by rw [← ewd]; exact Below.drews HTB.out ⟨1, rfl⟩
            go_upto_region 8 with fail
            rw [ewd]
            clear ewd
            have hwd : w0.heap.size ≤ wd.heap.size := HBD.out.size
            have hw0 : w.heap.size ≤ w0.heap.size := HB.out.size
            have HOD : Hid (HasT wd (.slice po O.length co) O) := HO.out.has.below HBD.out
            have HH1 : Hid (HasT wd (.slice po 0 co) (O.take 0)) := hasT_take HOD.out ht
            have HH3 : Hid (HasT wd (.slice po O.length co) (O.drop 0)) := HOD.out
            have htl : (O.take 0).length = 0 := by rw [List.length_take]; omega
            have HTL := hid htl
            have hn1 : Hid (([] : List ByteArray).length + (O.take 0).length ≤ 1048576) := by show _ ≤ _; rw [htl, List.length_nil]; omega
            have hn2 : Hid ((O.take 0).length + [x].length ≤ 1048576) := by show _ ≤ _; rw [htl, List.length_singleton]; omega
            have hn3 : Hid ((O.take 0 ++ [x]).length + (O.drop 0).length ≤ 1048576) := by show _ ≤ _; rw [List.length_append, htl, List.length_singleton, List.length_drop]; omega
            clear HOD htl
            have cxd : wd.cell? (a0.add O.length) = some (.string x) := bcell HBD.out hca
            go_wp2_with (at_builtin; refine wpList_append_texts rfl _ _ rfl wd.heap.size _ _ [] (O.take 0) rfl rfl (OwnsT.nil _ _) HH1.out hn1.out (Nat.le_refl _) ?_)
            intro v1 w1 ho1 hb1
            have HO1 : Hid (OwnsT w1 wd.heap.size v1 (O.take 0)) := ho1
            have HB1 := hid hb1
            have cx1 : w1.cell? (a0.add O.length) = some (.string x) := bcell hb1 cxd
            have hz1 := hb1.size
            clear ho1 hb1 HH1
            obtain ⟨p1, k1, e1⟩ := row_form HO1.out
            rw [HTL.out] at e1
            subst e1
            go_wp2_with (at_builtin; refine wpList_append_texts rfl _ _ rfl wd.heap.size _ _ (O.take 0) [x] rfl rfl (rowB1 HO1.out ((Below.refl _ _).alloc (Nat.le_refl _) _)) (hasT_one _ x) hn2.out (by simp; omega) ?_)
            intro v2 w2 ho2 hb2
            have HO2 := hid ho2
            have HB2 : Hid (Below wd.heap.size wd w2) := HB1.out.trans (((Below.refl _ w1).alloc (Nat.le_refl _) _).mono hz1 |>.trans hb2)
            have hz2 := HB2.out.size
            clear ho2 hb2 HO1 HB1 cx1
            obtain ⟨p2, k2, e2⟩ := row_form HO2.out
            subst e2
            have HH4 : Hid (HasT w2 (.slice po O.length co) (O.drop 0)) := HH3.out.below HB2.out
            go_wp2_with (at_builtin; refine wpList_append_texts rfl _ _ rfl wd.heap.size _ _ (O.take 0 ++ [x]) (O.drop 0) rfl rfl HO2.out HH4.out hn3.out hz2 ?_)
            intro v3 w3 ho3 hb3
            have FIN : Hid (OwnsT w3 w.heap.size v3 (O.take 0 ++ [x] ++ O.drop 0) ∧ (O.take 0 ++ [x] ++ O.drop 0).Perm (L.take (O.length + 1)) ∧ Srt (O.take 0 ++ [x] ++ O.drop 0) ∧ Below w.heap.size w w3) := by
              have ho4 : OwnsT w3 wd.heap.size v3 (O.take 0 ++ [x] ++ O.drop 0) := by simpa using ho3
              refine ⟨ho4.mono (Nat.le_trans hw0 hwd), ?_, srt_ins HSO.out ht HTD.out (.inl rfl), ?_⟩
              · rw [HXT.out]; exact perm_ins HP.out
              · exact HB.out.trans ((HBD.out.trans ((HB2.out.trans hb3).mono hwd)).mono hw0)
            clear ho3 hb3 HO2 HB2 HH4 HH3
            go_wp2
            exact ⟨⟨O.length + 1, _, by omega, by go_num, FIN.out⟩, by simp [intOf]; omega⟩
        · obtain ⟨y, hy⟩ : ∃ y, O[t - 1]? = some y := ⟨_, List.getElem?_eq_getElem (by omega)⟩
          obtain ⟨g, cc, hgo, _, hg⟩ := owns_at HO.out hy
          injection hgo with e1 e2 e3
          subst e1
          subst e3
          have cy : wr.cell? ⟨g, t - 1, none⟩ = some (.string y) := bcell HTB.out hg
          clear hg e2
          obtain ⟨c, hc⟩ : ∃ c, cmpT y x = c := ⟨_, rfl⟩
          have CC : Hid (Calls Tryz.prog 52 #[.string y, .string x] wr.drew fun e w' => e = .returned (.int .i64 c) ∧ Below wr.heap.size wr w') := by
            refine (refCompare_any y x wr.drew (HOS.out y (List.mem_of_getElem? hy)) HXS.out).mono ?_
            rintro e w' ⟨rfl, hb⟩
            refine ⟨by rw [← hc]; rfl, ?_⟩
            exact Below.up (w1 := wr.drew) ⟨rfl, rfl, rfl, Nat.le_refl _, fun _ _ => rfl⟩ hb
          have HC : Hid (cmpT y x = c) := hc
          clear hc
          have tI : (1 : Int) ≤ (t : Int) := by omega
          have tN : ((t : Int) - 1) = ((t - 1 : Nat) : Int) := by omega
          go_wp2_with fail
          refine wp_region_any (by kernel_rfl) ?_
          change wpAny _ _ _ _ _ _ _ (World.drew _)
          refine wpAny_take (i := 0) (v := .int .i64 t) rfl (by kernel_rfl) (by kernel_rfl) (by kernel_rfl) (fun _ _ _ h => h) (Or.inl ⟨by kernel_rfl, ?_⟩) ?_
          · intro wz; go_simp
          refine wpAny_take (i := 1) (v := .bool true) rfl (by kernel_rfl) (by kernel_rfl) (by kernel_rfl) (fun _ _ _ h => h) (Or.inl ⟨by kernel_rfl, ?_⟩) ?_
          · intro wz; go_simp; omega
          refine wpAny_take (i := 2) (v := .bool true) rfl (by kernel_rfl) (by kernel_rfl) (by kernel_rfl) (fun _ _ _ h => h) (Or.inl ⟨by kernel_rfl, ?_⟩) ?_
          · intro wz; go_simp
          refine wpAny_take (i := 3) (v := .slice (some ⟨g, 0, none⟩) O.length co) rfl (by kernel_rfl) (by kernel_rfl) (by kernel_rfl) (fun _ _ _ h => h) (Or.inl ⟨by kernel_rfl, ?_⟩) ?_
          · intro wz; go_simp
          refine wpAny_take (i := 4) (v := .int .i64 t) rfl (by kernel_rfl) (by kernel_rfl) (by kernel_rfl) (fun _ _ _ h => h) (Or.inl ⟨by kernel_rfl, ?_⟩) ?_
          · intro wz; go_simp
          refine wpAny_take (i := 5) (v := .int .i64 ((t - 1 : Nat) : Int)) rfl (by kernel_rfl) (by kernel_rfl) (by kernel_rfl) (fun _ _ _ h => h) (Or.inl ⟨by kernel_rfl, ?_⟩) ?_
          · intro wz; go_simp; rw [IntKind.wrap_i64]; omega
          refine wpAny_take (i := 6) (v := .pointer (some ⟨g, t - 1, none⟩)) rfl (by kernel_rfl) (by kernel_rfl) (by kernel_rfl) (fun _ _ _ h => h) (Or.inl ⟨by kernel_rfl, ?_⟩) ?_
          · intro wz; go_simp; intro hq; omega
          refine wpAny_take (i := 8) (v := .slice (some a0) L.length cap) rfl (by kernel_rfl) (by kernel_rfl) (by kernel_rfl) (fun _ _ _ h => h) (Or.inl ⟨by kernel_rfl, ?_⟩) ?_
          · intro wz; go_simp
          refine wpAny_take (i := 9) (v := .int .i64 O.length) rfl (by kernel_rfl) (by kernel_rfl) (by kernel_rfl) (fun _ _ _ h => h) (Or.inl ⟨by kernel_rfl, ?_⟩) ?_
          · intro wz; go_simp
          refine wpAny_take (i := 10) (v := .pointer (some (a0.add O.length))) rfl (by kernel_rfl) (by kernel_rfl) (by kernel_rfl) (fun _ _ _ h => h) (Or.inl ⟨by kernel_rfl, ?_⟩) ?_
          · intro wz; go_simp
          try simp only [Act.put, List.getElem_toArray, List.getElem_cons_zero, List.getElem_cons_succ, List.setIfInBounds_toArray, List.set_cons_zero, List.set_cons_succ]
          refine wpAny_ready (rs := [7, 11]) (by kernel_rfl) (by simp) ?_
          refine AllReady.cons rfl (fun K' hK' => ?_) (AllReady.cons rfl (fun K' hK' => ?_) AllReady.nil)
          · go_simp
            refine hK' _ _ ?_
            clear hK' K'
            try simp only [Act.put, List.getElem_toArray, List.getElem_cons_zero, List.getElem_cons_succ, List.setIfInBounds_toArray, List.set_cons_zero, List.set_cons_succ]
            refine wpAny_ready (rs := [11]) (by kernel_rfl) (by simp) ?_
            refine AllReady.cons rfl (fun K' hK' => ?_) AllReady.nil
            go_simp
            refine hK' _ _ ?_
            clear hK' K'
            try simp only [Act.put, List.getElem_toArray, List.getElem_cons_zero, List.getElem_cons_succ, List.setIfInBounds_toArray, List.set_cons_zero, List.set_cons_succ]
            refine wpAny_ready (rs := [12]) (by kernel_rfl) (by simp) ?_
            refine AllReady.cons rfl (fun K' hK' => ?_) AllReady.nil
            go_simp
            refine CC.out.mono ?_
            rintro e wd ⟨rfl, hbd⟩
            have HBD : Hid (Below w0.heap.size w0 wd) := Below.up HTB.out hbd
            clear hbd
            refine hK' _ _ ?_
            clear hK' K'
            refine wpAny_take (i := 13) (v := .bool (decide (0 < c))) rfl (by kernel_rfl) (by kernel_rfl) (by kernel_rfl) (fun _ _ _ h => h) (Or.inl ⟨by kernel_rfl, ?_⟩) ?_
            · intro wz; go_simp
            refine wpAny_take (i := 14) (v := .bool (decide (0 < c))) rfl (by kernel_rfl) (by kernel_rfl) (by kernel_rfl) (fun _ _ _ h => h) (Or.inl ⟨by kernel_rfl, ?_⟩) ?_
            · intro wz; go_simp
            refine wpAny_done (by kernel_rfl) ?_ _
            try simp only [Act.put, List.getElem_toArray, List.getElem_cons_zero, List.getElem_cons_succ, List.setIfInBounds_toArray, List.set_cons_zero, List.set_cons_succ]
            by_cases hc0 : 0 < c
            · have HN : Hid (∀ z ∈ O.drop (t - 1), 0 < cmpT z x) := fun z hz => by
                rw [List.drop_eq_getElem_cons (show t - 1 < O.length by omega), show t - 1 + 1 = t by omega] at hz
                rcases List.mem_cons.1 hz with e | hz
                · obtain ⟨_, ey⟩ := List.getElem?_eq_some_iff.1 hy
                  rw [e, ey, HC.out]; exact hc0
                · exact HTD.out z hz
              go_wp2
              exact ⟨⟨t - 1, by omega, rfl, HN.out, HBD.out⟩, by simp [intOf]; omega⟩
            · have HT2 : Hid (t = 0 ∨ ∃ z, O[t - 1]? = some z ∧ cmpT z x ≤ 0) := .inr ⟨y, hy, by rw [HC.out]; omega⟩
              clear cx cy
              have hwd : w0.heap.size ≤ wd.heap.size := HBD.out.size
              have hw0 : w.heap.size ≤ w0.heap.size := HB.out.size
              obtain ⟨A, hA⟩ : ∃ A, (if co = t then some (⟨g, 0, none⟩ : Addr) else some (⟨g, t, none⟩ : Addr)) = A := ⟨_, rfl⟩
              have hA2 : (if co = t then some (⟨g, 0, none⟩ : Addr) else (some (⟨g, 0, none⟩ : Addr)).map (·.add t)) = A := by rw [Option.map_some, Addr.add_lit, Nat.zero_add]; exact hA
              have HOD : Hid (HasT wd (.slice (some ⟨g, 0, none⟩) O.length co) O) := HO.out.has.below HBD.out
              have HH1 : Hid (HasT wd (.slice (some ⟨g, 0, none⟩) t co) (O.take t)) := hasT_take HOD.out ht
              have HH3 : Hid (HasT wd (.slice A (O.length - t) (co - t)) (O.drop t)) := hasT_drop HOD.out ht hA2
              have htl : (O.take t).length = t := by rw [List.length_take]; omega
              have HTL := hid htl
              have hn1 : Hid (([] : List ByteArray).length + (O.take t).length ≤ 1048576) := by show _ ≤ _; rw [htl, List.length_nil]; omega
              have hn2 : Hid ((O.take t).length + [x].length ≤ 1048576) := by show _ ≤ _; rw [htl, List.length_singleton]; omega
              have hn3 : Hid ((O.take t ++ [x]).length + (O.drop t).length ≤ 1048576) := by show _ ≤ _; rw [List.length_append, htl, List.length_singleton, List.length_drop]; omega
              clear HOD htl
              clear hA2
              have cxd : wd.cell? (a0.add O.length) = some (.string x) := bcell HBD.out hca
              go_wp2_with (at_builtin; refine wpList_append_texts rfl _ _ rfl wd.heap.size _ _ [] (O.take t) rfl rfl (OwnsT.nil _ _) HH1.out hn1.out (Nat.le_refl _) ?_)
              intro v1 w1 ho1 hb1
              have HO1 : Hid (OwnsT w1 wd.heap.size v1 (O.take t)) := ho1
              have HB1 := hid hb1
              have cx1 : w1.cell? (a0.add O.length) = some (.string x) := bcell hb1 cxd
              have hz1 := hb1.size
              clear ho1 hb1 HH1
              obtain ⟨p1, k1, e1⟩ := row_form HO1.out
              rw [HTL.out] at e1
              subst e1
              go_wp2_with (at_builtin; refine wpList_append_texts rfl _ _ rfl wd.heap.size _ _ (O.take t) [x] rfl rfl (rowB1 HO1.out ((Below.refl _ _).alloc (Nat.le_refl _) _)) (hasT_one _ x) hn2.out (by simp; omega) ?_)
              intro v2 w2 ho2 hb2
              have HO2 := hid ho2
              have HB2 : Hid (Below wd.heap.size wd w2) := HB1.out.trans (((Below.refl _ w1).alloc (Nat.le_refl _) _).mono hz1 |>.trans hb2)
              have hz2 := HB2.out.size
              clear ho2 hb2 HO1 HB1 cx1
              obtain ⟨p2, k2, e2⟩ := row_form HO2.out
              subst e2
              have HH4 : Hid (HasT w2 (.slice A (O.length - t) (co - t)) (O.drop t)) := HH3.out.below HB2.out
              go_wp2_with (at_builtin; refine wpList_append_texts rfl _ _ rfl wd.heap.size _ _ (O.take t ++ [x]) (O.drop t) rfl rfl HO2.out HH4.out hn3.out hz2 ?_)
              intro v3 w3 ho3 hb3
              have FIN : Hid (OwnsT w3 w.heap.size v3 (O.take t ++ [x] ++ O.drop t) ∧ (O.take t ++ [x] ++ O.drop t).Perm (L.take (O.length + 1)) ∧ Srt (O.take t ++ [x] ++ O.drop t) ∧ Below w.heap.size w w3) := by
                have ho4 : OwnsT w3 wd.heap.size v3 (O.take t ++ [x] ++ O.drop t) := by simpa using ho3
                refine ⟨ho4.mono (Nat.le_trans hw0 hwd), ?_, srt_ins HSO.out ht HTD.out HT2.out, ?_⟩
                · rw [HXT.out]; exact perm_ins HP.out
                · exact HB.out.trans ((HBD.out.trans ((HB2.out.trans hb3).mono hwd)).mono hw0)
              clear ho3 hb3 HO2 HB2 HH4 HH3
              go_wp2
              exact ⟨⟨O.length + 1, _, by omega, by go_num, FIN.out⟩, by simp [intOf]; omega⟩
          · go_simp
            refine hK' _ _ ?_
            clear hK' K'
            try simp only [Act.put, List.getElem_toArray, List.getElem_cons_zero, List.getElem_cons_succ, List.setIfInBounds_toArray, List.set_cons_zero, List.set_cons_succ]
            refine wpAny_ready (rs := [7]) (by kernel_rfl) (by simp) ?_
            refine AllReady.cons rfl (fun K' hK' => ?_) AllReady.nil
            go_simp
            refine hK' _ _ ?_
            clear hK' K'
            try simp only [Act.put, List.getElem_toArray, List.getElem_cons_zero, List.getElem_cons_succ, List.setIfInBounds_toArray, List.set_cons_zero, List.set_cons_succ]
            refine wpAny_ready (rs := [12]) (by kernel_rfl) (by simp) ?_
            refine AllReady.cons rfl (fun K' hK' => ?_) AllReady.nil
            go_simp
            refine CC.out.mono ?_
            rintro e wd ⟨rfl, hbd⟩
            have HBD : Hid (Below w0.heap.size w0 wd) := Below.up HTB.out hbd
            clear hbd
            refine hK' _ _ ?_
            clear hK' K'
            refine wpAny_take (i := 13) (v := .bool (decide (0 < c))) rfl (by kernel_rfl) (by kernel_rfl) (by kernel_rfl) (fun _ _ _ h => h) (Or.inl ⟨by kernel_rfl, ?_⟩) ?_
            · intro wz; go_simp
            refine wpAny_take (i := 14) (v := .bool (decide (0 < c))) rfl (by kernel_rfl) (by kernel_rfl) (by kernel_rfl) (fun _ _ _ h => h) (Or.inl ⟨by kernel_rfl, ?_⟩) ?_
            · intro wz; go_simp
            refine wpAny_done (by kernel_rfl) ?_ _
            try simp only [Act.put, List.getElem_toArray, List.getElem_cons_zero, List.getElem_cons_succ, List.setIfInBounds_toArray, List.set_cons_zero, List.set_cons_succ]
            by_cases hc0 : 0 < c
            · have HN : Hid (∀ z ∈ O.drop (t - 1), 0 < cmpT z x) := fun z hz => by
                rw [List.drop_eq_getElem_cons (show t - 1 < O.length by omega), show t - 1 + 1 = t by omega] at hz
                rcases List.mem_cons.1 hz with e | hz
                · obtain ⟨_, ey⟩ := List.getElem?_eq_some_iff.1 hy
                  rw [e, ey, HC.out]; exact hc0
                · exact HTD.out z hz
              go_wp2
              exact ⟨⟨t - 1, by omega, rfl, HN.out, HBD.out⟩, by simp [intOf]; omega⟩
            · have HT2 : Hid (t = 0 ∨ ∃ z, O[t - 1]? = some z ∧ cmpT z x ≤ 0) := .inr ⟨y, hy, by rw [HC.out]; omega⟩
              clear cx cy
              have hwd : w0.heap.size ≤ wd.heap.size := HBD.out.size
              have hw0 : w.heap.size ≤ w0.heap.size := HB.out.size
              obtain ⟨A, hA⟩ : ∃ A, (if co = t then some (⟨g, 0, none⟩ : Addr) else some (⟨g, t, none⟩ : Addr)) = A := ⟨_, rfl⟩
              have hA2 : (if co = t then some (⟨g, 0, none⟩ : Addr) else (some (⟨g, 0, none⟩ : Addr)).map (·.add t)) = A := by rw [Option.map_some, Addr.add_lit, Nat.zero_add]; exact hA
              have HOD : Hid (HasT wd (.slice (some ⟨g, 0, none⟩) O.length co) O) := HO.out.has.below HBD.out
              have HH1 : Hid (HasT wd (.slice (some ⟨g, 0, none⟩) t co) (O.take t)) := hasT_take HOD.out ht
              have HH3 : Hid (HasT wd (.slice A (O.length - t) (co - t)) (O.drop t)) := hasT_drop HOD.out ht hA2
              have htl : (O.take t).length = t := by rw [List.length_take]; omega
              have HTL := hid htl
              have hn1 : Hid (([] : List ByteArray).length + (O.take t).length ≤ 1048576) := by show _ ≤ _; rw [htl, List.length_nil]; omega
              have hn2 : Hid ((O.take t).length + [x].length ≤ 1048576) := by show _ ≤ _; rw [htl, List.length_singleton]; omega
              have hn3 : Hid ((O.take t ++ [x]).length + (O.drop t).length ≤ 1048576) := by show _ ≤ _; rw [List.length_append, htl, List.length_singleton, List.length_drop]; omega
              clear HOD htl
              clear hA2
              have cxd : wd.cell? (a0.add O.length) = some (.string x) := bcell HBD.out hca
              go_wp2_with (at_builtin; refine wpList_append_texts rfl _ _ rfl wd.heap.size _ _ [] (O.take t) rfl rfl (OwnsT.nil _ _) HH1.out hn1.out (Nat.le_refl _) ?_)
              intro v1 w1 ho1 hb1
              have HO1 : Hid (OwnsT w1 wd.heap.size v1 (O.take t)) := ho1
              have HB1 := hid hb1
              have cx1 : w1.cell? (a0.add O.length) = some (.string x) := bcell hb1 cxd
              have hz1 := hb1.size
              clear ho1 hb1 HH1
              obtain ⟨p1, k1, e1⟩ := row_form HO1.out
              rw [HTL.out] at e1
              subst e1
              go_wp2_with (at_builtin; refine wpList_append_texts rfl _ _ rfl wd.heap.size _ _ (O.take t) [x] rfl rfl (rowB1 HO1.out ((Below.refl _ _).alloc (Nat.le_refl _) _)) (hasT_one _ x) hn2.out (by simp; omega) ?_)
              intro v2 w2 ho2 hb2
              have HO2 := hid ho2
              have HB2 : Hid (Below wd.heap.size wd w2) := HB1.out.trans (((Below.refl _ w1).alloc (Nat.le_refl _) _).mono hz1 |>.trans hb2)
              have hz2 := HB2.out.size
              clear ho2 hb2 HO1 HB1 cx1
              obtain ⟨p2, k2, e2⟩ := row_form HO2.out
              subst e2
              have HH4 : Hid (HasT w2 (.slice A (O.length - t) (co - t)) (O.drop t)) := HH3.out.below HB2.out
              go_wp2_with (at_builtin; refine wpList_append_texts rfl _ _ rfl wd.heap.size _ _ (O.take t ++ [x]) (O.drop t) rfl rfl HO2.out HH4.out hn3.out hz2 ?_)
              intro v3 w3 ho3 hb3
              have FIN : Hid (OwnsT w3 w.heap.size v3 (O.take t ++ [x] ++ O.drop t) ∧ (O.take t ++ [x] ++ O.drop t).Perm (L.take (O.length + 1)) ∧ Srt (O.take t ++ [x] ++ O.drop t) ∧ Below w.heap.size w w3) := by
                have ho4 : OwnsT w3 wd.heap.size v3 (O.take t ++ [x] ++ O.drop t) := by simpa using ho3
                refine ⟨ho4.mono (Nat.le_trans hw0 hwd), ?_, srt_ins HSO.out ht HTD.out HT2.out, ?_⟩
                · rw [HXT.out]; exact perm_ins HP.out
                · exact HB.out.trans ((HBD.out.trans ((HB2.out.trans hb3).mono hwd)).mono hw0)
              clear ho3 hb3 HO2 HB2 HH4 HH3
              go_wp2
              exact ⟨⟨O.length + 1, _, by omega, by go_num, FIN.out⟩, by simp [intOf]; omega⟩
    · obtain rfl : j = L.length := by omega
      have HF : Hid _ := HJ.out
      clear HJ
      go_wp2
      go_ret
      obtain ⟨h1, h2, h3, h4⟩ := HF.out
      rw [List.take_length] at h2
      exact ⟨⟨_, O, rfl, h1, h2, h3⟩, h4⟩
end Go.Proofs.YtnhnggnldhmepabGreatDoor
namespace Go.Proofs.YtnhnggnldhmepabGreatDoor
open Go.Shelf
def Tryz.sortL_ren : Go.Shelf.Ren := ⟨fun | 6 => 55 | 15 => 88 | 14 => 87 | 28 => 143 | 29 => 144 | 20 => 135 | 21 => 136 | 22 => 137 | 23 => 138 | 24 => 139 | 25 => 140 | 26 => 141 | 27 => 142 | 46 => 160 | 47 => 161 | 48 => 162 | 49 => 163 | 50 => 164 | 57 => 175 | n => n, fun | 22 => 27 | 24 => 9 | 25 => 78 | 3 => 3 | 39 => 129 | 0 => 0 | 53 => 180 | 55 => 182 | 4 => 4 | 46 => 173 | 45 => 172 | 50 => 177 | 5 => 5 | 9 => 9 | 66 => 197 | 70 => 201 | 76 => 204 | 77 => 205 | n => n, fun | n => n⟩
theorem Tryz.sortL : Go.Proofs.SlLaysF.n6 Tryz.prog Tryz.sortL_ren := {
  mixed := by kernel_rfl
  f6 := ⟨Tryz.f55.name, by decide, Tryz.func55.trans (congrArg some (by kernel_rfl))⟩
  f14 := ⟨Tryz.f87.name, by decide, Tryz.func87.trans (congrArg some (by kernel_rfl))⟩
  f15 := Tryz.func88.trans (congrArg some (by kernel_rfl))
  f20 := ⟨Tryz.f135.name, by decide, Tryz.func135.trans (congrArg some (by kernel_rfl))⟩
  f21 := ⟨Tryz.f136.name, by decide, Tryz.func136.trans (congrArg some (by kernel_rfl))⟩
  f22 := ⟨Tryz.f137.name, by decide, Tryz.func137.trans (congrArg some (by kernel_rfl))⟩
  f23 := ⟨Tryz.f138.name, by decide, Tryz.func138.trans (congrArg some (by kernel_rfl))⟩
  f24 := ⟨Tryz.f139.name, by decide, Tryz.func139.trans (congrArg some (by kernel_rfl))⟩
  f25 := ⟨Tryz.f140.name, by decide, Tryz.func140.trans (congrArg some (by kernel_rfl))⟩
  f26 := ⟨Tryz.f141.name, by decide, Tryz.func141.trans (congrArg some (by kernel_rfl))⟩
  f27 := ⟨Tryz.f142.name, by decide, Tryz.func142.trans (congrArg some (by kernel_rfl))⟩
  f28 := Tryz.func143.trans (congrArg some (by kernel_rfl))
  f29 := Tryz.func144.trans (congrArg some (by kernel_rfl))
  f46 := ⟨Tryz.f160.name, by decide, Tryz.func160.trans (congrArg some (by kernel_rfl))⟩
  f47 := Tryz.func161.trans (congrArg some (by kernel_rfl))
  f48 := Tryz.func162.trans (congrArg some (by kernel_rfl))
  f49 := ⟨Tryz.f163.name, by decide, Tryz.func163.trans (congrArg some (by kernel_rfl))⟩
  f50 := ⟨Tryz.f164.name, by decide, Tryz.func164.trans (congrArg some (by kernel_rfl))⟩
  f57 := ⟨Tryz.f175.name, by decide, Tryz.func175.trans (congrArg some (by kernel_rfl))⟩
  t0 := Tryz.underlying0
  a0 := Tryz.isAgg0
  z0 := Tryz.sizeOf0
  v0 := Tryz.zeroValue0
  t3 := Tryz.underlying3
  a3 := Tryz.isAgg3
  z3 := Tryz.sizeOf3
  v3 := Tryz.zeroValue3
  t4 := Tryz.underlying4
  a4 := Tryz.isAgg4
  z4 := Tryz.sizeOf4
  v4 := Tryz.zeroValue4
  t5 := Tryz.underlying5
  a5 := Tryz.isAgg5
  z5 := Tryz.sizeOf5
  v5 := Tryz.zeroValue5
  t9 := Tryz.underlying9
  a9 := Tryz.isAgg9
  z9 := Tryz.sizeOf9
  v9 := Tryz.zeroValue9
  t22 := Tryz.underlying27
  a22 := Tryz.isAgg27
  z22 := Tryz.sizeOf27
  v22 := Tryz.zeroValue27
  a24 := Tryz.isAgg9
  z24 := Tryz.sizeOf9
  t25 := Tryz.underlying78
  a25 := Tryz.isAgg78
  z25 := Tryz.sizeOf78
  v25 := Tryz.zeroValue78
  t39 := Tryz.underlying129
  a39 := Tryz.isAgg129
  z39 := Tryz.sizeOf129
  v39 := Tryz.zeroValue129
  t45 := Tryz.underlying172
  a45 := Tryz.isAgg172
  z45 := Tryz.sizeOf172
  v45 := Tryz.zeroValue172
  t46 := Tryz.underlying173
  a46 := Tryz.isAgg173
  z46 := Tryz.sizeOf173
  v46 := Tryz.zeroValue173
  t50 := Tryz.underlying177
  a50 := Tryz.isAgg177
  z50 := Tryz.sizeOf177
  v50 := Tryz.zeroValue177
  t53 := Tryz.underlying180
  a53 := Tryz.isAgg180
  z53 := Tryz.sizeOf180
  v53 := Tryz.zeroValue180
  t55 := Tryz.underlying182
  a55 := Tryz.isAgg182
  z55 := Tryz.sizeOf182
  v55 := Tryz.zeroValue182
  t66 := Tryz.underlying197
  a66 := Tryz.isAgg197
  z66 := Tryz.sizeOf197
  v66 := Tryz.zeroValue197
  t70 := Tryz.underlying201
  a70 := Tryz.isAgg201
  z70 := Tryz.sizeOf201
  v70 := Tryz.zeroValue201
  t76 := Tryz.underlying204
  a76 := Tryz.isAgg204
  z76 := Tryz.sizeOf204
  v76 := Tryz.zeroValue204
  t77 := Tryz.underlying205
  a77 := Tryz.isAgg205
  z77 := Tryz.sizeOf205
  v77 := Tryz.zeroValue205 }

open Go.RowKit Go.Sort Go.Lib

/-- A text that isn't too long (none: the empty one). -/
abbrev Tx := Option { s : ByteArray // s.size ≤ 1048576 ∧ 0 < s.size }
def tv (x : Tx) : ByteArray := match x with
  | none => ByteArray.empty
  | some y => y.1
theorem tv_le (x : Tx) : (tv x).size ≤ 1048576 := by
  cases x with
  | none => exact Nat.zero_le _
  | some y => exact y.2.1
theorem tv_inj {x y : Tx} (h : tv x = tv y) : x = y := by
  cases x with
  | none =>
    cases y with
    | none => rfl
    | some y =>
      exfalso
      have e : ByteArray.empty = y.1 := h
      have := y.2.2
      rw [← e] at this
      exact Nat.lt_irrefl _ this
  | some x =>
    cases y with
    | none =>
      exfalso
      have e : x.1 = ByteArray.empty := h
      have := x.2.2
      rw [e] at this
      exact Nat.lt_irrefl _ this
    | some y => exact congrArg some (Subtype.ext h)
theorem tv_of (s : ByteArray) (h : s.size ≤ 1048576) : ∃ x : Tx, tv x = s := by
  by_cases h0 : 0 < s.size
  · exact ⟨some ⟨s, h, h0⟩, rfl⟩
  · refine ⟨none, ?_⟩
    refine ext_of _ _ ?_
    have e : (tl s).length = 0 := by rw [tl_len]; omega
    have e2 : (tl (tv none)).length = 0 := by rw [tl_len]; rfl
    rw [List.length_eq_zero_iff.1 e, List.length_eq_zero_iff.1 e2]
theorem tvs_of : ∀ (l : List ByteArray), (∀ s ∈ l, s.size ≤ 1048576) → ∃ L : List Tx, L.map tv = l
  | [], _ => ⟨[], rfl⟩
  | s :: l, h => by
    obtain ⟨x, hx⟩ := tv_of s (h s (by simp))
    obtain ⟨L, hL⟩ := tvs_of l fun y hy => h y (by simp [hy])
    exact ⟨x :: L, by rw [List.map_cons, hx, hL]⟩
def encT (x : Tx) : Value := .string (tv x)
def cfT (x y : Tx) : Int := cmpT (tv x) (tv y)

theorem ltT (x y : Tx) : ltOf cfT x y = decide (cmpT (tv x) (tv y) < 0) := rfl

theorem swoT : SWO (ltOf cfT) where
  irrefl x := by
    rw [ltT]
    have : cmpT (tv x) (tv x) = 0 := cmpL_self _
    simp [this]
  trans x y z h1 h2 := by
    rw [ltT] at *
    simp only [decide_eq_true_eq] at *
    have h3 : cmpT (tv x) (tv z) ≤ 0 := cmpT_trans (by omega) (show cmpT (tv y) (tv z) ≤ 0 by omega)
    rcases Int.lt_or_eq_of_le h3 with h | h
    · exact h
    · exfalso
      have e : (tv x) = (tv z) := cmpT_eq h3 (by rw [cmpT_neg (tv x) (tv z)]; omega)
      rw [← e] at h2
      have := cmpT_neg (tv x) (tv y)
      omega
  ntrans x y z h1 h2 := by
    rw [ltT] at *
    simp only [decide_eq_false_iff_not] at *
    have a1 := cmpT_neg (tv x) (tv y)
    have a2 := cmpT_neg (tv y) (tv z)
    have a3 := cmpT_neg (tv x) (tv z)
    have : cmpT (tv z) (tv x) ≤ 0 := cmpT_trans (show cmpT (tv z) (tv y) ≤ 0 by omega) (by omega)
    omega

theorem totT (x y : Tx) (h1 : ltOf cfT x y = false) (h2 : ltOf cfT y x = false) : x = y := by
  rw [ltT] at *
  simp only [decide_eq_false_iff_not] at *
  have a1 := cmpT_neg (tv x) (tv y)
  exact tv_inj (cmpT_eq (by omega) (by omega))

theorem cmpReadsT (blk off size : Nat) (w : World) : CmpReads Tryz.prog 51 #[] encT cfT blk off size w := fun _ _ _ _ x y =>
  (compare_any (tv x) (tv y) _ (by have := tv_le x; omega) (by have := tv_le y; omega)).mono fun _ _ ⟨he, hd⟩ => ⟨he, hd⟩

theorem holdsT {w : World} {g : Nat} {cur : Array Value} {e : TypeId} {ss : List Tx} (hb : w.heap[g]? = some (.cells cur e (0, 0))) (ht : cur.toList.take ss.length = ss.map encT) : Holds encT w g 0 ss.toArray := by
  intro j hj
  have hj' : j < ss.length := by simpa using hj
  refine ⟨?_, by simp [World.frozen?, hb]⟩
  have h1 : (cur.toList.take ss.length)[j]? = (ss.map encT)[j]? := by rw [ht]
  rw [List.getElem?_take_of_lt hj'] at h1
  simp only [World.cell?, hb, Nat.zero_add]
  simp only [Option.isSome_none, Bool.false_eq_true, if_false]
  rw [← Array.getElem?_toList, h1]
  simp [hj']

theorem heap_sortedT {w : World} {g n : Nat} {os : Array Obj} {cur : Array Value} {e : TypeId} {fr : Nat × Nat} (d : Array Tx) (hb : w.heap[g]? = some (.cells cur e fr)) :
    (sortWorld encT w g 0 n d os).heap[g]? = some (.cells (putCells encT 0 d cur) e fr) := by
  have hg : g < w.heap.size := (Array.getElem?_eq_some_iff.1 hb).1
  unfold sortWorld
  rw [heap_grow_old _ _ (by simpa using hg)]
  simp [putRow, mapBlock, Sort.ahead, Array.getElem?_modify, hb, onCells]

theorem grownBy_sortedT {w : World} {g n : Nat} {os : Array Obj} (d : Array Tx) : w.grownBy (sortWorld encT w g 0 n d os) (some g) := by
  unfold sortWorld
  refine ⟨rfl, rfl, rfl, by simp, fun k hk hne => ?_⟩
  rw [heap_grow_old _ _ (by simpa using hk)]
  have : g ≠ k := fun e => hne (by rw [e])
  simp [putRow, mapBlock, Sort.ahead, Array.getElem?_modify, this]

theorem take_putCellsT (cur : Array Value) (ts : List Tx) (h : ts.length ≤ cur.size) : (putCells encT 0 ts.toArray cur).toList.take ts.length = ts.map encT := by
  apply List.ext_getElem?
  intro j
  by_cases hj : j < ts.length
  · rw [List.getElem?_take_of_lt hj, Array.getElem?_toList]
    simp [putCells, hj, show j < cur.size by omega]
  · rw [List.getElem?_take_eq_none (by omega), List.getElem?_eq_none (by simp; omega)]

/-- slices.SortFunc(v, Compare). -/
theorem sortFn_any (lo : Nat) (v : Value) (l : List ByteArray) (w : World) (hv : OwnsT w lo v l) (hs : ∀ s ∈ l, s.size ≤ 1048576) (hl : l.length ≤ 1000000) :
    Calls Tryz.prog 55 #[v, .func (.func 51) #[] #[]] w fun e w' => e = .returned (.tuple #[]) ∧ ∃ l', OwnsT w' lo v l' ∧ l'.Perm l ∧ Srt l' ∧ w.grownBy w' v.ownBlock := by
  obtain ⟨L, rfl⟩ := tvs_of l hs
  obtain ⟨h0, ⟨hnil, h1⟩ | ⟨g, cap, cur, hv', hbase, hb, h1, h2, h3, h4⟩⟩ := hv
  · subst hnil
    have e : L = [] := by simpa using h1
    subst e
    have hcon := AnyF.slices_SortFunc_none { Tryz.sortL with } none 0 (.func (.func 51) #[] #[]) w
    change Calls Tryz.prog 55 _ _ _ at hcon
    refine hcon.mono ?_
    rintro e w' ⟨rfl, rfl⟩
    exact ⟨rfl, [], OwnsT.nil _ _, by simp, by simp [Srt], rfl, rfl, rfl, Nat.le_refl _, fun _ _ _ => rfl⟩
  · subst hv'
    have eg : ∀ args w, (callFunc 51 args).run Tryz.prog w = .ok (.enter 51 args) w := enters_of Tryz.func51 (by kernel_rfl) rfl
    have h4' : cur.toList.take L.length = L.map encT := by
      have := h4
      simp only [List.length_map, Nat.mul_one, List.map_map] at this
      exact this
    have hln : L.length ≤ 1000000 := by simpa using hl
    have hcon := Any.slices_SortFunc_total Tryz.sortL encT (fun _ => rfl) cfT swoT 51 #[] g 0 cap L.toArray w eg (cmpReadsT g 0 _ w).lays (holdsT hb h4') (Array.getElem?_eq_some_iff.1 hb).1 (by simp; omega) totT
    change Calls Tryz.prog 55 _ _ _ at hcon
    have hz : L.toArray.size = (L.map tv).length := by simp
    rw [hz] at hcon
    refine hcon.mono ?_
    rintro e w' ⟨rfl, n, os, rfl⟩
    obtain ⟨M, hM⟩ : ∃ M, (L.mergeSort fun x y => !(ltOf cfT) y x) = M := ⟨_, rfl⟩
    have hp : M.Perm L := by rw [← hM]; exact List.mergeSort_perm _ _
    have hso : M.Pairwise fun x y => (!(ltOf cfT) y x) = true := by
      rw [← hM]
      refine List.pairwise_mergeSort (fun a b c h1 h2 => ?_) (fun a b => ?_) L
      · simp only [Bool.not_eq_true'] at *
        exact swoT.ntrans _ _ _ h2 h1
      · by_cases e : ltOf cfT b a = true
        · have : ltOf cfT a b = false := by
            rw [ltT] at *
            simp only [decide_eq_true_eq, decide_eq_false_iff_not] at *
            have := cmpT_neg (tv a) (tv b)
            omega
          simp [this]
        · simp [e]
    have hlen := hp.length_eq
    rw [show L.toArray.toList = L from rfl, hM]
    refine ⟨rfl, M.map tv, ⟨by simp, .inr ⟨g, cap, putCells encT 0 M.toArray cur, by simp [hlen], hbase, heap_sortedT _ hb, ?_, h2, by simp [putCells]; simpa using h3, ?_⟩⟩, hp.map _, ?_, grownBy_sortedT _⟩
    · simp [hlen]; simpa using h1
    · have h5 : M.length ≤ cur.size := by
        have := h3
        have : L.length ≤ cap := by simpa using h1
        omega
      rw [List.length_map, Nat.mul_one, take_putCellsT cur M h5, List.map_map]
      rfl
    · unfold Srt
      rw [List.pairwise_map]
      refine hso.imp ?_
      intro x y h
      rw [ltT] at h
      simp only [Bool.not_eq_true', decide_eq_false_iff_not] at h
      have := cmpT_neg (tv x) (tv y)
      omega
end Go.Proofs.YtnhnggnldhmepabGreatDoor
namespace Go.Proofs.YtnhnggnldhmepabGreatDoor
open Go.RowKit

set_option maxHeartbeats 4000000 in
set_option maxRecDepth 100000 in
theorem sorted_any (v : Value) (L : List ByteArray) (w : World) (hv : HasT w v L) (hl : L.length ≤ 100000) (hs : ∀ s ∈ L, s.size ≤ 1048576) :
    Calls Tryz.prog 20 #[v] w fun e w' => (∃ v' O, e = .returned v' ∧ OwnsT w' w.heap.size v' O ∧ O.Perm L ∧ Srt O) ∧ Below w.heap.size w w' := by
  have HV := hid hv
  have HS := hid hs
  obtain ⟨ao, cap, rfl, hcap⟩ := hv.form
  clear hv hs
  obtain ⟨i0, hi, hz0, hz1, hz2⟩ := info_parts Tryz.info9
  obtain ⟨n, hn⟩ : ∃ n, L.length = n := ⟨_, rfl⟩
  have hM : ∀ W : World, (Instr.makeSlice 27 (.int .i64 (n : Int)) (.int .i64 (n : Int))).run Tryz.prog W = .ok (.slice (some ⟨W.heap.size, 0, none⟩) n n) (W.alloc (.cells (madeCells #[.string ⟨#[]⟩] n) 9)) := by
    intro W
    have := run_make (P := Tryz.prog) W 27 9 i0 (.string ⟨#[]⟩) Tryz.underlying27 hi hz0 .i64 .i64 n n (by omega) (Int.le_refl _) (by rw [hz2]; omega) (by omega)
    rw [hz1] at this
    simpa [Value.cells] using this
  obtain ⟨wm, ewm⟩ : ∃ wm, w.alloc (.cells (madeCells #[.string ⟨#[]⟩] n) 9) = wm := ⟨_, rfl⟩
  have hg : wm.heap[w.heap.size]? = some (.cells (madeCells #[.string ⟨#[]⟩] n).toList.toArray 9 (0, 0)) := by rw [← ewm, Array.toArray_toList]; exact heap_alloc_new _ _
  have hbm : Below w.heap.size w wm := by rw [← ewm]; exact (Below.refl _ _).alloc (Nat.le_refl _) _
  have hcl : (madeCells #[.string ⟨#[]⟩] n).toList.length = n := by simp [madeCells]
  have HG := hid hg
  have HBM := hid hbm
  have HCL := hid hcl
  have HVM : Hid (HasT wm (.slice ao L.length cap) L) := HV.out.below hbm
  clear hg hbm hcl hz0 hz1 hz2 hi
  have hM' : ∀ W : World, W = w → (Instr.makeSlice 27 (.int .i64 (n : Int)) (.int .i64 (n : Int))).run Tryz.prog W = .ok (.slice (some ⟨w.heap.size, 0, none⟩) n n) wm := fun W hW => by subst hW; rw [hM, ewm]
  have hMw := hM' w rfl
  clear hM hM' ewm
  rw [hn]
  have h61 : (Tryz.prog.info? 9).map (·.size) = some 1 := by kernel_rfl
  have hpos : 0 < (L.map Value.string).length → some (⟨w.heap.size, 0, none⟩ : Addr) = some ⟨w.heap.size, 0, none⟩ ∧ ∃ ad, ao = some ad ∧ ∀ j u, (L.map Value.string)[j]? = some u → wm.cell? (ad.add j) = some u := fun hp => by
    refine ⟨rfl, ?_⟩
    rcases HVM.out with ⟨_, e⟩ | ⟨a, c, e, _, hc⟩
    · subst e; simp at hp
    · injection e with e1 e2 e3
      refine ⟨a, e1, fun j u hj => ?_⟩
      rw [List.getElem?_map] at hj
      obtain ⟨x, hx, rfl⟩ := Option.map_eq_some_iff.1 hj
      exact hc j x hx
  have HP := hid hpos
  clear hpos
  go_enter Tryz.func20, Tryz.ntmps20
  go_wp2_with (refine wpList_copy_splice rfl (.tmp 7) (.tmp 8) 27 27 rfl 9 Tryz.underlying27 h61 _ _ n n n cap rfl rfl w.heap.size 0 (madeCells #[.string ⟨#[]⟩] n).toList 9 HG.out (L.map Value.string) ?d1 HP.out ?d2 ?d3 w.heap.size w HBM.out (Nat.le_refl _) ?_)
  try (case d1 => simp [hn])
  case d2 => simp [size_madeCells]
  case d3 => intro u hu; first | rfl | (obtain ⟨x, _, rfl⟩ := List.mem_map.1 hu; rfl)
  intro w1 hg1 hb1
  have HO1 : Hid (OwnsT w1 w.heap.size (.slice (some ⟨w.heap.size, 0, none⟩) n n) L) := by
    have e : splice (madeCells #[.string ⟨#[]⟩] n).toList 0 (L.map Value.string) = L.map Value.string := by
      have := HCL.out
      unfold splice
      rw [List.take_zero, List.nil_append, List.drop_eq_nil_of_le (by simp [hn, size_madeCells]), List.append_nil]
    have hg2 := hg1.out
    rw [e] at hg2
    refine ⟨by simp, .inr ⟨w.heap.size, n, _, by rw [hn], Nat.le_refl _, hg2, by omega, by unfold maxLen; omega, by simp [hn], by rw [Nat.mul_one, List.take_of_length_le (by simp [hn])]⟩⟩
  have HB1 := hid hb1
  clear hg1 hb1 HG HP HVM HBM HCL
  have CS := hid (sortFn_any w.heap.size _ L w1 HO1.out HS.out (by omega))
  go_wp2_with fail
  refine CS.out.mono ?_
  rintro e w2 ⟨rfl, l', ho, hp, hso, hg⟩
  have FIN : Hid (OwnsT w2 w.heap.size (.slice (some ⟨w.heap.size, 0, none⟩) n n) l' ∧ l'.Perm L ∧ Srt l' ∧ Below w.heap.size w w2) :=
    ⟨ho, hp, hso, HB1.out.trans ((Below.refl _ w1).grown hg HB1.out.size fun k hk => (World.ownsRow.lt HO1.out k hk).1)⟩
  clear ho hp hso hg CS
  go_wp2
  go_ret
  exact ⟨⟨_, l', rfl, FIN.out.1, FIN.out.2.1, FIN.out.2.2.1⟩, FIN.out.2.2.2⟩
end Go.Proofs.YtnhnggnldhmepabGreatDoor
