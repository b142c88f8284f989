/-
  the reference's pattern.
-/
import Derived.Test.YtpngnhpnjkepjaaGreatDoorRefSplit
import Derived.Test.YtpngnhpnjkepjaaGreatDoorRefNames
namespace Go.Proofs.YtpngnhpnjkepjaaGreatDoor
open Go.RowKit

theorem allStars_none {ps : List By} {p : By} (hp : p ∈ ps) (h : signsOf p = none) : allStars ps = none := by
  cases e : allStars ps with
  | none => rfl
  | some k =>
    obtain ⟨L, hL⟩ := allStars_some e p hp
    rw [h] at hL; cases hL
theorem stars_snoc (K : List Sg) (k : Nat) (x : Sg) (h : K[k]? = some x) : stars (K.take (k + 1)) = stars (K.take k) + if x = none then 1 else 0 := by
  have h1 := List.take_add_one (l := K) (i := k)
  rw [h1, h]
  show List.count none (K.take k ++ [x]) = _
  rw [List.count_append]
  congr 1
  rcases x with _ | x
  · simp
  · simp
theorem trimmed_len (l : By) : (trimmed l).length ≤ l.length := by
  unfold trimmed
  split
  · simp
  · split <;> simp

def srN (o : Option Nat) : Bool := match o with | none => false | some k => decide (k ≤ 8)
theorem srB_eq (l : By) : srB l = srN (allStars (cuts l)) := by
  rw [← scan_cuts _ _ (Nat.le_refl _)]
  unfold srB srN
  cases scan false 0 l <;> rfl
/-- what pattern answers -/
def PatR (l : By) (w : World) (e : Ending) (w' : World) : Prop :=
  ((patOK l = true ∧ ∃ v L, e = .returned (.tuple #[v, .bool (decide ((47 : UInt8) ∈ l)), .bool true]) ∧ OwnsT w' w.heap.size v L ∧ L.map tl = cuts (trimmed l)) ∨ (patOK l = false ∧ ∃ ao n cap b, e = .returned (.tuple #[.slice ao n cap, .bool b, .bool false]))) ∧ Below w.heap.size w w'
theorem PatR.bad {l : By} {w w' : World} {ao : Option Addr} {n cap : Nat} {b : Bool} (h : patOK l = false) (hb : Below w.heap.size w w') : PatR l w (.returned (.tuple #[.slice ao n cap, .bool b, .bool false])) w' := ⟨.inr ⟨h, _, _, _, _, rfl⟩, hb⟩
/-- what the loop over the pieces knows -/
def PatI (P : List By) (i st : Nat) : Prop := allStars P = (allStars (P.drop i)).map (st + ·) ∧ ∀ j, j < i → P[j]? ≠ some []
theorem PatI.zero (P : List By) : PatI P 0 0 := by
  refine ⟨?_, fun j h => absurd h (Nat.not_lt_zero _)⟩
  rw [List.drop_zero]
  cases allStars P <;> simp
theorem PatI.next {P : List By} {i st : Nat} {p : By} {K : List Sg} (h : PatI P i st) (hp : P[i]? = some p) (hK : signsOf p = some K) (h0 : p ≠ []) : PatI P (i + 1) (st + stars K) := by
  obtain ⟨h1, h2⟩ := h
  obtain ⟨hi, hi2⟩ := List.getElem?_eq_some_iff.1 hp
  refine ⟨?_, fun j hj => ?_⟩
  · rw [h1, List.drop_eq_getElem_cons hi, hi2, allStars, hK]
    cases allStars (P.drop (i + 1)) with
    | none => rfl
    | some m => simp; omega
  · by_cases e : j = i
    · subst e; rw [hp]; simpa using h0
    · exact h2 j (by omega)
theorem PatI.done {P : List By} {st : Nat} (h : PatI P P.length st) : allStars P = some st ∧ ([] : By) ∉ P := by
  obtain ⟨h1, h2⟩ := h
  rw [List.drop_length, allStars] at h1
  refine ⟨by rw [h1]; simp, fun hm => ?_⟩
  obtain ⟨j, hj, e⟩ := List.mem_iff_getElem.1 hm
  exact h2 j hj (by rw [List.getElem?_eq_getElem hj, e])

set_option maxHeartbeats 4000000 in
set_option maxRecDepth 100000 in
theorem pattern_any (s : ByteArray) (w : World) (hs : s.size ≤ 1048576) :
    Calls Tryz.prog 41 #[.string s] w fun e w' => PatR (tl s) w e w' := by
  have hlen := tl_len s
  have C58 := fun x W h => refSigns_any x W h
  have HP : Hid (patOK (tl s) = (decide (trimmed (tl s) ≠ [] ∧ s.size ≤ 255) && srB (trimmed (tl s)) && decide (([] : By) ∉ cuts (trimmed (tl s))))) := by show _ = _; unfold patOK; rw [hlen]
  by_cases h1 : s.size < 1
  · have i1 : (s.size : Int) < 1 := by omega
    have HF : Hid (patOK (tl s) = false) := by
      show _ = _
      have : tl s = [] := List.length_eq_zero_iff.1 (by omega)
      rw [HP.out, this]; rfl
    clear HP
    go_enter Tryz.func41, Tryz.ntmps41
    go_wp2
    go_ret3
    exact PatR.bad HF.out (Below.refl _ _)
  · have i1 : ¬ ((s.size : Int) < 1) := by omega
    by_cases h2 : 255 < s.size
    · have i2 : (255 : Int) < (s.size : Int) := by omega
      have HF : Hid (patOK (tl s) = false) := by
        show _ = _
        rw [HP.out, decide_eq_false (fun q => by omega)]; rfl
      clear HP
      go_enter Tryz.func41, Tryz.ntmps41
      go_wp2
      go_ret3
      exact PatR.bad HF.out (Below.refl _ _)
    · have i2 : ¬ ((255 : Int) < (s.size : Int)) := by omega
      go_enter Tryz.func41, Tryz.ntmps41
      go_wp2
      go_loop [5, 6] (fun x y => ∃ (d : Bool) (k : Nat), x = .bool d ∧ y = .int .i64 k ∧ k ≤ s.size ∧ Hid (d = decide ((47 : UInt8) ∈ (tl s).take k))) (fun _ y => s.size - iOf y)
      case atStart => exact ⟨false, 0, rfl, rfl, Nat.zero_le _, by show _ = _; simp⟩
      case round =>
        obtain ⟨d, k, rfl, rfl, hk, HD⟩ := hrel
        by_cases hlt : k < s.size
        · have i3 : (k : Int) < (s.size : Int) := by omega
          have htk : (tl s).take (k + 1) = (tl s).take k ++ [s[k]'hlt] := by rw [List.take_add_one, tl_at s k hlt]; rfl
          obtain ⟨b, hb⟩ : ∃ b, (((s[k]'hlt).toNat : Int) == 47) = b := ⟨_, rfl⟩
          have HD2 : Hid ((d || b) = decide ((47 : UInt8) ∈ (tl s).take (k + 1))) := by
            show _ = _
            rw [HD.out, htk, ← hb]
            simp only [List.mem_append, List.mem_singleton, Bool.decide_or]
            congr 1
            by_cases e : s[k]'hlt = 47
            · rw [e]; rfl
            · rw [decide_eq_false (fun q => e q.symm), beq_eq_false_iff_ne]
              intro q; exact e (UInt8.toNat_inj.1 (by show (s[k]'hlt).toNat = 47; omega))
          clear htk HD
          cases d
          · rw [Bool.false_or] at HD2
            go_wp2
            exact ⟨⟨b, k + 1, rfl, rfl, by omega, HD2⟩, by simp; omega⟩
          · rw [Bool.true_or] at HD2
            go_wp2
            exact ⟨⟨true, k + 1, rfl, rfl, by omega, HD2⟩, by simp; omega⟩
        · have i3 : ¬ ((k : Int) < (s.size : Int)) := by omega
          have HD2 : Hid (d = decide ((47 : UInt8) ∈ tl s)) := by
            show _ = _
            rw [HD.out, List.take_of_length_le (by omega)]
          clear HD hk
          have h0 : 0 < s.size := by omega
          have i4 : (0 : Int) < (s.size : Int) := by omega
          have i5 : (1 : Int) ≤ (s.size : Int) := by omega
          have hd0 : tl s = s[0]'h0 :: (tl s).drop 1 := by
            have e0 := tl_at s 0 h0
            have e1 := List.drop_eq_getElem_cons (l := tl s) (i := 0) (by omega)
            rw [List.getElem?_eq_getElem (by omega)] at e0
            rw [Option.some.inj e0, List.drop_zero] at e1
            exact e1
          by_cases e : s[0]'h0 = 47
          · have hb : (((s[0]'h0).toNat : Int) == 47) = true := by rw [e]; rfl
            have HT : Hid (tl (s.extract 1 s.size) = trimmed (tl s)) := by
              show _ = _
              have e2 : trimmed (tl s) = (tl s).drop 1 := by
                conv => lhs; rw [hd0, e]
                rfl
              rw [e2, tl_extract, List.take_of_length_le (by rw [List.length_drop]; omega)]
            have hts : (s.extract 1 s.size).size ≤ s.size := by simp
            clear hd0
            rw [← HT.out] at HP
            have C28 := pieces_any (s.extract 1 s.size) w (by have := hts; omega)
            have hlt2 := tl_len (s.extract 1 s.size)
            clear e
            go_wp2_with fail
            refine C28.mono ?_
            rintro e w1 ⟨v, L, rfl, hown, hL, b1⟩
            have HO : Hid (OwnsT w1 w.heap.size v L) := hown
            have HB : Hid (Below w.heap.size w w1) := b1
            have HQ : Hid (L.map tl = pieces (tl (s.extract 1 s.size))) := hL
            have hLn : L.length ≤ 256 := by
              rw [← List.length_map (f := tl), hL]
              have := pieces_len' (tl (s.extract 1 s.size)); omega
            obtain ⟨ao, cap, hv, _⟩ := hown.has.form
            subst hv
            clear C28 hown hL b1
            by_cases hn : L = []
            · have HF : Hid (patOK (tl s) = false) := by
                show _ = _
                rw [HP.out]
                have h2 := HQ.out
                rw [hn] at h2
                have h3 : tl (s.extract 1 s.size) = [] := by
                  by_cases q : tl (s.extract 1 s.size) = []
                  · exact q
                  · unfold pieces at h2; rw [if_neg q] at h2; simp [cuts] at h2
                rw [h3]; rfl
              subst hn
              clear HP HT
              go_wp2
              go_ret3
              exact PatR.bad HF.out HB.out
            · have hn2 : 0 < L.length := List.length_pos_iff.2 hn
              have z0 : ((L.length : Int) == 0) = false := by rw [beq_eq_false_iff_ne]; omega
              have HC : Hid (L.map tl = cuts (tl (s.extract 1 s.size))) := by
                show _ = _
                have h2 := HQ.out
                unfold pieces at h2
                split at h2
                · exact absurd (by simpa using h2) hn
                · exact h2
              have HP2 : Hid (patOK (tl s) = (srB (tl (s.extract 1 s.size)) && decide (([] : By) ∉ L.map tl))) := by
                show _ = _
                rw [HP.out, HC.out, decide_eq_true (p := tl (s.extract 1 s.size) ≠ [] ∧ s.size ≤ 255) ⟨fun q => by rw [HQ.out, q] at HC; have := HC.out; simp [pieces, cuts] at this, by omega⟩, Bool.true_and]
              have HSR : Hid (srB (tl (s.extract 1 s.size)) = srN (allStars (L.map tl))) := by
                show _ = _
                rw [srB_eq, HC.out]
              have HXS : Hid (∀ x ∈ L, x.size ≤ 255) := by
                intro x hx
                rw [← tl_len x]
                have := pieces_small' (tl (s.extract 1 s.size)) (tl x) (by rw [← HQ.out]; exact List.mem_map_of_mem hx)
                have := hts
                omega
              clear hn HP HQ
              go_wp2
              go_loopw [8, 9] (fun x y wr => ∃ (st i : Nat), x = .int .i64 st ∧ y = .int .i64 i ∧ i ≤ L.length ∧ st ≤ 255 * i ∧ Hid (PatI (L.map tl) i st) ∧ Hid (Below w1.heap.size w1 wr)) (fun _ y _ => L.length - iOf y)
              case atStart => exact ⟨0, 0, rfl, rfl, Nat.zero_le _, Nat.zero_le _, PatI.zero _, Below.refl _ _⟩
              case round =>
                obtain ⟨st, i, rfl, rfl, hi, hst, HI, HB3⟩ := hrel
                by_cases hlt : i < L.length
                · have i6 : (i : Int) < (L.length : Int) := by omega
                  obtain ⟨x, hx⟩ : ∃ x, L[i]? = some x := ⟨_, List.getElem?_eq_getElem hlt⟩
                  obtain ⟨a0, _, hva, hca⟩ := (HO.out.has.below HB3.out).at hx
                  simp at hva
                  obtain ⟨rfl, rfl⟩ := hva
                  have hxs := HXS.out x (List.mem_of_getElem? hx)
                  have hx2 : (L.map tl)[i]? = some (tl x) := by rw [List.getElem?_map, hx]; rfl
                  have CX := C58 x wr (by omega)
                  have HX : Hid ((L.map tl)[i]? = some (tl x)) := hx2
                  have HX1 : Hid (L[i]? = some x) := hx
                  clear hx hx2
                  go_wp2_with fail
                  refine CX.mono ?_
                  rintro e w2 ⟨⟨vx, K, hK, rfl, hown, hKl⟩ | ⟨hno, rfl⟩, b2⟩
                  · have HK : Hid (signsOf (tl x) = some K) := hK
                    have HB4 : Hid (Below w1.heap.size w1 w2) := Below.up HB3.out b2
                    have HO4 : Hid (HasK w2 vx K) := hown.has
                    have hca2 : w2.cell? (a0.add i) = some (.string x) := by
                      rw [b2.cell (World.block_lt_of_cell? _ _ hca)]; exact hca
                    obtain ⟨co, cap3, hvx⟩ := hown.has.form
                    subst hvx
                    clear hK hown b2 CX hca HB3
                    by_cases hx0 : x.size = 0
                    · have z1 : ((x.size : Int) == 0) = true := by rw [hx0]; rfl
                      have HF : Hid (patOK (tl s) = false) := by
                        show _ = _
                        have h3 : tl x = [] := List.length_eq_zero_iff.1 (by rw [tl_len]; exact hx0)
                        rw [HP2.out, decide_eq_false (fun q => q (by rw [← h3]; exact List.mem_of_getElem? HX.out)), Bool.and_false]
                      clear HI
                      go_wp2
                      go_ret3
                      exact PatR.bad HF.out (Below.up HB.out HB4.out)
                    · have z1 : ((x.size : Int) == 0) = false := by rw [beq_eq_false_iff_ne]; omega
                      have HI2 : Hid (PatI (L.map tl) (i + 1) (st + stars K)) := HI.out.next HX.out HK.out (fun q => hx0 (by rw [← tl_len x, q]; rfl))
                      have hsk : stars K ≤ 255 := by
                        have : stars K ≤ K.length := List.count_le_length
                        omega
                      clear HI
                      go_wp2
                      go_loop [8, 12] (fun x y => ∃ (q : Nat), x = .int .i64 ((st + stars (K.take q) : Nat) : Int) ∧ y = .int .i64 q ∧ q ≤ K.length) (fun _ y => K.length - iOf y)
                      case atStart => exact ⟨0, by simp [stars], rfl, Nat.zero_le _⟩
                      case round =>
                        obtain ⟨q, rfl, rfl, hq⟩ := hrel
                        by_cases hql : q < K.length
                        · have i7 : (q : Int) < (K.length : Int) := by omega
                          obtain ⟨y, hy⟩ : ∃ y, K[q]? = some y := ⟨_, List.getElem?_eq_getElem hql⟩
                          obtain ⟨g, _, hvg, hcg⟩ := HO4.out.at hy
                          simp at hvg
                          obtain ⟨rfl, rfl⟩ := hvg
                          have hsn := stars_snoc K q y hy
                          have hle : stars (K.take q) ≤ 255 := by
                            have h4 : stars (K.take q) ≤ (K.take q).length := List.count_le_length
                            rw [List.length_take] at h4
                            omega
                          obtain ⟨z, hz⟩ : ∃ z, stars (K.take q) = z := ⟨_, rfl⟩
                          rw [hz] at hsn hle
                          rcases y with _ | y
                          · have s0 : w2.cell? ⟨g, q * 3, none⟩ = some (.bool true) := hcg 0 _ rfl
                            have HSN : Hid (stars (K.take (q + 1)) = z + 1) := hsn
                            have HZ : Hid (stars (K.take q) = z) := hz
                            rw [hz]
                            clear hcg hy hsn hz
                            go_wp2
                            exact ⟨⟨q + 1, by rw [HSN.out]; go_num, rfl, by omega⟩, by simp; omega⟩
                          · have s0 : w2.cell? ⟨g, q * 3, none⟩ = some (.bool false) := by rcases y with _ | y <;> exact hcg 0 _ rfl
                            have HSN : Hid (stars (K.take (q + 1)) = z) := hsn
                            rw [hz]
                            clear hcg hy hsn hz
                            go_wp2
                            exact ⟨⟨q + 1, by rw [HSN.out], rfl, by omega⟩, by simp; omega⟩
                        · have i7 : ¬ ((q : Int) < (K.length : Int)) := by omega
                          have hqe : K.take q = K := List.take_of_length_le (by omega)
                          rw [hqe]
                          clear hqe
                          go_wp2
                          go_roundw
                          case rel => exact ⟨st + stars K, i + 1, rfl, rfl, by omega, by omega, HI2, HB4⟩
                          case measure => simp; omega
                  · have HF : Hid (patOK (tl s) = false) := by
                      show _ = _
                      rw [HP2.out, HSR.out, allStars_none (List.mem_of_getElem? HX.out) hno]; rfl
                    have HB4 : Hid (Below w1.heap.size w1 w2) := Below.up HB3.out b2
                    clear hno b2 CX HI
                    go_wp2
                    go_ret3
                    exact PatR.bad HF.out (Below.up HB.out HB4.out)
                · have i6 : ¬ ((i : Int) < (L.length : Int)) := by omega
                  have hie : i = L.length := by omega
                  have HE : Hid (allStars (L.map tl) = some st ∧ ([] : By) ∉ L.map tl) := by
                    have h5 := HI.out
                    rw [hie, ← List.length_map (f := tl)] at h5
                    exact h5.done
                  have HP3 : Hid (patOK (tl s) = decide (st ≤ 8)) := by
                    show _ = _
                    rw [HP2.out, HSR.out, HE.out.1, decide_eq_true HE.out.2, Bool.and_true]; rfl
                  have HO5 : Hid (OwnsT wr w.heap.size (.slice ao L.length cap) L) := by
                    obtain ⟨q1, q | ⟨g, cp, cur, q2, q3, q4, q5⟩⟩ := HO.out
                    · exact ⟨q1, .inl q⟩
                    · refine ⟨q1, .inr ⟨g, cp, cur, q2, q3, ?_, q5⟩⟩
                      rw [HB3.out.block g (Array.getElem?_eq_some_iff.1 q4).1]; exact q4
                  clear HI hie
                  by_cases h8 : st ≤ 8
                  · have i8 : (st : Int) ≤ 8 := by omega
                    go_wp2
                    go_ret3
                    refine ⟨.inl ⟨by rw [HP3.out]; exact decide_eq_true h8, _, L, ?_, HO5.out, HC.out.trans (congrArg cuts HT.out)⟩, Below.up HB.out HB3.out⟩
                    rw [← HD2.out]; rfl
                  · have i8 : ¬ ((st : Int) ≤ 8) := by omega
                    go_wp2
                    go_ret3
                    exact PatR.bad (by rw [HP3.out]; exact decide_eq_false h8) (Below.up HB.out HB3.out)
          · have hb : (((s[0]'h0).toNat : Int) == 47) = false := by
              rw [beq_eq_false_iff_ne]
              intro q; exact e (UInt8.toNat_inj.1 (by show (s[0]'h0).toNat = 47; omega))
            have HT : Hid (tl s = trimmed (tl s)) := by
              show _ = _
              have e2 : trimmed (s[0]'h0 :: (tl s).drop 1) = s[0]'h0 :: (tl s).drop 1 := by
                show (if s[0]'h0 = 47 then _ else _) = _
                rw [if_neg e]
              rw [← hd0] at e2
              exact e2.symm
            have hts : s.size ≤ s.size := Nat.le_refl _
            clear hd0
            rw [← HT.out] at HP
            have C28 := pieces_any s w (by have := hts; omega)
            have hlt2 := tl_len s
            clear e
            go_wp2_with fail
            refine C28.mono ?_
            rintro e w1 ⟨v, L, rfl, hown, hL, b1⟩
            have HO : Hid (OwnsT w1 w.heap.size v L) := hown
            have HB : Hid (Below w.heap.size w w1) := b1
            have HQ : Hid (L.map tl = pieces (tl s)) := hL
            have hLn : L.length ≤ 256 := by
              rw [← List.length_map (f := tl), hL]
              have := pieces_len' (tl s); omega
            obtain ⟨ao, cap, hv, _⟩ := hown.has.form
            subst hv
            clear C28 hown hL b1
            by_cases hn : L = []
            · have HF : Hid (patOK (tl s) = false) := by
                show _ = _
                rw [HP.out]
                have h2 := HQ.out
                rw [hn] at h2
                have h3 : tl s = [] := by
                  by_cases q : tl s = []
                  · exact q
                  · unfold pieces at h2; rw [if_neg q] at h2; simp [cuts] at h2
                rw [h3]; rfl
              subst hn
              clear HP HT
              go_wp2
              go_ret3
              exact PatR.bad HF.out HB.out
            · have hn2 : 0 < L.length := List.length_pos_iff.2 hn
              have z0 : ((L.length : Int) == 0) = false := by rw [beq_eq_false_iff_ne]; omega
              have HC : Hid (L.map tl = cuts (tl s)) := by
                show _ = _
                have h2 := HQ.out
                unfold pieces at h2
                split at h2
                · exact absurd (by simpa using h2) hn
                · exact h2
              have HP2 : Hid (patOK (tl s) = (srB (tl s) && decide (([] : By) ∉ L.map tl))) := by
                show _ = _
                rw [HP.out, HC.out, decide_eq_true (p := tl s ≠ [] ∧ s.size ≤ 255) ⟨fun q => by rw [HQ.out, q] at HC; have := HC.out; simp [pieces, cuts] at this, by omega⟩, Bool.true_and]
              have HSR : Hid (srB (tl s) = srN (allStars (L.map tl))) := by
                show _ = _
                rw [srB_eq, HC.out]
              have HXS : Hid (∀ x ∈ L, x.size ≤ 255) := by
                intro x hx
                rw [← tl_len x]
                have := pieces_small' (tl s) (tl x) (by rw [← HQ.out]; exact List.mem_map_of_mem hx)
                have := hts
                omega
              clear hn HP HQ
              go_wp2
              go_loopw [8, 9] (fun x y wr => ∃ (st i : Nat), x = .int .i64 st ∧ y = .int .i64 i ∧ i ≤ L.length ∧ st ≤ 255 * i ∧ Hid (PatI (L.map tl) i st) ∧ Hid (Below w1.heap.size w1 wr)) (fun _ y _ => L.length - iOf y)
              case atStart => exact ⟨0, 0, rfl, rfl, Nat.zero_le _, Nat.zero_le _, PatI.zero _, Below.refl _ _⟩
              case round =>
                obtain ⟨st, i, rfl, rfl, hi, hst, HI, HB3⟩ := hrel
                by_cases hlt : i < L.length
                · have i6 : (i : Int) < (L.length : Int) := by omega
                  obtain ⟨x, hx⟩ : ∃ x, L[i]? = some x := ⟨_, List.getElem?_eq_getElem hlt⟩
                  obtain ⟨a0, _, hva, hca⟩ := (HO.out.has.below HB3.out).at hx
                  simp at hva
                  obtain ⟨rfl, rfl⟩ := hva
                  have hxs := HXS.out x (List.mem_of_getElem? hx)
                  have hx2 : (L.map tl)[i]? = some (tl x) := by rw [List.getElem?_map, hx]; rfl
                  have CX := C58 x wr (by omega)
                  have HX : Hid ((L.map tl)[i]? = some (tl x)) := hx2
                  have HX1 : Hid (L[i]? = some x) := hx
                  clear hx hx2
                  go_wp2_with fail
                  refine CX.mono ?_
                  rintro e w2 ⟨⟨vx, K, hK, rfl, hown, hKl⟩ | ⟨hno, rfl⟩, b2⟩
                  · have HK : Hid (signsOf (tl x) = some K) := hK
                    have HB4 : Hid (Below w1.heap.size w1 w2) := Below.up HB3.out b2
                    have HO4 : Hid (HasK w2 vx K) := hown.has
                    have hca2 : w2.cell? (a0.add i) = some (.string x) := by
                      rw [b2.cell (World.block_lt_of_cell? _ _ hca)]; exact hca
                    obtain ⟨co, cap3, hvx⟩ := hown.has.form
                    subst hvx
                    clear hK hown b2 CX hca HB3
                    by_cases hx0 : x.size = 0
                    · have z1 : ((x.size : Int) == 0) = true := by rw [hx0]; rfl
                      have HF : Hid (patOK (tl s) = false) := by
                        show _ = _
                        have h3 : tl x = [] := List.length_eq_zero_iff.1 (by rw [tl_len]; exact hx0)
                        rw [HP2.out, decide_eq_false (fun q => q (by rw [← h3]; exact List.mem_of_getElem? HX.out)), Bool.and_false]
                      clear HI
                      go_wp2
                      go_ret3
                      exact PatR.bad HF.out (Below.up HB.out HB4.out)
                    · have z1 : ((x.size : Int) == 0) = false := by rw [beq_eq_false_iff_ne]; omega
                      have HI2 : Hid (PatI (L.map tl) (i + 1) (st + stars K)) := HI.out.next HX.out HK.out (fun q => hx0 (by rw [← tl_len x, q]; rfl))
                      have hsk : stars K ≤ 255 := by
                        have : stars K ≤ K.length := List.count_le_length
                        omega
                      clear HI
                      go_wp2
                      go_loop [8, 12] (fun x y => ∃ (q : Nat), x = .int .i64 ((st + stars (K.take q) : Nat) : Int) ∧ y = .int .i64 q ∧ q ≤ K.length) (fun _ y => K.length - iOf y)
                      case atStart => exact ⟨0, by simp [stars], rfl, Nat.zero_le _⟩
                      case round =>
                        obtain ⟨q, rfl, rfl, hq⟩ := hrel
                        by_cases hql : q < K.length
                        · have i7 : (q : Int) < (K.length : Int) := by omega
                          obtain ⟨y, hy⟩ : ∃ y, K[q]? = some y := ⟨_, List.getElem?_eq_getElem hql⟩
                          obtain ⟨g, _, hvg, hcg⟩ := HO4.out.at hy
                          simp at hvg
                          obtain ⟨rfl, rfl⟩ := hvg
                          have hsn := stars_snoc K q y hy
                          have hle : stars (K.take q) ≤ 255 := by
                            have h4 : stars (K.take q) ≤ (K.take q).length := List.count_le_length
                            rw [List.length_take] at h4
                            omega
                          obtain ⟨z, hz⟩ : ∃ z, stars (K.take q) = z := ⟨_, rfl⟩
                          rw [hz] at hsn hle
                          rcases y with _ | y
                          · have s0 : w2.cell? ⟨g, q * 3, none⟩ = some (.bool true) := hcg 0 _ rfl
                            have HSN : Hid (stars (K.take (q + 1)) = z + 1) := hsn
                            have HZ : Hid (stars (K.take q) = z) := hz
                            rw [hz]
                            clear hcg hy hsn hz
                            go_wp2
                            exact ⟨⟨q + 1, by rw [HSN.out]; go_num, rfl, by omega⟩, by simp; omega⟩
                          · have s0 : w2.cell? ⟨g, q * 3, none⟩ = some (.bool false) := by rcases y with _ | y <;> exact hcg 0 _ rfl
                            have HSN : Hid (stars (K.take (q + 1)) = z) := hsn
                            rw [hz]
                            clear hcg hy hsn hz
                            go_wp2
                            exact ⟨⟨q + 1, by rw [HSN.out], rfl, by omega⟩, by simp; omega⟩
                        · have i7 : ¬ ((q : Int) < (K.length : Int)) := by omega
                          have hqe : K.take q = K := List.take_of_length_le (by omega)
                          rw [hqe]
                          clear hqe
                          go_wp2
                          go_roundw
                          case rel => exact ⟨st + stars K, i + 1, rfl, rfl, by omega, by omega, HI2, HB4⟩
                          case measure => simp; omega
                  · have HF : Hid (patOK (tl s) = false) := by
                      show _ = _
                      rw [HP2.out, HSR.out, allStars_none (List.mem_of_getElem? HX.out) hno]; rfl
                    have HB4 : Hid (Below w1.heap.size w1 w2) := Below.up HB3.out b2
                    clear hno b2 CX HI
                    go_wp2
                    go_ret3
                    exact PatR.bad HF.out (Below.up HB.out HB4.out)
                · have i6 : ¬ ((i : Int) < (L.length : Int)) := by omega
                  have hie : i = L.length := by omega
                  have HE : Hid (allStars (L.map tl) = some st ∧ ([] : By) ∉ L.map tl) := by
                    have h5 := HI.out
                    rw [hie, ← List.length_map (f := tl)] at h5
                    exact h5.done
                  have HP3 : Hid (patOK (tl s) = decide (st ≤ 8)) := by
                    show _ = _
                    rw [HP2.out, HSR.out, HE.out.1, decide_eq_true HE.out.2, Bool.and_true]; rfl
                  have HO5 : Hid (OwnsT wr w.heap.size (.slice ao L.length cap) L) := by
                    obtain ⟨q1, q | ⟨g, cp, cur, q2, q3, q4, q5⟩⟩ := HO.out
                    · exact ⟨q1, .inl q⟩
                    · refine ⟨q1, .inr ⟨g, cp, cur, q2, q3, ?_, q5⟩⟩
                      rw [HB3.out.block g (Array.getElem?_eq_some_iff.1 q4).1]; exact q4
                  clear HI hie
                  by_cases h8 : st ≤ 8
                  · have i8 : (st : Int) ≤ 8 := by omega
                    go_wp2
                    go_ret3
                    refine ⟨.inl ⟨by rw [HP3.out]; exact decide_eq_true h8, _, L, ?_, HO5.out, HC.out.trans (congrArg cuts HT.out)⟩, Below.up HB.out HB3.out⟩
                    rw [← HD2.out]; rfl
                  · have i8 : ¬ ((st : Int) ≤ 8) := by omega
                    go_wp2
                    go_ret3
                    exact PatR.bad (by rw [HP3.out]; exact decide_eq_false h8) (Below.up HB.out HB3.out)
end Go.Proofs.YtpngnhpnjkepjaaGreatDoor
