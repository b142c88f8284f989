/-
  path.Match by contract.
-/
import Derived.Test.YtpngnhpnjkepjaaGreatDoorPat
import Derived.Test.YtpngnhpnjkepjaaGreatDoorNames
import Derived.Test.YtpngnhpnjkepjaaGreatDoorSplit
namespace Go.Proofs.YtpngnhpnjkepjaaGreatDoor
open Go.RowKit

set_option maxHeartbeats 1000000 in
set_option maxRecDepth 100000 in
theorem index69_any (Q : Prop) (v : Value) (L : List ByteArray) (w : World) (hv : HasT w v L) (hL : L.length ≤ 1048577) (hQ : Q ↔ ([] : By) ∈ L.map tl) :
    Calls Tryz.prog 153 #[v, .string ⟨#[]⟩] w fun e w' => (∃ i : Int, e = .returned (.int .i64 i) ∧ (0 ≤ i ↔ Q)) ∧ w' = w := by
  have HQ : Hid (Q ↔ ([] : By) ∈ L.map tl) := hQ
  clear hQ
  have HV : Hid (HasT w v L) := hv
  obtain ⟨ao, cap, rfl, _⟩ := hv.form
  clear hv
  go_enter Tryz.func153, Tryz.ntmps153
  go_wp2
  go_loop [8] (fun i => ∃ k : Nat, i = .int .i64 k ∧ k ≤ L.length ∧ Hid (∀ j x, j < k → L[j]? = some x → tl x ≠ [])) (fun i => L.length - iOf i)
  case atStart => exact ⟨0, rfl, Nat.zero_le _, fun j x h => absurd h (Nat.not_lt_zero _)⟩
  case round =>
    obtain ⟨k, rfl, hk, HJ⟩ := hrel
    by_cases hlt : k < L.length
    · have i1 : (k : Int) < (L.length : Int) := by omega
      obtain ⟨x, hx⟩ : ∃ x, L[k]? = some x := ⟨_, List.getElem?_eq_getElem hlt⟩
      obtain ⟨a0, _, hva, hca⟩ := HV.out.at hx
      simp at hva
      obtain ⟨rfl, rfl⟩ := hva
      by_cases h0 : x.toList = []
      · have b0 : x.toList.isEmpty = true := by simpa using h0
        have b1 : ([] == x.toList) = true := by rw [h0]; rfl
        have HM : Hid Q := HQ.out.2 (List.mem_map.2 ⟨x, List.mem_of_getElem? hx, h0⟩)
        clear h0 HJ hx
        go_wp2
        go_ret
        exact ⟨⟨_, rfl, ⟨fun _ => HM.out, fun _ => by omega⟩⟩, rfl⟩
      · have b0 : x.toList.isEmpty = false := by simpa using h0
        have b1 : ([] == x.toList) = false := by
          rw [beq_eq_false_iff_ne]; exact fun e => h0 e.symm
        have HJ2 : Hid (∀ j x, j < k + 1 → L[j]? = some x → tl x ≠ []) := by
          intro j y hj hy
          by_cases e : j = k
          · subst e; rw [hx] at hy; cases hy; exact h0
          · exact HJ.out j y (by omega) hy
        clear h0 HJ hx
        go_wp2
        refine ⟨⟨k + 1, rfl, by omega, HJ2⟩, by simp; omega⟩
    · have i1 : ¬ ((k : Int) < (L.length : Int)) := by omega
      go_wp2
      go_ret
      refine ⟨⟨-1, rfl, ?_⟩, rfl⟩
      constructor
      · intro h; omega
      · intro h
        obtain ⟨x, hx, e⟩ := List.mem_map.1 (HQ.out.1 h)
        obtain ⟨j, hj, ej⟩ := List.mem_iff_getElem.1 hx
        exact absurd e (HJ.out j x (by omega) (by rw [List.getElem?_eq_getElem hj, ej]))
set_option maxHeartbeats 1000000 in
set_option maxRecDepth 100000 in
theorem contains_any (v : Value) (L : List ByteArray) (w : World) (hv : HasT w v L) (hL : L.length ≤ 1048577) :
    Calls Tryz.prog 133 #[v, .string ⟨#[]⟩] w fun e w' => e = .returned (.bool (decide (([] : By) ∈ L.map tl))) ∧ w' = w := by
  have C := index69_any (([] : By) ∈ L.map tl) v L w hv hL Iff.rfl
  obtain ⟨ao, cap, rfl, _⟩ := hv.form
  clear hv
  go_enter Tryz.func133, Tryz.ntmps133
  go_wp2_with fail
  refine C.mono ?_
  rintro e w1 ⟨⟨i, rfl, hi⟩, rfl⟩
  have HI : Hid (decide (([] : By) ∈ L.map tl) = decide (0 ≤ i)) := decide_eq_decide.2 hi.symm
  clear hi C
  go_wp2
  go_ret
  exact ⟨by rw [HI.out]; rfl, rfl⟩

theorem cut_small' : ∀ l : By, (cut l).1.length ≤ l.length ∧ ∀ p ∈ (cut l).2, p.length ≤ l.length
  | [] => by simp [cut]
  | x :: xs => by
    have ⟨i1, i2⟩ := cut_small' xs
    rw [cut]
    by_cases h : x = 47
    · rw [if_pos h]
      refine ⟨by simp, fun p hp => ?_⟩
      simp only [List.mem_cons] at hp
      rcases hp with rfl | hp
      · simp; omega
      · have := i2 p hp; simp; omega
    · rw [if_neg h]
      refine ⟨by simp; omega, fun p hp => by have := i2 p hp; simp; omega⟩
theorem pieces_small' (l p : By) (hp : p ∈ pieces l) : p.length ≤ l.length := by
  unfold pieces at hp
  split at hp
  · simp at hp
  · simp only [cuts, List.mem_cons] at hp
    rcases hp with rfl | hp
    · exact (cut_small' l).1
    · exact (cut_small' l).2 p hp
theorem pieces_len' (l : By) : (pieces l).length ≤ l.length + 1 := by
  unfold pieces
  split
  · simp
  · rw [cuts_len]; have := List.count_le_length (a := (47 : UInt8)) (l := l); omega

/-- may a text be a pattern? -/
def patOK (l : By) : Bool := decide (trimmed l ≠ [] ∧ l.length ≤ 255) && srB (trimmed l) && decide (([] : By) ∉ cuts (trimmed l))

set_option maxHeartbeats 2000000 in
set_option maxRecDepth 100000 in
theorem patternPieces_any (s : ByteArray) (w : World) (hs : s.size ≤ 1048576) :
    Calls Tryz.prog 85 #[.string s] w fun e w' => ((patOK (tl s) = true ∧ ∃ v L, e = .returned (.tuple #[v, .int .i64 0]) ∧ OwnsT w' w.heap.size v L ∧ L.map tl = cuts (trimmed (tl s))) ∨ (patOK (tl s) = false ∧ e = .returned (.tuple #[.slice none 0 0, .int .i64 32]))) ∧ Below w.heap.size w w' := by
  have C50 := trim_any s w (by omega)
  have hlen := tl_len s
  go_enter Tryz.func85, Tryz.ntmps85
  go_wp2_with fail
  refine C50.mono ?_
  rintro e w1 ⟨⟨t, rfl, ht⟩, rfl⟩
  have hts : t.size ≤ s.size := by
    rw [← tl_len t, ht, ← tl_len s]
    unfold trimmed
    split
    · rename_i h; rw [h]; simp
    · rename_i h; rw [h]; split <;> simp
  clear C50
  have HP : Hid (patOK (tl s) = (decide (tl t ≠ [] ∧ s.size ≤ 255) && srB (tl t) && decide (([] : By) ∉ cuts (tl t)))) := by
    show _ = _
    unfold patOK; rw [← ht, hlen]
  have HT : Hid (tl t = trimmed (tl s)) := ht
  have C51 := fun W => signsRight_any t W (by omega)
  have C45 := fun W => listPieces_any t W (by omega)
  have C52 := fun v L W hv hL => contains_any v L W hv hL
  clear ht hlen
  by_cases h0 : t.toList = []
  · have b0 : t.toList.isEmpty = true := by simpa using h0
    have HF : Hid (patOK (tl s) = false) := by
      show _ = _
      rw [HP.out, decide_eq_false (fun q => q.1 h0)]; rfl
    clear h0 HP HT C51 C45 C52
    go_wp2
    go_ret2
    exact ⟨.inr ⟨HF.out, rfl⟩, Below.refl _ _⟩
  · have b0 : t.toList.isEmpty = false := by simpa using h0
    by_cases h1 : 255 < s.size
    · have i1 : (255 : Int) < (s.size : Int) := by omega
      have HF : Hid (patOK (tl s) = false) := by
        show _ = _
        rw [HP.out, decide_eq_false (fun q => by omega)]; rfl
      clear h0 HP HT C51 C45 C52
      go_wp2
      go_ret2
      exact ⟨.inr ⟨HF.out, rfl⟩, Below.refl _ _⟩
    · have i1 : ¬ ((255 : Int) < (s.size : Int)) := by omega
      by_cases h2 : srB (tl t) = true
      · rw [h2] at C51
        have hpc : pieces (tl t) = cuts (tl t) := by unfold pieces; rw [if_neg h0]
        rw [hpc] at C45
        by_cases h3 : ([] : By) ∈ cuts (tl t)
        · have HF : Hid (patOK (tl s) = false) := by
            show _ = _
            rw [HP.out]; simp [h3]
          have H3 : Hid (([] : By) ∈ cuts (tl t)) := h3
          clear h0 HP HT h2 hpc h3
          go_wp2_with (go_at_call 131; refine (C51 _).mono ?_; rintro e w2 ⟨rfl, b2⟩)
          refine (C45 _).mono ?_
          rintro e w3 ⟨v, L, rfl, hown, hL, b3⟩
          have C := C52 v L w3 hown.has (by rw [← List.length_map (f := tl), hL, cuts_len]; have := List.count_le_length (a := (47 : UInt8)) (l := tl t); rw [tl_len] at this; omega)
          rw [hL, decide_eq_true H3.out] at C
          have HB : Hid (Below w1.heap.size w1 w3) := Below.up b2 b3
          obtain ⟨ao, cap, hv, _⟩ := hown.has.form
          subst hv
          clear b2 b3 hown hL C45 C51 C52
          go_wp2_with (go_at_call 133; refine C.mono ?_; rintro e w4 ⟨rfl, e4⟩; subst e4)
          go_ret2
          exact ⟨.inr ⟨HF.out, rfl⟩, HB.out⟩
        · have HF : Hid (patOK (tl s) = true) := by
            show _ = _
            rw [HP.out, decide_eq_true h3, decide_eq_true ⟨h0, by omega⟩, h2]; rfl
          have H3 : Hid (¬ ([] : By) ∈ cuts (tl t)) := h3
          clear h0 HP h2 hpc h3
          go_wp2_with (go_at_call 131; refine (C51 _).mono ?_; rintro e w2 ⟨rfl, b2⟩)
          refine (C45 _).mono ?_
          rintro e w3 ⟨v, L, rfl, hown, hL, b3⟩
          have C := C52 v L w3 hown.has (by rw [← List.length_map (f := tl), hL, cuts_len]; have := List.count_le_length (a := (47 : UInt8)) (l := tl t); rw [tl_len] at this; omega)
          rw [hL, decide_eq_false H3.out] at C
          have HB : Hid (Below w1.heap.size w1 w3) := Below.up b2 b3
          have HO : Hid (OwnsT w3 w1.heap.size v L) := hown.mono b2.size
          have HL : Hid (L.map tl = cuts (trimmed (tl s))) := by show _ = _; rw [← HT.out]; exact hL
          obtain ⟨ao, cap, hv, _⟩ := hown.has.form
          subst hv
          clear b2 b3 hown hL C45 C51 C52 HT H3
          go_wp2_with (go_at_call 133; refine C.mono ?_; rintro e w4 ⟨rfl, e4⟩; subst e4)
          go_ret2
          exact ⟨.inl ⟨HF.out, _, L, rfl, HO.out, HL.out⟩, HB.out⟩
      · rw [Bool.not_eq_true] at h2
        have HF : Hid (patOK (tl s) = false) := by
          show _ = _
          rw [HP.out, h2, Bool.and_false]; rfl
        rw [h2] at C51
        clear h0 HP HT h2 C45 C52
        go_wp2_with (go_at_call 131; refine (C51 _).mono ?_; rintro e w2 ⟨rfl, b2⟩)
        go_ret2
        exact ⟨.inr ⟨HF.out, rfl⟩, b2⟩

set_option maxRecDepth 100000 in
theorem slice37g (a : Addr) (len cap m : Nat) (h : m ≤ len) (wz : World) : (Instr.sliceAt 54 (.slice (some a) len cap) (some (.int .i64 (m : Int))) none none).run Tryz.prog wz = .ok (.slice (some (if cap = m then a else a.add m)) (len - m) (cap - m)) wz := by
  have h1 : (Tryz.prog.info? 9).map (·.size) = some 1 := by kernel_rfl
  cases hq : Tryz.prog.info? 9 with
  | none => simp [hq] at h1
  | some i =>
    have hs : i.size = 1 := by simpa [hq] using h1
    have hmI : (m : Int) ≤ (len : Int) := by omega
    rw [run_sliceAt_slice _ 54 _ _ _ _ Tryz.underlying54]
    simp [Instr.slice, run_underlying Tryz.underlying54, Instr.sliceBounds, run_sliceBound, sizeOf, typeInfo, hq, hs, hmI, Result.andThen]
    split <;> simp_all
theorem slice37 (a : Addr) (cap m : Nat) (h : m + 1 ≤ cap) (wz : World) : (Instr.sliceAt 54 (.slice (some a) (m + 1) cap) (some (.int .i64 (m : Int))) none none).run Tryz.prog wz = .ok (.slice (some (a.add m)) 1 (cap - m)) wz := by
  rw [slice37g a (m + 1) cap m (by omega) wz, if_neg (by omega), show m + 1 - m = 1 from by omega]
theorem HasT.last {w : World} {a : Addr} {cap m : Nat} {l : List ByteArray} (h : HasT w (.slice (some a) (m + 1) cap) l) (hl : l.length = m + 1) : HasT w (.slice (some (a.add m)) 1 (cap - m)) (l.drop m) := by
  rcases h with ⟨h, _⟩ | ⟨a', c, hv, hc, hcell⟩
  · simp at h
  · rw [hl] at hv
    simp at hv
    obtain ⟨rfl, rfl⟩ := hv
    refine .inr ⟨a.add m, cap - m, by simp [hl], by simp [hl]; omega, fun i s hi => ?_⟩
    rw [List.getElem?_drop] at hi
    rw [Addr.add_add]
    exact hcell _ _ hi

/-- what Match answers -/
def matchV (l p : By) : Bool × Int :=
  if patOK l = false then (false, 32) else if splitE p 64 ≠ 0 then (false, splitE p 64) else if pieces p = [] then (false, 0)
  else (matchN (cuts (trimmed l)) (if (47 : UInt8) ∈ l then pieces p else (pieces p).drop ((pieces p).length - 1)), 0)

set_option maxHeartbeats 2000000 in
set_option maxRecDepth 100000 in
theorem match_any (s p : ByteArray) (w : World) (hs : s.size ≤ 1048576) (hp : p.size ≤ 1048576) :
    Calls Tryz.prog 52 #[.string s, .string p] w fun e w' => e = .returned (.tuple #[.bool (matchV (tl s) (tl p)).1, .int .i64 (matchV (tl s) (tl p)).2]) ∧ Below w.heap.size w w' := by
  have C34 := patternPieces_any s w hs
  have C22 := fun W => split_any p 64 W hp
  have C35 := fun W => anchored_any s W
  have HV : Hid (matchV (tl s) (tl p) = (if patOK (tl s) = false then (false, 32) else if splitE (tl p) 64 ≠ 0 then (false, splitE (tl p) 64) else if pieces (tl p) = [] then (false, 0)
    else (matchN (cuts (trimmed (tl s))) (if (47 : UInt8) ∈ tl s then pieces (tl p) else (pieces (tl p)).drop ((pieces (tl p)).length - 1)), 0))) := rfl
  obtain ⟨mv, hmv⟩ : ∃ mv, matchV (tl s) (tl p) = mv := ⟨_, rfl⟩
  rw [hmv] at HV ⊢
  clear hmv
  go_enter Tryz.func52, Tryz.ntmps52
  go_wp2_with fail
  refine C34.mono ?_
  rintro e w1 ⟨⟨hok, v, L, rfl, hown, hL⟩ | ⟨hno, rfl⟩, b1⟩
  · have hpl : ∀ x ∈ L, x.size ≤ 1048576 ∧ ∃ K, signsOf (tl x) = some K := by
      intro x hx
      have hm : tl x ∈ cuts (trimmed (tl s)) := by rw [← hL]; exact List.mem_map_of_mem hx
      have htr : (trimmed (tl s)).length ≤ s.size := by
        rw [← tl_len s]
        unfold trimmed
        split
        · rename_i h; rw [h]; simp
        · rename_i h; rw [h]; split <;> simp
      constructor
      · rw [← tl_len x]
        have : (tl x).length ≤ (trimmed (tl s)).length := by
          have h0 : trimmed (tl s) ≠ [] := by
            intro q; rw [q] at hm; unfold patOK at hok; rw [q] at hok; simp at hok
          exact pieces_small' _ _ (by unfold pieces; rw [if_neg h0]; exact hm)
        omega
      · have hsr : srB (trimmed (tl s)) = true := by
          unfold patOK at hok
          simp only [Bool.and_eq_true] at hok
          exact hok.1.2
        unfold srB at hsr
        cases e : scan false 0 (trimmed (tl s)) with
        | none => rw [e] at hsr; simp at hsr
        | some k =>
          rw [scan_cuts _ _ (Nat.le_refl _)] at e
          exact allStars_some e _ hm
    have hLn : L.length ≤ 1048577 := by
      have htr : (trimmed (tl s)).length ≤ s.size := by
        rw [← tl_len s]
        unfold trimmed
        split
        · rename_i h; rw [h]; simp
        · rename_i h; rw [h]; split <;> simp
      rw [← List.length_map (f := tl), hL, cuts_len]
      have := List.count_le_length (a := (47 : UInt8)) (l := trimmed (tl s)); omega
    have HPL : Hid (∀ x ∈ L, x.size ≤ 1048576 ∧ ∃ K, signsOf (tl x) = some K) := hpl
    have HV2 : Hid (mv = (if splitE (tl p) 64 ≠ 0 then (false, splitE (tl p) 64) else if pieces (tl p) = [] then (false, 0)
      else (matchN (L.map tl) (if (47 : UInt8) ∈ tl s then pieces (tl p) else (pieces (tl p)).drop ((pieces (tl p)).length - 1)), 0))) := by
      show _ = _
      rw [HV.out, if_neg (by rw [hok]; simp), hL]
    have HO : Hid (HasT w1 v L) := hown.has
    have B1 : Hid (Below w.heap.size w w1) := b1
    obtain ⟨ao, cap, hv, _⟩ := hown.has.form
    subst hv
    clear hpl hok hown hL b1 HV C34
    go_wp2_with fail
    refine (C22 _).mono ?_
    rintro e w2 ⟨⟨u, M, rfl, hown2, hM⟩, b2⟩
    have HO2 : Hid (HasT w2 (.slice ao L.length cap) L) := HO.out.below b2
    have B2 : Hid (Below w.heap.size w w2) := Below.up B1.out b2
    have HU : Hid (HasT w2 u M) := hown2.has
    obtain ⟨bo, cap2, hu, hcap2⟩ := hown2.has.form
    subst hu
    clear b2 HO B1 hown2
    by_cases he : splitE (tl p) 64 = 0
    · have hM2 : M.map tl = pieces (tl p) := by rw [hM]; unfold splitL; rw [if_pos he]
      have HV3 : Hid (mv = (if M.map tl = [] then (false, 0) else (matchN (L.map tl) (if (47 : UInt8) ∈ tl s then M.map tl else (M.map tl).drop (M.length - 1)), 0))) := by
        show _ = _
        rw [HV2.out, if_neg (by rw [he]; simp), ← hM2, List.length_map]
      have hMn : M.length ≤ 1048577 := by
        rw [← List.length_map (f := tl), hM2]
        have := pieces_len' (tl p); rw [tl_len] at this; omega
      have hMs : ∀ x ∈ M, x.size ≤ 1048576 := by
        intro x hx
        rw [← tl_len x]
        have := pieces_small' (tl p) (tl x) (by rw [← hM2]; exact List.mem_map_of_mem hx)
        rw [tl_len p] at this; omega
      have HMS : Hid (∀ x ∈ M, x.size ≤ 1048576) := hMs
      rw [he]
      clear HV2 hM hM2 hMs he C22
      by_cases h0 : M = []
      · subst h0
        have HE : Hid (mv = (false, 0)) := by show _ = _; rw [HV3.out]; rfl
        clear HV3
        go_wp2
        go_ret2
        exact ⟨by rw [HE.out]; rfl, B2.out⟩
      · obtain ⟨m, hm⟩ : ∃ m, M.length = m + 1 := ⟨M.length - 1, by have := List.length_pos_iff.2 h0; omega⟩
        have HV4 : Hid (mv = (matchN (L.map tl) (if (47 : UInt8) ∈ tl s then M.map tl else (M.drop m).map tl), 0)) := by
          show _ = _
          rw [HV3.out, if_neg (by simpa using h0), List.map_drop, hm]; rfl
        obtain ⟨a0, ha0⟩ : ∃ a0, bo = some a0 := by
          rcases HU.out with ⟨q, _⟩ | ⟨a, c, q, _⟩
          · simp at q; exact absurd q.2.1 h0
          · simp at q; exact ⟨a, q.1⟩
        subst ha0
        have HU2 : Hid (HasT w2 (.slice (some a0) (m + 1) cap2) M) := by rw [← hm]; exact HU.out
        have HMl : Hid (M.length = m + 1) := hm
        rw [hm]
        clear HV3 h0 HU
        have z0 : (((m : Int) + 1) == 0) = false := by simp; omega
        by_cases hin : (47 : UInt8) ∈ tl s
        · have hC := C35 w2
          rw [decide_eq_true hin] at hC
          have HE : Hid (mv = (matchN (L.map tl) (M.map tl), 0)) := by show _ = _; rw [HV4.out, if_pos hin]
          have CN := matchNames_any (.slice ao L.length cap) (.slice (some a0) (m + 1) cap2) L M w2 HO2.out HU2.out hLn hMn HPL.out HMS.out
          clear HV4 hin C35
          go_wp2_with (first
            | (go_at_call 87; refine hC.mono ?_; rintro e w3 ⟨rfl, e3⟩; subst e3)
            | (go_at_call 88; refine CN.mono ?_; rintro e w3 ⟨rfl, b3⟩))
          go_ret2
          exact ⟨by rw [HE.out]; rfl, Below.up B2.out b3⟩
        · have hC := C35 w2
          rw [decide_eq_false hin] at hC
          have HE : Hid (mv = (matchN (L.map tl) ((M.map tl).drop m), 0)) := by show _ = _; rw [HV4.out, if_neg hin, List.map_drop]
          have CN := matchNames_any (.slice ao L.length cap) (.slice (some (a0.add m)) 1 (cap2 - m)) L (M.drop m) w2 HO2.out (HU2.out.last HMl.out) hLn (by simp; omega) HPL.out (fun x hx => HMS.out x (List.mem_of_mem_drop hx))
          rw [List.map_drop] at CN
          have hsl := slice37 a0 cap2 m (by omega)
          clear HV4 hin C35
          go_wp2_with (first
            | (go_at_call 87; refine hC.mono ?_; rintro e w3 ⟨rfl, e3⟩; subst e3)
            | (go_at_call 88; refine CN.mono ?_; rintro e w3 ⟨rfl, b3⟩))
          go_ret2
          exact ⟨by rw [HE.out]; rfl, Below.up B2.out b3⟩
    · have HE : Hid (mv = (false, splitE (tl p) 64)) := by show _ = _; rw [HV2.out, if_pos he]
      have hne : (splitE (tl p) 64 != 0) = true := by simpa using he
      generalize splitE (tl p) 64 = z at *
      clear HV2 hM C22
      go_wp2
      go_ret2
      exact ⟨by rw [HE.out]; rfl, B2.out⟩
  · have HE : Hid (mv = (false, 32)) := by show _ = _; rw [HV.out, if_pos hno]
    have B1 : Hid (Below w.heap.size w w1) := b1
    clear HV hno b1 C34 C22 C35
    go_wp2
    go_ret2
    exact ⟨by rw [HE.out]; rfl, B1.out⟩
end Go.Proofs.YtpngnhpnjkepjaaGreatDoor
