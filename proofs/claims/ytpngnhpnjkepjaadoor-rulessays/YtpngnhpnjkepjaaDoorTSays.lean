/-
  RulesSays' walk.
-/
import Derived.Test.YtpngnhpnjkepjaaDoorTMir
import Derived.Test.YtpngnhpnjkepjaaDoorRPrefW
import Derived.Test.YtpngnhpnjkepjaaDoorFrame2
import Derived.Deep.Cut
namespace Go.Proofs.YtpngnhpnjkepjaaDoor
open Go.RowKit

theorem parseR_line' {l : By} {k : Nat} {e : Int} (h : parseR l = (none, k, e)) : e ≠ 0 := by
  unfold parseR at h
  split at h
  · cases h; decide
  · generalize linesR l = xs at h
    generalize (0 : Nat) = i at h
    generalize ([] : List Ru) = acc at h
    induction xs generalizing i acc with
    | nil => cases h
    | cons x xs ih =>
      unfold parseL at h
      split at h
      · exact ih _ _ h
      · split at h
        · rename_i hr
          cases h; exact hr
        · exact ih _ _ h
theorem joinR_ge' : ∀ {M : List By} {x : By}, x ∈ M → x.length ≤ (joinR M).length
  | [y], x, h => by simp at h; subst h; exact Nat.le_refl _
  | y :: z :: t, x, h => by
    rcases List.mem_cons.1 h with rfl | h
    · rw [joinR, List.length_append]; omega
    · have := joinR_ge' h
      rw [joinR, List.length_append, List.length_cons]; omega
theorem good_short' {L : List Ru} {l : By} (h : parseR l = (some L, 0, 0)) : ShortR L := by
  obtain ⟨h1, h2, _, _, h5⟩ := parseR_good h
  refine ⟨fun r hr => ?_, h1.2⟩
  have h3 := joinR_ge' (M := L.map lineR) (List.mem_map.2 ⟨r, hr, rfl⟩)
  have h4 : (lineR r).length = (headB r.1).length + r.2.length := List.length_append
  have h6 : (joinR (L.map lineR)).length ≤ l.length := h2
  omega
theorem mir_short' {L : List Ru} (h : ShortR L) : ShortR (mirR L) := by
  refine ⟨fun r hr => ?_, by rw [mirR_len]; exact h.2⟩
  obtain ⟨x, hx, rfl⟩ := List.mem_map.1 hr
  exact h.1 x hx
theorem parse_cases' (l : By) : (∃ (k : Nat) (e : Int), parseR l = (none, k, e) ∧ e ≠ 0) ∨ (∃ L, parseR l = (some L, 0, 0)) := by
  rcases hp : parseR l with ⟨o, k, e⟩
  cases o with
  | none => exact .inl ⟨k, e, rfl, parseR_line' hp⟩
  | some L =>
    obtain ⟨_, _, rfl, rfl, _⟩ := parseR_good hp
    exact .inr ⟨L, rfl⟩
theorem Tryd.info50 : (Tryd.prog.info? 50).map (fun i => (i.zero, i.size, i.bytes)) = some (some (.agg #[.int .i64 0]), 1, 8) := by kernel_rfl
set_option maxRecDepth 100000 in
theorem many_any (n : Int) (w : World) : Calls Tryd.prog 6 #[.int .i64 n] w fun e w' => e = .returned (.pointer (some ⟨w.heap.size, 0, none⟩)) ∧ w' = w.alloc (.cells #[.int .i64 n] 50) := by
  obtain ⟨i0, hi, hz0, hz1, hz2⟩ := info_parts Tryd.info50
  go_enter Tryd.func6, Tryd.ntmps6
  go_wp2
  go_ret
  exact ⟨rfl, rfl⟩
set_option maxRecDepth 100000 in
theorem ok_any (m : Int) (cb : Nat) (w : World) (hc : w.heap[cb]? = some (.cells #[.int .i64 m] 50)) : Calls Tryd.prog 9 #[.pointer (some ⟨cb, 0, none⟩)] w fun e w' => e = .returned (.bool (decide (0 ≤ m))) ∧ w' = w := by
  obtain ⟨c0, _⟩ := one_heap hc
  clear hc
  by_cases h : 0 ≤ m
  · rw [decide_eq_true h]
    go_enter Tryd.func9, Tryd.ntmps9
    go_wp2
    go_ret
    exact ⟨rfl, rfl⟩
  · rw [decide_eq_false h]
    go_enter Tryd.func9, Tryd.ntmps9
    go_wp2
    go_ret
    exact ⟨rfl, rfl⟩
theorem tparse_yes {s : ByteArray} {L : List Ru} (hp : parseR (tl s) = (some L, 0, 0)) (w : World) (hs : s.size ≤ 9223372036854775807) :
    Calls Tryd.prog 10 #[.string s] w fun x w' => ∃ v, x = .returned (.tuple #[v, .int .i64 0, .int .i64 0]) ∧ HasR w' v L ∧ Below w.heap.size w w' := by
  have h := tparse_any s w hs
  unfold TParseRes at h
  rw [hp] at h
  exact h
theorem tparse_no {s : ByteArray} {k : Nat} {er : Int} (hp : parseR (tl s) = (none, k, er)) (w : World) (hs : s.size ≤ 9223372036854775807) :
    Calls Tryd.prog 10 #[.string s] w fun x w' => x = .returned (.tuple #[.slice none 0 0, .int .i64 (k : Int), .int .i64 er]) ∧ Below w.heap.size w w' := by
  have h := tparse_any s w hs
  unfold TParseRes at h
  rw [hp] at h
  exact h
/-- what stands while paths are asked -/
def SayQ (w W : World) (lv : Value) (p m : Nat) (L : List Ru) : Prop := HasR W lv L ∧ IsRules W p L ∧ IsRules W m (mirR L) ∧ Below w.heap.size w W
theorem SayQ.up {w W W' : World} {lv : Value} {p m : Nat} {L : List Ru} (h : Hid (SayQ w W lv p m L)) (hg : Below W.heap.size W W') : Hid (SayQ w W' lv p m L) := ⟨h.out.1.up hg, h.out.2.1.up hg, h.out.2.2.1.up hg, Below.up h.out.2.2.2 hg⟩
set_option maxHeartbeats 8000000 in
set_option maxRecDepth 100000 in
theorem says_any (s : ByteArray) (v : Value) (l : List ByteArray) (w : World) (hs : s.size ≤ 9223372036854775807) (hv : InT w v l) :
    Calls Tryd.prog 3 #[.string s, v] w fun e w' => e = .returned (.bool true) ∧ Below w.heap.size w w' := by
  obtain ⟨hv0, hls, hll⟩ := hv
  have HV : Hid (HasT w v l) := hv0
  obtain ⟨ao, cap, rfl, _⟩ := hv0.form
  have C6 := fun W => many_any 16384 W
  have hb0 : Below w.heap.size w (w.alloc (.cells #[.int .i64 16384] 50)) := (Below.refl _ w).alloc (Nat.le_refl _) _
  have C7 := text60_any s 16384 w.heap.size w.heap.size (w.alloc (.cells #[.int .i64 16384] 50)) (Nat.le_refl _) (World.alloc_heap_new _ _) (by omega) hs
  have C8 : ∀ (W : World) (m : Int), Hid (W.heap[w.heap.size]? = some (.cells #[.int .i64 m] 50) ∧ m ≤ 30000 ∧ Below w.heap.size w W) → Calls Tryd.prog 8 #[.pointer (some ⟨w.heap.size, 0, none⟩), .slice ao l.length cap] W fun e w' => e = .returned (.tuple #[]) ∧ (∃ m2 : Int, w'.heap[w.heap.size]? = some (.cells #[.int .i64 m2] 50) ∧ (0 ≤ m2 → 0 ≤ m ∧ wsum l ≤ m)) ∧ Below w.heap.size w w' := fun W m h => textsN_any _ l m w.heap.size w W HV.out hls hll h.out.2.2 (Nat.le_refl _) h.out.2.1 h.out.1
  have HLS : Hid (∀ s ∈ l, s.size ≤ 9223372036854775807) := hls
  clear hv0 hls
  go_enter Tryd.func3, Tryd.ntmps3
  go_upto_region 2 with (go_at_call 6; refine (C6 _).mono ?_; rintro e w1 ⟨rfl, rfl⟩)
  go_upto_region 3 with (go_at_call 7; refine C7.mono ?_; rintro e w2 ⟨rfl, ⟨m, d1, d2, d3, d4⟩, b2⟩; have H2 : Hid (w2.heap[w.heap.size]? = some (.cells #[.int .i64 m] 50) ∧ m ≤ 30000 ∧ Below w.heap.size w w2) := ⟨d1, d2, hb0.trans b2⟩; clear d1 d2 d4 b2)
  go_upto_region 4 with (go_at_call 8; refine (C8 _ _ H2).mono ?_; rintro e w3 ⟨rfl, ⟨m2, e1, e2⟩, b3⟩)
  have C9 := ok_any m2 w.heap.size w3 e1
  have HB3 : Hid (Below w.heap.size w w3) := b3
  clear C6 C7 C8 H2 b3 e1 hb0
  by_cases h0 : 0 ≤ m2
  · rw [decide_eq_true h0] at C9
    obtain ⟨hm0, hw⟩ := e2 h0
    have hmm := d3 hm0
    have hs4 : s.size ≤ 16384 := by omega
    have hw4 : wsum l ≤ 16384 := by omega
    have HXS : Hid (∀ x ∈ l, x.size ≤ 1048576) := fun x hx => by
      have := (wsum_facts (L := l)).2.2 x hx
      omega
    clear e2 d3 hmm hw hw4 h0 hm0 HLS
    by_cases h40 : 40 < l.length
    · have i1 : (40 : Int) < (l.length : Int) := by omega
      go_wp2_with (go_at_call 9; refine C9.mono ?_; rintro e w4 ⟨rfl, rfl⟩)
      go_ret
      exact ⟨rfl, HB3.out⟩
    · have i1 : (l.length : Int) ≤ 40 := by omega
      go_upto_region 6 with (go_at_call 9; refine C9.mono ?_; rintro e w4 ⟨rfl, hw4⟩; rw [hw4]; clear hw4)
      obtain ⟨N, hN⟩ : ∃ N, l.length = N := ⟨_, rfl⟩
      have HN : Hid (l.length = N) := hN
      rw [hN] at h40 i1 HV
      rw [hN]
      clear hN C9 hll
      rcases parse_cases' (tl s) with ⟨k, er, hp, he⟩ | ⟨L, hp⟩
      · have C10 := fun W => tparse_no hp W (by omega)
        have C11 : ∀ W, Calls Tryd.prog 11 #[.string s] W fun x w' => x = .returned (.tuple #[.pointer none, .int .i64 (k : Int), .int .i64 er]) ∧ Below W.heap.size W w' := fun W => by
          have h := parse_any s W (by omega)
          unfold ParseRes at h
          rw [hp] at h
          exact h
        have b0 : (er == 0) = false := by simpa using he
        obtain ⟨L, hLn⟩ : ∃ L : List Ru, L = [] := ⟨_, rfl⟩
        have hgd : ∀ r ∈ L, r.1 = 1 ∨ r.1 = 2 ∨ r.1 = 3 := by rw [hLn]; simp
        have hsh : ShortR L := by rw [hLn]; exact ⟨by simp, by simp⟩
        have HL0 : Hid (L = []) := hLn
        have C12 := fun W => none_any W
        rw [← hLn] at C12
        clear hp he hLn
        have hsh2 := mir_short' hsh
        have CM := fun W p h => mirror_any p L W h hgd hsh.2
        obtain ⟨SK, hSK⟩ : ∃ SK : ByteArray → Bool, SK = fun x => skipR L (tl x) := ⟨_, rfl⟩
        obtain ⟨PR, hPR⟩ : ∃ PR : ByteArray → Nat, PR = fun x => prefR L (tl x) := ⟨_, rfl⟩
        obtain ⟨PM, hPM⟩ : ∃ PM : ByteArray → Nat, PM = fun x => prefR (mirR L) (tl x) := ⟨_, rfl⟩
        have SU : ∀ (W : World) (lv : Value) (p m u : Nat) (x : ByteArray), Hid (SayQ w W lv p m L) → (u = p ∨ u = m) → x.size ≤ 1048576 → Calls Tryd.prog 14 #[.pointer (some ⟨u, 0, none⟩), .string x] W fun e w' => e = .returned (.bool (SK x)) ∧ Hid (SayQ w w' lv p m L) := fun W lv p m u x h hu hx => by
          rcases hu with rfl | rfl
          · rw [hSK]; exact (skip_any _ L x W h.out.2.1 hsh hx).mono fun _ _ k => ⟨k.1, SayQ.up h k.2⟩
          · have h2 := skip_any u (mirR L) x W h.out.2.2.1 hsh2 hx
            rw [skipR_mir] at h2
            rw [hSK]; exact h2.mono fun _ _ k => ⟨k.1, SayQ.up h k.2⟩
        have SR : ∀ (W : World) (lv : Value) (p m : Nat) (x : ByteArray), Hid (SayQ w W lv p m L) → x.size ≤ 1048576 → Calls Tryd.prog 15 #[lv, .string x] W fun e w' => e = .returned (.bool (SK x)) ∧ Hid (SayQ w w' lv p m L) := fun W lv p m x h hx => by
          rw [hSK]; exact (tskip_any lv L x W h.out.1 hgd hsh hx).mono fun _ _ k => ⟨k.1, SayQ.up h k.2⟩
        have QU : ∀ (W : World) (lv : Value) (p m u : Nat) (x : ByteArray), Hid (SayQ w W lv p m L) → u = p → x.size ≤ 1048576 → Calls Tryd.prog 16 #[.pointer (some ⟨u, 0, none⟩), .string x] W fun e w' => e = .returned (.int .i64 (PR x : Int)) ∧ Hid (SayQ w w' lv p m L) := fun W lv p m u x h hu hx => by
          subst hu
          rw [hPR]; exact (prefer_any _ L x W h.out.2.1 hsh hx).mono fun _ _ k => ⟨k.1, SayQ.up h k.2⟩
        have QM : ∀ (W : World) (lv : Value) (p m u : Nat) (x : ByteArray), Hid (SayQ w W lv p m L) → u = m → x.size ≤ 1048576 → Calls Tryd.prog 16 #[.pointer (some ⟨u, 0, none⟩), .string x] W fun e w' => e = .returned (.int .i64 (PM x : Int)) ∧ Hid (SayQ w w' lv p m L) := fun W lv p m u x h hu hx => by
          subst hu
          rw [hPM]; exact (prefer_any _ (mirR L) x W h.out.2.2.1 hsh2 hx).mono fun _ _ k => ⟨k.1, SayQ.up h k.2⟩
        have RU : ∀ (W : World) (lv u : Value) (p m : Nat) (x : ByteArray), Hid (SayQ w W lv p m L) → u = lv → x.size ≤ 1048576 → Calls Tryd.prog 17 #[u, .string x] W fun e w' => e = .returned (.int .i64 (PR x : Int)) ∧ Hid (SayQ w w' lv p m L) := fun W lv u p m x h hu hx => by
          subst hu
          rw [hPR]; exact (tpref_any _ L x W h.out.1 hgd hsh hx).mono fun _ _ k => ⟨k.1, SayQ.up h k.2⟩
        have RM : ∀ (W : World) (lv u z : Value) (p m : Nat) (x : ByteArray), Hid (SayQ w W lv p m L) → Hid (HasR W z (mirR L)) → u = z → x.size ≤ 1048576 → Calls Tryd.prog 17 #[u, .string x] W fun e w' => e = .returned (.int .i64 (PM x : Int)) ∧ Hid (SayQ w w' lv p m L) := fun W lv u z p m x h hz hu hx => by
          subst hu
          rw [hPM]; exact (tpref_any _ (mirR L) x W hz.out (mirR_good hgd) hsh2 hx).mono fun _ _ k => ⟨k.1, SayQ.up h k.2⟩
        have RI : ∀ (W : World) (lv : Value) (p m : Nat), Hid (SayQ w W lv p m L) → Calls Tryd.prog 18 #[lv] W fun e w' => ∃ zo zc, e = .returned (.slice zo L.length zc) ∧ Hid (HasR w' (.slice zo L.length zc) (mirR L)) ∧ Hid (SayQ w w' lv p m L) := fun W lv p m h => by
          refine (tmir_any lv L W h.out.1 hgd hsh.2).mono ?_
          rintro e w' ⟨z, rfl, hz, hg⟩
          obtain ⟨zo, zc, rfl⟩ := hz.form
          rw [mirR_len] at hz ⊢
          exact ⟨zo, zc, rfl, hz, SayQ.up h hg⟩
        clear hSK hPR hPM hsh hsh2 hgd
        go_upto_region 12 with (first
          | (go_at_call 10; refine (C10 _).mono ?_; rintro e w5 ⟨rfl, h5⟩)
          | (go_at_call 11; refine (C11 _).mono ?_; rintro e w6 ⟨rfl, h6⟩)
          | (go_at_call 12; refine (C12 _).mono ?_; rintro e w7 ⟨p, rfl, h7, h8⟩))
        go_upto_region 13 with (go_at_call 13; refine (CM _ _ h7).mono ?_; rintro e w8 ⟨m, rfl, h9, h10⟩)
        have HQ : Hid (SayQ w w8 (.slice none 0 0) p m L) := ⟨.inl ⟨rfl, HL0.out⟩, h7.up h10, h9, Below.up (Below.up (Below.up (Below.up HB3.out h5) h6) h8) h10⟩
        clear CM C10 C11 C12 h5 h6 h7 h8 h9 h10 HB3
        go_upto_region 16 with (fail)
        go_loopw [13] (fun t13 wr => ∃ (n : Nat), t13 = .int .i64 (n : Int) ∧ n ≤ 3 ∧ Hid (SayQ w wr (.slice none 0 0) p m L)) (fun t13 wr => 3 - iOf t13)
        case atStart => exact ⟨0, rfl, Nat.zero_le _, HQ⟩
        case round =>
          obtain ⟨n, rfl, hn3, HQ1⟩ := hrel
          clear HQ
          by_cases hlt : n < 3
          · have i2 : (n : Int) < 3 := by omega
            go_upto_region 19 with (fail)
            go_loopw [14] (fun t14 wr => ∃ (i : Nat), t14 = .int .i64 (i : Int) ∧ i ≤ N ∧ Hid (SayQ w wr (.slice none 0 0) p m L)) (fun t14 wr => N - iOf t14)
            case atStart => exact ⟨0, rfl, Nat.zero_le _, HQ1⟩
            case round =>
              obtain ⟨i, rfl, hiN, HQ⟩ := hrel
              clear HQ1
              by_cases hlt2 : i < N
              · have i3 : (i : Int) < (N : Int) := by omega
                obtain ⟨x, hx⟩ : ∃ x, l[i]? = some x := ⟨_, List.getElem?_eq_getElem (by rw [HN.out]; exact hlt2)⟩
                obtain ⟨a, cp, e0, hcx⟩ := (HV.out.below HQ.out.2.2.2).at hx
                cases e0
                have hxs := HXS.out x (List.mem_of_getElem? hx)
                clear hx
                go_wp2_with (first
                  | (go_at_call 14; refine (SU _ _ p m _ _ HQ (by first | exact .inl rfl | exact .inr rfl) hxs).mono ?_; rintro e w7 ⟨rfl, HQ2⟩; clear HQ; rename Hid (SayQ _ _ _ _ _ _) => HQ)
                  | (go_at_call 15; refine (SR _ _ p m _ HQ hxs).mono ?_; rintro e w7 ⟨rfl, HQ2⟩; clear HQ; rename Hid (SayQ _ _ _ _ _ _) => HQ)
                  | (go_at_call 16; refine (QU _ _ p m _ _ HQ (by rfl) hxs).mono ?_; rintro e w7 ⟨rfl, HQ2⟩; clear HQ; rename Hid (SayQ _ _ _ _ _ _) => HQ)
                  | (go_at_call 16; refine (QM _ _ p m _ _ HQ (by rfl) hxs).mono ?_; rintro e w7 ⟨rfl, HQ2⟩; clear HQ; rename Hid (SayQ _ _ _ _ _ _) => HQ)
                  | (go_at_call 18; refine (RI _ _ p m HQ).mono ?_; rintro e w7 ⟨zo, zc, rfl, HZ, HQ2⟩; clear HQ; rename Hid (SayQ _ _ _ _ _ _) => HQ)
                  | (go_at_call 17; refine (RU _ _ _ p m _ HQ (by rfl) hxs).mono ?_; rintro e w7 ⟨rfl, HQ2⟩; clear HQ; rename Hid (SayQ _ _ _ _ _ _) => HQ)
                  | (go_at_call 17; refine (RM _ _ _ _ p m _ HQ HZ (by rfl) hxs).mono ?_; rintro e w7 ⟨rfl, HQ2⟩; clear HQ; rename Hid (SayQ _ _ _ _ _ _) => HQ))
                go_roundw
                case rel => exact ⟨i + 1, by go_num, by omega, HQ⟩
                case measure => simp; omega
              · have hi2 : i = N := by omega
                subst hi2
                go_wp2
                go_roundw
                case rel => exact ⟨n + 1, by go_num, by omega, HQ⟩
                case measure => simp; omega
          · have hn2 : n = 3 := by omega
            subst hn2
            go_wp2
            go_ret
            exact ⟨rfl, HQ1.out.2.2.2⟩
      · have C10 := fun W => tparse_yes hp W (by omega)
        have C11 : ∀ W, Calls Tryd.prog 11 #[.string s] W fun x w' => ∃ p, x = .returned (.tuple #[.pointer (some ⟨p, 0, none⟩), .int .i64 0, .int .i64 0]) ∧ IsRules w' p L ∧ Below W.heap.size W w' := fun W => by
          have h := parse_any s W (by omega)
          unfold ParseRes at h
          rw [hp] at h
          exact h
        have hgd := fun r hr => ((parseR_good hp).1.1 r hr).1
        have hsh := good_short' hp
        obtain ⟨LL, hLL⟩ : ∃ LL, L.length = LL := ⟨_, rfl⟩
        have hLL64 : LL ≤ 64 := by rw [← hLL]; exact hsh.2
        have HLL : Hid (L.length = LL) := hLL
        clear hp
        have hsh2 := mir_short' hsh
        have CM := fun W p h => mirror_any p L W h hgd hsh.2
        obtain ⟨SK, hSK⟩ : ∃ SK : ByteArray → Bool, SK = fun x => skipR L (tl x) := ⟨_, rfl⟩
        obtain ⟨PR, hPR⟩ : ∃ PR : ByteArray → Nat, PR = fun x => prefR L (tl x) := ⟨_, rfl⟩
        obtain ⟨PM, hPM⟩ : ∃ PM : ByteArray → Nat, PM = fun x => prefR (mirR L) (tl x) := ⟨_, rfl⟩
        have SU : ∀ (W : World) (lv : Value) (p m u : Nat) (x : ByteArray), Hid (SayQ w W lv p m L) → (u = p ∨ u = m) → x.size ≤ 1048576 → Calls Tryd.prog 14 #[.pointer (some ⟨u, 0, none⟩), .string x] W fun e w' => e = .returned (.bool (SK x)) ∧ Hid (SayQ w w' lv p m L) := fun W lv p m u x h hu hx => by
          rcases hu with rfl | rfl
          · rw [hSK]; exact (skip_any _ L x W h.out.2.1 hsh hx).mono fun _ _ k => ⟨k.1, SayQ.up h k.2⟩
          · have h2 := skip_any u (mirR L) x W h.out.2.2.1 hsh2 hx
            rw [skipR_mir] at h2
            rw [hSK]; exact h2.mono fun _ _ k => ⟨k.1, SayQ.up h k.2⟩
        have SR : ∀ (W : World) (lv : Value) (p m : Nat) (x : ByteArray), Hid (SayQ w W lv p m L) → x.size ≤ 1048576 → Calls Tryd.prog 15 #[lv, .string x] W fun e w' => e = .returned (.bool (SK x)) ∧ Hid (SayQ w w' lv p m L) := fun W lv p m x h hx => by
          rw [hSK]; exact (tskip_any lv L x W h.out.1 hgd hsh hx).mono fun _ _ k => ⟨k.1, SayQ.up h k.2⟩
        have QU : ∀ (W : World) (lv : Value) (p m u : Nat) (x : ByteArray), Hid (SayQ w W lv p m L) → u = p → x.size ≤ 1048576 → Calls Tryd.prog 16 #[.pointer (some ⟨u, 0, none⟩), .string x] W fun e w' => e = .returned (.int .i64 (PR x : Int)) ∧ Hid (SayQ w w' lv p m L) := fun W lv p m u x h hu hx => by
          subst hu
          rw [hPR]; exact (prefer_any _ L x W h.out.2.1 hsh hx).mono fun _ _ k => ⟨k.1, SayQ.up h k.2⟩
        have QM : ∀ (W : World) (lv : Value) (p m u : Nat) (x : ByteArray), Hid (SayQ w W lv p m L) → u = m → x.size ≤ 1048576 → Calls Tryd.prog 16 #[.pointer (some ⟨u, 0, none⟩), .string x] W fun e w' => e = .returned (.int .i64 (PM x : Int)) ∧ Hid (SayQ w w' lv p m L) := fun W lv p m u x h hu hx => by
          subst hu
          rw [hPM]; exact (prefer_any _ (mirR L) x W h.out.2.2.1 hsh2 hx).mono fun _ _ k => ⟨k.1, SayQ.up h k.2⟩
        have RU : ∀ (W : World) (lv u : Value) (p m : Nat) (x : ByteArray), Hid (SayQ w W lv p m L) → u = lv → x.size ≤ 1048576 → Calls Tryd.prog 17 #[u, .string x] W fun e w' => e = .returned (.int .i64 (PR x : Int)) ∧ Hid (SayQ w w' lv p m L) := fun W lv u p m x h hu hx => by
          subst hu
          rw [hPR]; exact (tpref_any _ L x W h.out.1 hgd hsh hx).mono fun _ _ k => ⟨k.1, SayQ.up h k.2⟩
        have RM : ∀ (W : World) (lv u z : Value) (p m : Nat) (x : ByteArray), Hid (SayQ w W lv p m L) → Hid (HasR W z (mirR L)) → u = z → x.size ≤ 1048576 → Calls Tryd.prog 17 #[u, .string x] W fun e w' => e = .returned (.int .i64 (PM x : Int)) ∧ Hid (SayQ w w' lv p m L) := fun W lv u z p m x h hz hu hx => by
          subst hu
          rw [hPM]; exact (tpref_any _ (mirR L) x W hz.out (mirR_good hgd) hsh2 hx).mono fun _ _ k => ⟨k.1, SayQ.up h k.2⟩
        have RI : ∀ (W : World) (lv : Value) (p m : Nat), Hid (SayQ w W lv p m L) → Calls Tryd.prog 18 #[lv] W fun e w' => ∃ zo zc, e = .returned (.slice zo L.length zc) ∧ Hid (HasR w' (.slice zo L.length zc) (mirR L)) ∧ Hid (SayQ w w' lv p m L) := fun W lv p m h => by
          refine (tmir_any lv L W h.out.1 hgd hsh.2).mono ?_
          rintro e w' ⟨z, rfl, hz, hg⟩
          obtain ⟨zo, zc, rfl⟩ := hz.form
          rw [mirR_len] at hz ⊢
          exact ⟨zo, zc, rfl, hz, SayQ.up h hg⟩
        clear hSK hPR hPM hsh hsh2 hgd
        rw [hLL] at RI
        clear hLL
        go_upto_region 7 with (go_at_call 10; refine (C10 _).mono ?_; rintro e w5 ⟨lv, rfl, h4, h5⟩; obtain ⟨lo, lc, hlv⟩ := h4.form; rw [HLL.out] at hlv; subst hlv)
        go_upto_region 12 with (go_at_call 11; refine (C11 _).mono ?_; rintro e w6 ⟨p, rfl, h7, h6⟩)
        go_upto_region 13 with (go_at_call 13; refine (CM _ _ h7).mono ?_; rintro e w8 ⟨m, rfl, h9, h10⟩)
        have HQ : Hid (SayQ w w8 (.slice lo LL lc) p m L) := ⟨(h4.up h6).up h10, h7.up h10, h9, Below.up (Below.up (Below.up HB3.out h5) h6) h10⟩
        clear CM C10 C11 h4 h5 h6 h7 h9 h10 HB3
        go_upto_region 16 with (fail)
        go_loopw [13] (fun t13 wr => ∃ (n : Nat), t13 = .int .i64 (n : Int) ∧ n ≤ 3 ∧ Hid (SayQ w wr (.slice lo LL lc) p m L)) (fun t13 wr => 3 - iOf t13)
        case atStart => exact ⟨0, rfl, Nat.zero_le _, HQ⟩
        case round =>
          obtain ⟨n, rfl, hn3, HQ1⟩ := hrel
          clear HQ
          by_cases hlt : n < 3
          · have i2 : (n : Int) < 3 := by omega
            go_upto_region 19 with (fail)
            go_loopw [14] (fun t14 wr => ∃ (i : Nat), t14 = .int .i64 (i : Int) ∧ i ≤ N ∧ Hid (SayQ w wr (.slice lo LL lc) p m L)) (fun t14 wr => N - iOf t14)
            case atStart => exact ⟨0, rfl, Nat.zero_le _, HQ1⟩
            case round =>
              obtain ⟨i, rfl, hiN, HQ⟩ := hrel
              clear HQ1
              by_cases hlt2 : i < N
              · have i3 : (i : Int) < (N : Int) := by omega
                obtain ⟨x, hx⟩ : ∃ x, l[i]? = some x := ⟨_, List.getElem?_eq_getElem (by rw [HN.out]; exact hlt2)⟩
                obtain ⟨a, cp, e0, hcx⟩ := (HV.out.below HQ.out.2.2.2).at hx
                cases e0
                have hxs := HXS.out x (List.mem_of_getElem? hx)
                clear hx
                go_wp2_with (first
                  | (go_at_call 14; refine (SU _ _ p m _ _ HQ (by first | exact .inl rfl | exact .inr rfl) hxs).mono ?_; rintro e w7 ⟨rfl, HQ2⟩; clear HQ; rename Hid (SayQ _ _ _ _ _ _) => HQ)
                  | (go_at_call 15; refine (SR _ _ p m _ HQ hxs).mono ?_; rintro e w7 ⟨rfl, HQ2⟩; clear HQ; rename Hid (SayQ _ _ _ _ _ _) => HQ)
                  | (go_at_call 16; refine (QU _ _ p m _ _ HQ (by rfl) hxs).mono ?_; rintro e w7 ⟨rfl, HQ2⟩; clear HQ; rename Hid (SayQ _ _ _ _ _ _) => HQ)
                  | (go_at_call 16; refine (QM _ _ p m _ _ HQ (by rfl) hxs).mono ?_; rintro e w7 ⟨rfl, HQ2⟩; clear HQ; rename Hid (SayQ _ _ _ _ _ _) => HQ)
                  | (go_at_call 18; refine (RI _ _ p m HQ).mono ?_; rintro e w7 ⟨zo, zc, rfl, HZ, HQ2⟩; clear HQ; rename Hid (SayQ _ _ _ _ _ _) => HQ)
                  | (go_at_call 17; refine (RU _ _ _ p m _ HQ (by rfl) hxs).mono ?_; rintro e w7 ⟨rfl, HQ2⟩; clear HQ; rename Hid (SayQ _ _ _ _ _ _) => HQ)
                  | (go_at_call 17; refine (RM _ _ _ _ p m _ HQ HZ (by rfl) hxs).mono ?_; rintro e w7 ⟨rfl, HQ2⟩; clear HQ; rename Hid (SayQ _ _ _ _ _ _) => HQ))
                go_roundw
                case rel => exact ⟨i + 1, by go_num, by omega, HQ⟩
                case measure => simp; omega
              · have hi2 : i = N := by omega
                subst hi2
                go_wp2
                go_roundw
                case rel => exact ⟨n + 1, by go_num, by omega, HQ⟩
                case measure => simp; omega
          · have hn2 : n = 3 := by omega
            subst hn2
            go_wp2
            go_ret
            exact ⟨rfl, HQ1.out.2.2.2⟩
  · rw [decide_eq_false h0] at C9
    clear e2 d3 HLS
    go_wp2_with (go_at_call 9; refine C9.mono ?_; rintro e w4 ⟨rfl, rfl⟩)
    go_ret
    exact ⟨rfl, HB3.out⟩
end Go.Proofs.YtpngnhpnjkepjaaDoor
