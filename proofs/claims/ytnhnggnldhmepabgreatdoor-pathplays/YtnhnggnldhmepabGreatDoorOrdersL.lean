/-
  PathOrders: the walk, and the row.
-/
import Derived.Test.YtnhnggnldhmepabGreatDoorRefOrder
import Derived.Test.YtnhnggnldhmepabGreatDoorUnder
import Derived.Test.YtnhnggnldhmepabGreatDoorAbove
import Derived.Test.YtnhnggnldhmepabGreatDoorCheck
namespace Go.Proofs.YtnhnggnldhmepabGreatDoor
open Go.RowKit

theorem cut_mid : ∀ (a r : By), cut (a ++ 47 :: r) = ((cut a).1, (cut a).2 ++ cuts r)
  | [], r => by simp [cut, cuts]
  | x :: xs, r => by
    have ih := cut_mid xs r
    rw [List.cons_append, cut, cut, ih]
    split <;> simp
theorem cuts_mid (a r : By) : cuts (a ++ 47 :: r) = cuts a ++ cuts r := by
  rw [cuts, cut_mid]; rfl
theorem join_append : ∀ {A Z : List By}, A ≠ [] → Z ≠ [] → joinL (A ++ Z) = joinL A ++ 47 :: joinL Z
  | [], _, h, _ => absurd rfl h
  | [x], Z, _, hz => by
    cases Z with
    | nil => exact absurd rfl hz
    | cons z Z => rfl
  | x :: y :: A, Z, _, hz => by
    have ih := join_append (A := y :: A) (Z := Z) (by simp) hz
    rw [List.cons_append, List.cons_append, joinL, joinL, ← List.cons_append, ih]
    simp
theorem under_pieces (p root : By) : (pieces root <+: pieces p) ↔ underL p root := by
  unfold pieces
  by_cases hr : root = []
  · rw [if_pos hr]; simp [underL, hr]
  · rw [if_neg hr]
    by_cases hp : p = []
    · rw [if_pos hp]
      constructor
      · intro h; simp [cuts] at h
      · rintro (h | h | ⟨r, h⟩)
        · exact absurd h hr
        · rw [hp] at h; exact absurd h.symm hr
        · rw [hp] at h; simp at h
    · rw [if_neg hp]
      constructor
      · rintro ⟨Z, hZ⟩
        have hj := congrArg joinL hZ
        rw [join_cuts] at hj
        by_cases hz : Z = []
        · rw [hz, List.append_nil, join_cuts] at hj; exact .inr (.inl hj.symm)
        · rw [join_append (by simp [cuts]) hz, join_cuts] at hj
          exact .inr (.inr ⟨_, hj.symm⟩)
      · rintro (h | h | ⟨r, h⟩)
        · exact absurd h hr
        · rw [h]; exact List.prefix_rfl
        · rw [h, cuts_mid]; exact List.prefix_append _ _
theorem prefix_take {α : Type} {a b : List α} (ht : a.take b.length = b) : b <+: a := by
  rw [← ht]; exact List.take_prefix _ _
theorem prefix_get {α : Type} {a b : List α} (h : b <+: a) {k : Nat} {x : α} (hk : b[k]? = some x) : a[k]? = some x := by
  obtain ⟨r, rfl⟩ := h
  rw [List.getElem?_append_left (List.getElem?_eq_some_iff.1 hk).1]; exact hk

set_option maxHeartbeats 1000000 in
set_option maxRecDepth 100000 in
theorem refUnder_any (a b : ByteArray) (w : World) (ha : a.size ≤ 1048576) (hb : b.size ≤ 1048576) :
    Calls Tryz.prog 54 #[.string a, .string b] w fun e w' => e = .returned (.bool (underB (tl a) (tl b))) ∧ Below w.heap.size w w' := by
  have CA := pieces_any a w ha
  have CB := fun W => pieces_any b W hb
  have HC : Hid (underB (tl a) (tl b) = true ↔ (pieces (tl b) <+: pieces (tl a))) := by
    show _ ↔ _
    rw [underB_iff, under_pieces]
  have hpa := pieces_len (tl a)
  have hpb := pieces_len (tl b)
  rw [tl_len] at hpa hpb
  generalize hPA : pieces (tl a) = PA at *
  generalize hPB : pieces (tl b) = PB at *
  generalize underB (tl a) (tl b) = res at *
  clear hPA hPB
  go_enter Tryz.func54, Tryz.ntmps54
  go_wp2_with fail
  refine CA.mono ?_
  rintro e w1 ⟨vx, X, rfl, ownX, hX, b1⟩
  go_wp2_with fail
  refine (CB _).mono ?_
  rintro e w2 ⟨vy, Y, rfl, ownY, hY, b2⟩
  have HX : Hid (HasT w2 vx X) := ownX.has.below b2
  have HY : Hid (HasT w2 vy Y) := ownY.has
  have HB : Hid (Below w.heap.size w w2) := Below.up b1 b2
  have lX := map_len hX
  have lY := map_len hY
  have hx0 : X.length ≤ a.size + 1 := by omega
  have hy0 : Y.length ≤ b.size + 1 := by omega
  have MX : Hid (X.map tl = PA) := hX
  have MY : Hid (Y.map tl = PB) := hY
  clear ownX ownY b1 b2 CA CB hX hY lX lY hpa hpb
  obtain ⟨xo, cx, hvx, _⟩ := HX.out.form
  obtain ⟨yo, cy, hvy, _⟩ := HY.out.form
  subst hvx hvy
  by_cases hle : X.length < Y.length
  · have i0 : (X.length : Int) < (Y.length : Int) := by omega
    have hf : Hid (res = false) := by
      show _ = _
      rw [Bool.eq_false_iff]
      intro q
      have := (HC.out.1 q).length_le
      rw [← MX.out, ← MY.out, List.length_map, List.length_map] at this
      omega
    clear HC
    go_wp2
    go_ret
    exact ⟨by rw [hf.out]; rfl, HB.out⟩
  · have i0 : ¬ ((X.length : Int) < (Y.length : Int)) := by omega
    go_wp2
    go_loopw [7] (fun i wr => ∃ k : Nat, Hid (Drew w2 wr) ∧ k ≤ Y.length ∧ i = .int .i64 k ∧ Hid (PA.take k = PB.take k)) (fun i _ => Y.length - iOf i)
    case atStart => exact ⟨0, Drew.refl _, Nat.zero_le _, rfl, by show _ = _; simp⟩
    case round =>
      obtain ⟨k, HW, hk, rfl, HT⟩ := hrel
      by_cases h2 : k < Y.length
      · have h1 : k < X.length := by omega
        have i1 : (k : Int) < (X.length : Int) := by omega
        have i2 : (k : Int) < (Y.length : Int) := by omega
        obtain ⟨x, ex, fx⟩ := at_map h1
        obtain ⟨y, ey, fy⟩ := at_map h2
        rw [MX.out] at fx
        rw [MY.out] at fy
        obtain ⟨a0, _, hva, hca⟩ := (HX.out.drew HW.out).at ex
        obtain ⟨b0, _, hvb, hcb⟩ := (HY.out.drew HW.out).at ey
        simp at hva hvb
        obtain ⟨rfl, rfl⟩ := hva
        obtain ⟨rfl, rfl⟩ := hvb
        by_cases hxy : x.toList = y.toList
        · have hq : (x.toList == y.toList) = true := by simpa using hxy
          have T2 : Hid (PA.take (k + 1) = PB.take (k + 1)) := take_more HT.out fx (by rw [show tl x = tl y from hxy]; exact fy)
          clear hxy fx fy ex ey
          go_wp2_with fail
          go_quiet (fail)
          go_wp2
          go_roundw
          case rel => exact ⟨k + 1, HW.out.more _, by omega, by go_num, T2⟩
          case measure => simp; omega
        · have hq : (x.toList == y.toList) = false := by simpa using hxy
          have hf : Hid (res = false) := by
            show _ = _
            rw [Bool.eq_false_iff]
            intro q
            have := prefix_get (HC.out.1 q) fy
            rw [fx] at this
            exact hxy (Option.some.inj this)
          clear hxy fx fy ex ey HC
          go_wp2_with fail
          go_quiet (fail)
          go_wp2
          go_ret
          exact ⟨by rw [hf.out]; rfl, Below.drews HB.out (HW.out.more _)⟩
      · have i2 : ¬ ((k : Int) < (Y.length : Int)) := by omega
        have ht : Hid (res = true) := by
          show _ = _
          rw [HC.out]
          have e : PB.length = k := by rw [← MY.out, List.length_map]; omega
          refine prefix_take ?_
          rw [e, HT.out, List.take_of_length_le (by omega)]
        clear HC
        go_wp2
        go_ret
        exact ⟨by rw [ht.out]; rfl, Below.drews HB.out HW.out⟩

theorem join_take {L : List By} {k : Nat} {x : By} (h : L[k]? = some x) : joinL (L.take (k + 1)) = (if k = 0 then [] else joinL (L.take k) ++ [47]) ++ x := by
  obtain ⟨hk, hx⟩ := List.getElem?_eq_some_iff.1 h
  rw [List.take_add_one, h]
  by_cases e : k = 0
  · subst e; simp [joinL]
  · rw [if_neg e]
    simp only [Option.toList_some]
    rw [join_append (by rw [ne_eq, List.take_eq_nil_iff]; rintro (q | q); exact e q; (subst q; simp at hk)) (by simp), joinL]
    simp
theorem join_take_le {L : List By} {k : Nat} (hk : k ≤ L.length) : (joinL (L.take k)).length ≤ (joinL L).length := by
  by_cases e : k = 0
  · subst e; simp [joinL]
  · by_cases e2 : L.drop k = []
    · rw [List.drop_eq_nil_iff] at e2
      rw [List.take_of_length_le e2]; exact Nat.le_refl _
    · conv => rhs; rw [← List.take_append_drop k L]
      rw [join_append (by rw [ne_eq, List.take_eq_nil_iff]; rintro (q | q); exact e q; (subst q; simp at e2)) e2]
      simp
theorem size_of_tl {s : ByteArray} {l : By} (h : tl s = l) : s.size = l.length := by rw [← h, tl_len]

/-- a text of these bytes -/
def ofL (l : By) : ByteArray := ⟨l.toArray⟩
theorem tl_ofL (l : By) : tl (ofL l) = l := by simp [tl, ofL]
theorem eq_ofL {s : ByteArray} {l : By} (h : tl s = l) : s = ofL l := ext_of _ _ (by rw [tl_ofL]; exact h)

set_option maxHeartbeats 1000000 in
set_option maxRecDepth 100000 in
theorem refJoin_any (v : Value) (L : List ByteArray) (w : World) (hL : HasT w v L) (hn : L.length ≤ 1048577) (hs : (joinL (L.map tl)).length ≤ 1048576) :
    Calls Tryz.prog 18 #[v] w fun e w' => e = .returned (.string (ofL (joinL (L.map tl)))) ∧ w' = w := by
  have HL : Hid (HasT w v L) := hL
  have HS : Hid ((joinL (L.map tl)).length ≤ 1048576) := hs
  clear hs
  obtain ⟨ao, cap, hv, _⟩ := hL.form
  subst hv
  clear hL
  go_enter Tryz.func18, Tryz.ntmps18
  go_wp2
  go_loop [3, 4] (fun x i => ∃ (k : Nat) (s : ByteArray), x = .string s ∧ i = .int .i64 k ∧ k ≤ L.length ∧ Hid (tl s = joinL ((L.map tl).take k))) (fun _ i => L.length - iOf i)
  case atStart => exact ⟨0, _, rfl, rfl, Nat.zero_le _, by show _ = _; simp [joinL, tl, ByteArray.toList_eq]⟩
  case round =>
    obtain ⟨k, s, rfl, rfl, hk, HT⟩ := hrel
    have hsz : s.size ≤ 1048576 := by
      rw [size_of_tl HT.out]
      exact Nat.le_trans (join_take_le (by rw [List.length_map]; exact hk)) HS.out
    by_cases hlt : k < L.length
    · have i1 : (k : Int) < (L.length : Int) := by omega
      obtain ⟨x, ex, fx⟩ := at_map hlt
      have hjt := join_take fx
      have hle := Nat.le_trans (join_take_le (L := L.map tl) (k := k + 1) (by rw [List.length_map]; exact hlt)) HS.out
      rw [hjt] at hle
      have hxs : s.size + 1 + x.size ≤ 1048578 ∨ k = 0 ∧ x.size ≤ 1048576 := by
        rw [size_of_tl HT.out, ← tl_len x]
        by_cases e : k = 0
        · rw [if_pos e] at hle; right; refine ⟨e, ?_⟩; simpa using hle
        · rw [if_neg e] at hle; simp at hle; left; omega
      obtain ⟨a0, _, hva, hca⟩ := HL.out.at ex
      simp at hva
      obtain ⟨rfl, rfl⟩ := hva
      have hxs2 : x.size ≤ 1048578 := by omega
      by_cases e : k = 0
      · subst e
        have J : Hid (tl (s ++ x) = joinL ((L.map tl).take (0 + 1))) := by
          show _ = _
          rw [hjt, if_pos rfl, tl_append, HT.out]; simp [joinL]
        have hca0 : w.cell? a0 = some (.string x) := by rw [show a0 = a0.add 0 from by cases a0; simp [Addr.add]]; exact hca
        have a1 : s.size + x.size ≤ 9223372036854775807 := by omega
        clear hjt hle hxs ex fx hca
        go_wp2
        exact ⟨⟨1, _, rfl, rfl, by omega, J⟩, by simp; omega⟩
      · have J : Hid (tl (s ++ ⟨#[47]⟩ ++ x) = joinL ((L.map tl).take (k + 1))) := by
          show _ = _
          rw [hjt, if_neg e, tl_append, tl_append, HT.out]; simp [tl, ByteArray.toList_eq]
        have a0' : s.size + 1 ≤ 9223372036854775807 := by omega
        have a1 : s.size + 1 + x.size ≤ 9223372036854775807 := by omega
        have k0 : (0 : Int) < (k : Int) := by omega
        clear hjt hle hxs ex fx e
        go_wp2
        exact ⟨⟨k + 1, _, rfl, rfl, by omega, J⟩, by simp; omega⟩
    · have i1 : ¬ ((k : Int) < (L.length : Int)) := by omega
      have J : Hid (tl s = joinL (L.map tl)) := by
        have h := HT.out
        rw [List.take_of_length_le (by rw [List.length_map]; omega)] at h
        exact h
      have J2 : Hid (s = ofL (joinL (L.map tl))) := eq_ofL J.out
      clear J
      go_wp2
      go_ret
      exact ⟨by rw [← J2.out]; rfl, rfl⟩

theorem above_pieces {l x : By} {A : List By} (e : cuts l = A ++ [x]) : AboveR l (joinL A) x := by
  have hno : (47 : UInt8) ∉ x := fun hm => cuts_no (l := l) x (by rw [e]; simp) 47 hm rfl
  have hj := congrArg joinL e
  rw [join_cuts] at hj
  by_cases hd : A = []
  · subst hd
    have hx : l = x := hj
    subst hx
    exact .inl ⟨rfl, rfl, hno⟩
  · rw [join_append hd (by simp), joinL] at hj
    exact .inr ⟨hj, hno⟩
theorem HasT.take {w : World} {ao : Option Addr} {cap m : Nat} {l : List ByteArray} (h : HasT w (.slice ao l.length cap) l) (hm : m < l.length) : HasT w (.slice ao m cap) (l.take m) := by
  rcases h with ⟨_, rfl⟩ | ⟨a, c, hv, hc, hcell⟩
  · simp at hm
  · simp at hv
    obtain ⟨rfl, rfl⟩ := hv
    refine .inr ⟨a, cap, by simp; omega, by simp; omega, fun i s hi => hcell i s ?_⟩
    rw [List.getElem?_take] at hi
    split at hi
    · exact hi
    · simp at hi

set_option maxHeartbeats 1000000 in
set_option maxRecDepth 100000 in
theorem refAbove_any (s : ByteArray) (w : World) (hs : s.size ≤ 1048576) :
    Calls Tryz.prog 50 #[.string s] w fun e w' => (∃ u v : ByteArray, e = .returned (.tuple #[.string u, .string v]) ∧ AboveR (tl s) (tl u) (tl v)) ∧ Below w.heap.size w w' := by
  have CA := pieces_any s w hs
  have hpl := pieces_len (tl s)
  rw [tl_len] at hpl
  go_enter Tryz.func50, Tryz.ntmps50
  go_wp2_with fail
  refine CA.mono ?_
  rintro e w1 ⟨vx, X, rfl, ownX, hX, b1⟩
  have lX := map_len hX
  have HX : Hid (HasT w1 vx X) := ownX.has
  obtain ⟨xo, cx, hvx, hcx⟩ := HX.out.form
  subst hvx
  have MX : Hid (X.map tl = pieces (tl s)) := hX
  have hx0 : X.length ≤ s.size + 1 := by omega
  clear ownX CA hX lX hpl
  by_cases h0 : tl s = []
  · have e0 : X = [] := by
      have h := MX.out
      unfold pieces at h
      rw [if_pos h0] at h
      simpa using h
    subst e0
    go_wp2
    go_ret2
    exact ⟨⟨_, _, rfl, .inl ⟨by simp [tl, ByteArray.toList_eq], by rw [h0]; simp [tl, ByteArray.toList_eq], by rw [h0]; simp⟩⟩, b1⟩
  · have MC : Hid (X.map tl = cuts (tl s)) := by
      have h := MX.out
      unfold pieces at h
      rw [if_neg h0] at h
      exact h
    obtain ⟨m, hm⟩ : ∃ m, X.length = m + 1 := ⟨(cuts (tl s)).length - 1, by rw [map_len MC.out, cuts_len]; omega⟩
    obtain ⟨x, ex, fx⟩ := at_map (X := X) (k := m) (by omega)
    have hXs : X = X.take m ++ [x] := by
      conv => lhs; rw [← List.take_append_drop m X]
      rw [List.drop_eq_getElem_cons (by omega), List.drop_eq_nil_of_le (by omega)]
      congr 2
      obtain ⟨_, q⟩ := List.getElem?_eq_some_iff.1 ex
      exact q
    have AR : Hid (AboveR (tl s) (joinL ((X.take m).map tl)) (tl x)) := by
      refine above_pieces ?_
      have h := MC.out
      rw [hXs] at h
      rw [← h]; simp
    obtain ⟨a0, _, hva, hca⟩ := HX.out.at ex
    simp at hva
    obtain ⟨rfl, rfl⟩ := hva
    have HM : Hid (HasT w1 (.slice (some a0) m cx) (X.take m)) := HX.out.take (by omega)
    have hjl : (joinL ((X.take m).map tl)).length ≤ 1048576 := by
      rcases AR.out with ⟨q, _⟩ | ⟨q, _⟩
      · rw [q]; simp
      · have := congrArg List.length q
        rw [tl_len] at this
        rw [List.length_append] at this
        omega
    have CJ := fun W (h : HasT W (.slice (some a0) m cx) (X.take m)) => refJoin_any _ _ W h (by simp; omega) hjl
    have hXl : (X.length : Int) = (m : Int) + 1 := by omega
    have hm0 : m + 1 ≤ cx := by omega
    have z0 : ¬ ((m : Int) + 1 = 0) := by omega
    clear hjl ex fx hXs MX MC h0
    have e4 : (m : Int) + 1 - 1 = m := by omega
    rw [hm]
    have AR2 : Hid (AboveR (tl s) (tl (ofL (joinL ((X.take m).map tl)))) (tl x)) := by rw [tl_ofL]; exact AR.out
    clear AR
    generalize ofL (joinL ((X.take m).map tl)) = jo at *
    go_wp2_with fail
    go_quiet ((go_at_call 18; exact Calls.quiet_of_same (CJ _ (HM.out.drew ⟨_, rfl⟩))))
    go_wp2
    go_ret2
    exact ⟨⟨jo, x, rfl, AR2.out⟩, below_drewN b1 _⟩
end Go.Proofs.YtnhnggnldhmepabGreatDoor
namespace Go.Proofs.YtnhnggnldhmepabGreatDoor.ChecksR
open Go.RowKit

set_option maxHeartbeats 400000 in
set_option maxRecDepth 100000 in
theorem walk (s : ByteArray) (w : World) (hs : s.size ≤ maxLen) :
    Calls Tryz.prog 11 #[.string s] w fun e w' => e = .returned (.bool true) ∧ Below w.heap.size w w' := by
  have hs : s.size ≤ 9223372036854775807 := by unfold maxLen at hs; omega
  have C := check_any s w hs
  have C1 := fun W => num_any (eno (nameB (tl s))) W
  have C2 := fun W => refCheck_any s W hs
  generalize eno (nameB (tl s)) = z at *
  go_enter Tryz.func11, Tryz.ntmps11
  go_wp2_with (first
    | (go_at_call 39; refine C.mono ?_; rintro e w1 ⟨rfl, hb⟩)
    | (go_at_call 14; refine (C1 _).mono ?_; rintro e w2 ⟨rfl, rfl⟩)
    | (go_at_call 40; refine (C2 _).mono ?_; rintro e w2 ⟨rfl, rfl⟩))
  go_ret
  exact ⟨rfl, hb⟩
end Go.Proofs.YtnhnggnldhmepabGreatDoor.ChecksR
namespace Go.Proofs.YtnhnggnldhmepabGreatDoor.OrdersR
open Go.RowKit

set_option maxHeartbeats 1000000 in
set_option maxRecDepth 100000 in
theorem short (a b : ByteArray) (w : World) (ha : a.size ≤ 20000) (hb : b.size ≤ 20000) :
    Calls Tryz.prog 19 #[.string a, .string b] w fun e w' => e = .returned (.bool true) ∧ Below w.heap.size w w' := by
  have i1 : ¬ ((20000 : Int) < (a.size : Int)) := by omega
  have i2 : ¬ ((20000 : Int) < (b.size : Int)) := by omega
  have A1 := above_any a w (by omega)
  have A2 := fun W => refAbove_any a W (by omega)
  have C1 := fun W => compare_any a b W (by omega) (by omega)
  have C2 := fun W => refCompare_any a b W (by omega) (by omega)
  have U1 := fun W => under_any a b W (by omega) (by omega)
  have U2 := fun W => refUnder_any a b W (by omega) (by omega)
  have U3 := fun W => under_any b a W (by omega) (by omega)
  have U4 := fun W => refUnder_any b a W (by omega) (by omega)
  generalize cmpL (tl a) (tl b) = z at *
  generalize underB (tl a) (tl b) = q1 at *
  generalize underB (tl b) (tl a) = q2 at *
  have t1 : ∀ q : Bool, (q == q) = true := fun q => by simp
  go_enter Tryz.func19, Tryz.ntmps19
  go_wp2_with fail
  refine A1.mono ?_
  rintro e w1 ⟨⟨u, v, rfl, r1⟩, d1⟩
  go_wp2_with fail
  refine (A2 _).mono ?_
  rintro e w2 ⟨⟨u', v', rfl, r2⟩, b2⟩
  obtain ⟨e1, e2⟩ := r1.one r2
  have e3 := ext_of _ _ e1
  have e4 := ext_of _ _ e2
  subst e3 e4
  have B2 : Hid (Below w.heap.size w w2) := Below.up d1.below b2
  clear d1 b2 r1 r2 e1 e2 A1 A2
  go_wp2_with fail
  refine (C1 _).mono ?_
  rintro e w3 ⟨rfl, d3⟩
  have B3 : Hid (Below w.heap.size w w3) := Below.drews B2.out d3
  clear d3
  go_wp2_with fail
  refine (C2 _).mono ?_
  rintro e w4 ⟨rfl, d4⟩
  have B4 : Hid (Below w.heap.size w w4) := Below.up B3.out d4
  clear d4
  go_wp2_with fail
  refine (U1 _).mono ?_
  rintro e w5 ⟨rfl, e5⟩
  have B5 : Hid (Below w.heap.size w w5) := by rw [e5]; exact B4.out
  clear e5
  go_wp2_with fail
  refine (U2 _).mono ?_
  rintro e w6 ⟨rfl, d6⟩
  have B6 : Hid (Below w.heap.size w w6) := Below.up B5.out d6
  clear d6
  go_wp2_with fail
  refine (U3 _).mono ?_
  rintro e w7 ⟨rfl, e7⟩
  have B7 : Hid (Below w.heap.size w w7) := by rw [e7]; exact B6.out
  clear e7
  go_wp2_with fail
  refine (U4 _).mono ?_
  rintro e w8 ⟨rfl, d8⟩
  have B8 : Hid (Below w.heap.size w w8) := Below.up B7.out d8
  clear d8
  go_wp2
  go_ret
  exact ⟨by simp, B8.out⟩

set_option maxHeartbeats 400000 in
set_option maxRecDepth 100000 in
theorem long (a b : ByteArray) (w : World) (h : 20000 < a.size ∨ 20000 < b.size) :
    Calls Tryz.prog 19 #[.string a, .string b] w fun e w' => e = .returned (.bool true) ∧ Below w.heap.size w w' := by
  by_cases h1 : 20000 < a.size
  · have i1 : (20000 : Int) < (a.size : Int) := by omega
    go_enter Tryz.func19, Tryz.ntmps19
    go_wp2
    go_ret
    exact ⟨rfl, Below.refl _ _⟩
  · have i1 : ¬ ((20000 : Int) < (a.size : Int)) := by omega
    have i2 : (20000 : Int) < (b.size : Int) := by omega
    go_enter Tryz.func19, Tryz.ntmps19
    go_wp2
    go_ret
    exact ⟨rfl, Below.refl _ _⟩

theorem walk (a b : ByteArray) (w : World) (_ : a.size ≤ maxLen) (_ : b.size ≤ maxLen) :
    Calls Tryz.prog 19 #[.string a, .string b] w fun e w' => e = .returned (.bool true) ∧ Below w.heap.size w w' := by
  by_cases h : 20000 < a.size ∨ 20000 < b.size
  · exact long a b w h
  · exact short a b w (by omega) (by omega)
end Go.Proofs.YtnhnggnldhmepabGreatDoor.OrdersR
