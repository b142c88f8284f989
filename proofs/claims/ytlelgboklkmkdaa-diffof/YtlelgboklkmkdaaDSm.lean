import Derived.Test.YtlelgboklkmkdaaCSame
import Derived.Test.YtlelgboklkmkdaaNode
import Derived.Shelf.Small.Strs
set_option maxRecDepth 100000
set_option maxHeartbeats 1000000
namespace Go.Proofs.Ytlelgboklkmkdaa
open Go.RowKit
theorem drop_take_cut {l : By} {f k : Nat} (hf : f ≤ k) (hx : l[k]? = some 47) (hno : ∀ j, f ≤ j → j < k → l[j]? ≠ some 47) : cuts (l.drop f) = (l.drop f).take (k - f) :: cuts (l.drop (k + 1)) := by
  obtain ⟨hk, hx'⟩ := List.getElem?_eq_some_iff.1 hx
  have e : l.drop f = (l.drop f).take (k - f) ++ 47 :: l.drop (k + 1) := by
    conv => lhs; rw [← List.take_append_drop (k - f) (l.drop f)]
    rw [List.drop_drop, show f + (k - f) = k from by omega, List.drop_eq_getElem_cons hk, hx']
  rw [cuts]
  conv => lhs; rw [e]
  rw [cut_at]
  intro x hx1 e2
  subst e2
  obtain ⟨j, hj, ej⟩ := List.mem_iff_getElem.1 hx1
  rw [List.getElem_take, List.getElem_drop] at ej
  simp at hj
  exact hno (f + j) (by omega) (by omega) (by rw [List.getElem?_eq_getElem (by omega), ej])
theorem drop_no_cut {l : By} {f : Nat} (hno : ∀ j, f ≤ j → j < l.length → l[j]? ≠ some 47) : cuts (l.drop f) = [l.drop f] := by
  rw [cuts, cuts_none]
  intro x hx1 e2
  subst e2
  obtain ⟨j, hj, ej⟩ := List.mem_iff_getElem.1 hx1
  rw [List.getElem_drop] at ej
  simp at hj
  exact hno (f + j) (by omega) (by omega) (by rw [List.getElem?_eq_getElem (by omega), ej])
theorem pieces_any (s : ByteArray) (w : World) (hs : s.size ≤ 1048576) :
    Calls Try.prog 34 #[.string s] w fun e w' => ∃ v L, e = .returned v ∧ OwnsT w' w.heap.size v L ∧ L.map tl = pieces (tl s) ∧ Below w.heap.size w w' := by
  obtain ⟨i0, hi, hz0, hz1, hz2⟩ := info_parts Try.info9
  have hlen := tl_len s
  by_cases h0 : s.toList = []
  · have b0 : s.toList.isEmpty = true := by simpa using h0
    go_enter Try.func34, Try.ntmps34
    go_wp2
    go_ret
    exact ⟨_, [], rfl, OwnsT.nil _ _, by unfold pieces; rw [if_pos h0]; rfl, Below.refl _ _⟩
  · have b0 : s.toList.isEmpty = false := by simpa using h0
    have HP : Hid (pieces (tl s) = cuts (tl s)) := by show _ = _; unfold pieces; rw [if_neg h0]
    go_enter Try.func34, Try.ntmps34
    go_wp2
    go_loopw [3, 4, 5] (fun v x y wr => ∃ (L : List ByteArray) (f k : Nat), x = .int .i64 f ∧ y = .int .i64 k ∧ f ≤ k ∧ k ≤ s.size ∧ L.length ≤ k ∧ OwnsT wr w.heap.size v L ∧ Below w.heap.size w wr ∧ Hid (L.map tl ++ cuts ((tl s).drop f) = cuts (tl s) ∧ ∀ j, f ≤ j → j < k → (tl s)[j]? ≠ some 47)) (fun _ _ y _ => s.size - iOf y)
    case atStart => exact ⟨[], 0, 0, rfl, rfl, Nat.le_refl _, Nat.zero_le _, Nat.le_refl _, OwnsT.nil _ _, Below.refl _ _, by simp, fun j _ h => absurd h (Nat.not_lt_zero _)⟩
    case round =>
      obtain ⟨L, f, k, rfl, rfl, hfk, hk, hLk, hown, hb, HI⟩ := hrel
      by_cases hlt : k < s.size
      · have i1 : (k : Int) < (s.size : Int) := by omega
        have e1 := tl_at s k hlt
        by_cases hx : s[k]'hlt = 47
        · have hx' : (((s[k]'hlt).toNat : Int) == 47) = true := by rw [hx]; rfl
          rw [hx] at e1
          have i2 : (f : Int) ≤ (k : Int) := by omega
          have i3 : (k : Int) ≤ (s.size : Int) := by omega
          have E1 : Hid ((tl s)[k]? = some 47) := e1
          clear hx e1
          go_wp2_with (at_builtin; refine wpList_append_own _ rfl _ _ 87 rfl w.heap.size 9 i0 (.string ⟨#[]⟩) 1 16 Try.underlying87 hi hz0 hz1 hz2 rfl (by decide) _ _ _ rfl (World.ownsRow.alloc hown _) ⟨wr.heap.size, 0, none⟩ 1 1 [.string (s.extract f k)] rfl rfl ?c1 ?c2 ?c3 ?c4 ?c5 ?_)
          case c1 => exact one_new
          case c2 => intro u hu; simp at hu; subst hu; rfl
          case c3 => unfold maxLen; omega
          case c4 => omega
          case c5 => have := hb.size; simp; omega
          intro v' w1 hown' hgrow _
          have R1 : OwnsT w1 w.heap.size v' (L ++ [s.extract f k]) := by unfold OwnsT; simpa using hown'
          have R2 := rel_own hb (fun k hk => (hown.lt k hk).1) hgrow
          have R3 : Hid ((L ++ [s.extract f k]).map tl ++ cuts ((tl s).drop (k + 1)) = cuts (tl s) ∧ ∀ j, k + 1 ≤ j → j < k + 1 → (tl s)[j]? ≠ some 47) := by
            refine ⟨?_, fun j a b => by omega⟩
            rw [← HI.out.1, drop_take_cut hfk E1.out HI.out.2]
            simp [tl_extract]
          clear hown' hgrow hown HI
          go_wp2
          go_roundw
          case rel => exact ⟨_, k + 1, k + 1, by go_num, by go_num, Nat.le_refl _, by omega, by simp; omega, R1, R2, R3⟩
          case measure => simp; omega
        · have hx' : (((s[k]'hlt).toNat : Int) == 47) = false := by
            simp only [beq_eq_false_iff_ne, ne_eq]
            intro q; exact hx (UInt8.toNat_inj.1 (by show (s[k]'hlt).toNat = 47; omega))
          have R3 : Hid (L.map tl ++ cuts ((tl s).drop f) = cuts (tl s) ∧ ∀ j, f ≤ j → j < k + 1 → (tl s)[j]? ≠ some 47) := by
            refine ⟨HI.out.1, fun j a b => ?_⟩
            by_cases e : j = k
            · subst e; rw [e1]; simpa using hx
            · exact HI.out.2 j a (by omega)
          clear hx e1 HI
          go_wp2
          go_roundw
          case rel => exact ⟨L, f, k + 1, rfl, by go_num, by omega, by omega, by omega, hown, hb, R3⟩
          case measure => simp; omega
      · have i1 : ¬ ((k : Int) < (s.size : Int)) := by omega
        have i2 : (f : Int) ≤ (s.size : Int) := by omega
        go_wp2_with (at_builtin; refine wpList_append_own _ rfl _ _ 87 rfl w.heap.size 9 i0 (.string ⟨#[]⟩) 1 16 Try.underlying87 hi hz0 hz1 hz2 rfl (by decide) _ _ _ rfl (World.ownsRow.alloc hown _) ⟨wr.heap.size, 0, none⟩ 1 1 [.string (s.extract f s.size)] rfl rfl ?c1 ?c2 ?c3 ?c4 ?c5 ?_)
        case c2 => rfl
        case c3 => unfold maxLen; omega
        case c4 => omega
        case c5 => have := hb.size; simp; omega
        intro v' w1 hown' hgrow _
        have R1 : OwnsT w1 w.heap.size v' (L ++ [s.extract f s.size]) := by unfold OwnsT; simpa using hown'
        have R2 := rel_own hb (fun k hk => (hown.lt k hk).1) hgrow
        have R3 : Hid ((L ++ [s.extract f s.size]).map tl = pieces (tl s)) := by
          show _ = _
          rw [HP.out, ← HI.out.1, drop_no_cut (fun j a b => HI.out.2 j a (by omega)), List.map_append]
          congr 1
          simp only [List.map_cons, List.map_nil]
          rw [tl_extract, List.take_of_length_le (by rw [List.length_drop]; omega)]
        clear hown' hgrow hown HI
        go_wp2
        go_ret
        exact ⟨_, _, rfl, R1, R3.out, R2⟩
theorem u8_neI {x y : UInt8} (h : x ≠ y) : ((x.toNat : Int) != (y.toNat : Int)) = true := by
  simp; intro q; exact h (UInt8.toNat_inj.1 (by omega))
theorem belowL_tri : ∀ {x y : By}, belowL x y = false → belowL y x = false → x = y
  | [], [], _, _ => rfl
  | [], _ :: _, h, _ => by simp [belowL] at h
  | _ :: _, [], _, h => by simp [belowL] at h
  | x :: xs, y :: ys, h1, h2 => by
    rw [belowL] at h1 h2
    by_cases e : x = y
    · rw [if_pos e] at h1; rw [if_pos e.symm] at h2
      rw [e, belowL_tri h1 h2]
    · rw [if_neg e] at h1; rw [if_neg (fun q => e q.symm)] at h2
      simp at h1 h2
      exact absurd (UInt8.toNat_inj.1 (Nat.le_antisymm h2 h1)) e
theorem belowL_self : ∀ x : By, belowL x x = false
  | [] => rfl
  | x :: xs => by rw [belowL, if_pos rfl]; exact belowL_self xs
theorem cmpP_at : ∀ (k : Nat) (a b : List By) (x y : By), a.take k = b.take k → a[k]? = some x → b[k]? = some y → (belowL x y = true → cmpP a b = -1) ∧ (belowL x y = false → belowL y x = true → cmpP a b = 1)
  | 0, a, b, x, y, _, ha, hb => by
    cases a with
    | nil => simp at ha
    | cons a0 a => cases b with
      | nil => simp at hb
      | cons b0 b =>
        simp at ha hb
        subst ha hb
        refine ⟨fun h => by rw [cmpP, if_pos h], fun h h2 => by rw [cmpP, if_neg (by rw [h]; simp), if_pos h2]⟩
  | k + 1, a, b, x, y, h, ha, hb => by
    cases a with
    | nil => simp at ha
    | cons a0 a => cases b with
      | nil => simp at hb
      | cons b0 b =>
        simp at h ha hb
        rw [cmpP, h.1, belowL_self]
        simp only [Bool.false_eq_true, if_false]
        exact cmpP_at k a b x y h.2 ha hb
theorem cmpP_len : ∀ (k : Nat) (a b : List By), k = min a.length b.length → a.take k = b.take k → cmpP a b = cmpI a.length b.length
  | 0, a, b, hk, _ => by
    cases a with
    | nil => cases b with
      | nil => rfl
      | cons b0 b => rw [cmpP, cmpI, if_pos (by simp)]
    | cons a0 a => cases b with
      | nil => rw [cmpP, cmpI, if_neg (by simp; omega), if_pos (by simp)]
      | cons b0 b => simp at hk
  | k + 1, a, b, hk, h => by
    cases a with
    | nil => simp at hk
    | cons a0 a => cases b with
      | nil => simp at hk
      | cons b0 b =>
        simp at h
        rw [cmpP, h.1, belowL_self]
        simp only [Bool.false_eq_true, if_false]
        rw [cmpP_len k a b (by simp at hk; omega) h.2]
        simp only [cmpI, List.length_cons]
        repeat' split
        all_goals omega
theorem below_any (a b : ByteArray) (w : World) (ha : a.size ≤ 1152921504606846976) (_hb : b.size ≤ 1152921504606846976) :
    Calls Try.prog 35 #[.string a, .string b] w fun e w' => e = .returned (.bool (belowL (tl a) (tl b))) ∧ Drew w w' := by
  have hla := tl_len a
  have hlb := tl_len b
  go_enter Try.func35, Try.ntmps35
  go_wp2
  go_loopw [5] (fun i wr => ∃ k : Nat, Hid (Drew w wr) ∧ k ≤ a.size ∧ k ≤ b.size ∧ i = .int .i64 k ∧ (tl a).take k = (tl b).take k) (fun i _ => a.size - iOf i)
  case atStart => exact ⟨0, Drew.refl _, Nat.zero_le _, Nat.zero_le _, rfl, by simp⟩
  case round =>
    obtain ⟨k, HW, hk, hk2, rfl, htk⟩ := hrel
    have HT : Hid ((tl a).take k = (tl b).take k) := htk
    clear htk
    by_cases hlt : k < a.size ∧ k < b.size
    · obtain ⟨h1, h2⟩ := hlt
      have i1 : (k : Int) < (a.size : Int) := by omega
      have i2 : (k : Int) < (b.size : Int) := by omega
      have E1 : Hid ((tl a)[k]? = some (a[k]'h1)) := tl_at a k h1
      have E2 : Hid ((tl b)[k]? = some (b[k]'h2)) := tl_at b k h2
      by_cases hab : a[k]'h1 = b[k]'h2
      · have HT2 : Hid ((tl a).take (k + 1) = (tl b).take (k + 1)) := take_more HT.out E1.out (by rw [hab]; exact E2.out)
        go_wp2_with fail
        go_quiet (fail)
        go_wp2
        go_roundw
        case rel => exact ⟨k + 1, HW.out.more _, by omega, by omega, by go_num, HT2.out⟩
        case measure => simp; omega
      · have hr : belowL (tl a) (tl b) = decide ((a[k]'h1).toNat < (b[k]'h2).toNat) := by rw [belowL_at k _ _ _ _ HT.out E1.out E2.out hab]; simp
        have HR : Hid (belowL (tl a) (tl b) = decide ((a[k]'h1).toNat < (b[k]'h2).toNat)) := hr
        have hne := u8_neI hab
        clear hr
        go_wp2_with fail
        go_quiet (fail)
        obtain ⟨wq, hq⟩ : ∃ wq, wr.drewN nq = wq := ⟨_, rfl⟩
        rw [hq]
        have HW2 : Hid (Drew w wq) := by show Drew w wq; rw [← hq]; exact HW.out.more _
        clear hq HW
        go_wp2_with fail
        go_quiet (fail)
        go_wp2
        go_ret
        exact ⟨by rw [HR.out]; rfl, HW2.out.more _⟩
    · have hr : belowL (tl a) (tl b) = decide (a.size < b.size) := by rw [← tl_len a, ← tl_len b, belowL_len k _ _ (by rw [tl_len, tl_len]; omega) HT.out]; simp
      have HR : Hid (belowL (tl a) (tl b) = decide (a.size < b.size)) := hr
      clear hr
      by_cases h1 : k < a.size
      · have i1 : (k : Int) < (a.size : Int) := by omega
        have i2 : ¬ ((k : Int) < (b.size : Int)) := by omega
        go_wp2
        go_ret
        exact ⟨by rw [HR.out]; rfl, HW.out⟩
      · have i1 : ¬ ((k : Int) < (a.size : Int)) := by omega
        go_wp2
        go_ret
        exact ⟨by rw [HR.out]; rfl, HW.out⟩
theorem map_len {X : List ByteArray} {P : List By} (h : X.map tl = P) : X.length = P.length := by rw [← h, List.length_map]
theorem at_map {X : List ByteArray} {k : Nat} (h : k < X.length) : ∃ s, X[k]? = some s ∧ (X.map tl)[k]? = some (tl s) := ⟨X[k], List.getElem?_eq_getElem h, by simp [List.getElem?_eq_getElem h]⟩
theorem mem_size {P : List By} {X : List ByteArray} {n k : Nat} {s : ByteArray} (h : X.map tl = P) (hP : ∀ p ∈ P, p.length ≤ n) (hk : X[k]? = some s) : s.size ≤ n := by
  rw [← tl_len]
  exact hP _ (by rw [← h]; exact List.mem_map_of_mem (List.mem_of_getElem? hk))
theorem cut_small : ∀ l : By, (cut l).1.length ≤ l.length ∧ ∀ p ∈ (cut l).2, p.length ≤ l.length
  | [] => by simp [cut]
  | x :: xs => by
    have ⟨i1, i2⟩ := cut_small xs
    rw [cut]
    by_cases h : x = 47
    · rw [if_pos h]
      refine ⟨by simp, fun p hp => ?_⟩
      simp only [List.mem_cons] at hp
      rcases hp with rfl | hp
      · simp; omega
      · have := i2 p hp; simp; omega
    · rw [if_neg h]
      refine ⟨by simp; omega, fun p hp => by have := i2 p hp; simp; omega⟩
theorem pieces_small (l : By) : ∀ p ∈ pieces l, p.length ≤ l.length := by
  intro p hp
  unfold pieces at hp
  split at hp
  · simp at hp
  · simp only [cuts, List.mem_cons] at hp
    rcases hp with rfl | hp
    · exact (cut_small l).1
    · exact (cut_small l).2 p hp
theorem count_le (l : By) : l.count 47 ≤ l.length := List.count_le_length
theorem pieces_len (l : By) : (pieces l).length ≤ l.length + 1 := by
  unfold pieces
  split
  · simp
  · rw [cuts_len]; have := count_le l; omega
theorem refCompare_any (a b : ByteArray) (w : World) (ha : a.size ≤ 1048576) (hb : b.size ≤ 1048576) :
    Calls Try.prog 21 #[.string a, .string b] w fun e w' => e = .returned (.int .i64 (cmpL (tl a) (tl b))) ∧ Below w.heap.size w w' := by
  have CA := pieces_any a w ha
  have CB := fun W => pieces_any b W hb
  have HC : Hid (cmpL (tl a) (tl b) = cmpP (pieces (tl a)) (pieces (tl b))) := (cmpP_pieces _ _).symm
  have hpa := pieces_len (tl a)
  have hpb := pieces_len (tl b)
  rw [tl_len] at hpa hpb
  have CC := fun x y W hx hy => below_any x y W hx hy
  have SA : Hid (∀ p ∈ pieces (tl a), p.length ≤ a.size) := by intro p hp; rw [← tl_len a]; exact pieces_small _ p hp
  have SB : Hid (∀ p ∈ pieces (tl b), p.length ≤ b.size) := by intro p hp; rw [← tl_len b]; exact pieces_small _ p hp
  generalize hPA : pieces (tl a) = PA at *
  generalize hPB : pieces (tl b) = PB at *
  clear hPA hPB
  go_enter Try.func21, Try.ntmps21
  go_wp2_with fail
  refine CA.mono ?_
  rintro e w1 ⟨vx, X, rfl, ownX, hX, b1⟩
  go_wp2_with fail
  refine (CB _).mono ?_
  rintro e w2 ⟨vy, Y, rfl, ownY, hY, b2⟩
  have HX : Hid (HasT w2 vx X) := ownX.has.below b2
  have HY : Hid (HasT w2 vy Y) := ownY.has
  have HB : Hid (Below w.heap.size w w2) := Below.up b1 b2
  have lX := map_len hX
  have lY := map_len hY
  have hx0 : X.length ≤ a.size + 1 := by omega
  have hy0 : Y.length ≤ b.size + 1 := by omega
  have MX : Hid (X.map tl = PA) := hX
  have MY : Hid (Y.map tl = PB) := hY
  clear ownX ownY b1 b2 CA CB hX hY lX lY hpa hpb
  obtain ⟨xo, cx, hvx, _⟩ := HX.out.form
  obtain ⟨yo, cy, hvy, _⟩ := HY.out.form
  subst hvx hvy
  go_wp2
  go_loopw [7] (fun i wr => ∃ k : Nat, Hid (Drew w2 wr) ∧ k ≤ X.length ∧ k ≤ Y.length ∧ i = .int .i64 k ∧ Hid (PA.take k = PB.take k)) (fun i _ => X.length - iOf i)
  case atStart => exact ⟨0, Drew.refl _, Nat.zero_le _, Nat.zero_le _, rfl, by show _ = _; simp⟩
  case round =>
    obtain ⟨k, HW, hk, hk2, rfl, HT⟩ := hrel
    by_cases hlt : k < X.length ∧ k < Y.length
    · obtain ⟨h1, h2⟩ := hlt
      have i1 : (k : Int) < (X.length : Int) := by omega
      have i2 : (k : Int) < (Y.length : Int) := by omega
      obtain ⟨x, ex, fx⟩ := at_map h1
      obtain ⟨y, ey, fy⟩ := at_map h2
      rw [MX.out] at fx
      rw [MY.out] at fy
      have hxs : x.size ≤ 1152921504606846976 := by have := mem_size MX.out SA.out ex; omega
      have hys : y.size ≤ 1152921504606846976 := by have := mem_size MY.out SB.out ey; omega
      obtain ⟨a0, _, hva, hca⟩ := (HX.out.drew HW.out).at ex
      obtain ⟨b0, _, hvb, hcb⟩ := (HY.out.drew HW.out).at ey
      simp at hva hvb
      obtain ⟨rfl, rfl⟩ := hva
      obtain ⟨rfl, rfl⟩ := hvb
      have C1 := fun W => CC x y W hxs hys
      have C2 := fun W => CC y x W hys hxs
      have key := cmpP_at k PA PB (tl x) (tl y) HT.out fx fy
      have ftri : belowL (tl x) (tl y) = false → belowL (tl y) (tl x) = false → Hid (PA.take (k + 1) = PB.take (k + 1)) := fun q1 q2 => take_more HT.out fx (by rw [belowL_tri q1 q2]; exact fy)
      have KEY : Hid ((belowL (tl x) (tl y) = true → cmpP PA PB = -1) ∧ (belowL (tl x) (tl y) = false → belowL (tl y) (tl x) = true → cmpP PA PB = 1)) := key
      have TRI : Hid (belowL (tl x) (tl y) = false → belowL (tl y) (tl x) = false → Hid (PA.take (k + 1) = PB.take (k + 1))) := ftri
      clear key ftri fx fy ex ey hxs hys
      generalize belowL (tl x) (tl y) = q1 at *
      generalize belowL (tl y) (tl x) = q2 at *
      cases q1 with
      | true =>
        have K1 : Hid (cmpP PA PB = -1) := KEY.out.1 rfl
        clear KEY TRI C2
        go_wp2_with fail
        go_quiet ((go_at_call 35; exact Calls.quiet_of (C1 _)))
        go_wp2
        go_ret
        exact ⟨by rw [HC.out, K1.out]; rfl, Below.drews HB.out (HW.out.more _)⟩
      | false =>
        have K0 : Hid (q2 = true → cmpP PA PB = 1) := fun h => KEY.out.2 rfl h
        have T0 : Hid (q2 = false → Hid (PA.take (k + 1) = PB.take (k + 1))) := fun h => TRI.out rfl h
        clear KEY TRI
        go_wp2_with fail
        go_quiet ((go_at_call 35; exact Calls.quiet_of (C1 _)))
        obtain ⟨wq, hq⟩ : ∃ wq, wr.drewN nq = wq := ⟨_, rfl⟩
        rw [hq]
        have HW2 : Hid (Drew w2 wq) := by show Drew w2 wq; rw [← hq]; exact HW.out.more _
        have hca2 : wq.cell? (a0.add k) = some (.string x) := by rw [← hq]; simpa using hca
        have hcb2 : wq.cell? (b0.add k) = some (.string y) := by rw [← hq]; simpa using hcb
        clear hq HW hca hcb
        cases q2 with
        | true =>
          have K1 : Hid (cmpP PA PB = 1) := K0.out rfl
          clear K0 T0
          go_wp2_with fail
          go_quiet ((go_at_call 35; exact Calls.quiet_of (C2 _)))
          go_wp2
          go_ret
          exact ⟨by rw [HC.out, K1.out]; rfl, Below.drews HB.out (HW2.out.more _)⟩
        | false =>
          have T2 := T0.out rfl
          clear K0 T0
          go_wp2_with fail
          go_quiet ((go_at_call 35; exact Calls.quiet_of (C2 _)))
          go_wp2
          go_roundw
          case rel => exact ⟨k + 1, HW2.out.more _, by omega, by omega, by go_num, T2⟩
          case measure => simp; omega
    · have hr : cmpP PA PB = cmpI X.length Y.length := by
        rw [cmpP_len k PA PB (by rw [← MX.out, ← MY.out, List.length_map, List.length_map]; omega) HT.out, ← MX.out, ← MY.out, List.length_map, List.length_map]
      have HR : Hid (cmpP PA PB = cmpI X.length Y.length) := hr
      clear hr
      have cc : (cmpI X.length Y.length = -1 ∧ (X.length : Int) < (Y.length : Int)) ∨ (cmpI X.length Y.length = 1 ∧ ¬ ((X.length : Int) < (Y.length : Int)) ∧ (Y.length : Int) < (X.length : Int)) ∨ (cmpI X.length Y.length = 0 ∧ ¬ ((X.length : Int) < (Y.length : Int)) ∧ ¬ ((Y.length : Int) < (X.length : Int))) := by
        unfold cmpI
        by_cases h : (X.length : Int) < (Y.length : Int)
        · exact .inl ⟨if_pos h, h⟩
        · by_cases h2 : (Y.length : Int) < (X.length : Int)
          · exact .inr (.inl ⟨by rw [if_neg h, if_pos h2], h, h2⟩)
          · exact .inr (.inr ⟨by rw [if_neg h, if_neg h2], h, h2⟩)
      have CCC : Hid (cmpP PA PB = -1 ∧ (X.length : Int) < (Y.length : Int) ∨ cmpP PA PB = 1 ∧ ¬ ((X.length : Int) < (Y.length : Int)) ∧ (Y.length : Int) < (X.length : Int) ∨ cmpP PA PB = 0 ∧ ¬ ((X.length : Int) < (Y.length : Int)) ∧ ¬ ((Y.length : Int) < (X.length : Int))) := by rw [HR.out]; exact cc
      clear cc HR
      by_cases h1 : k < X.length
      all_goals
        first
          | have i1 : (k : Int) < (X.length : Int) := by omega
            have i2 : ¬ ((k : Int) < (Y.length : Int)) := by omega
          | have i1 : ¬ ((k : Int) < (X.length : Int)) := by omega
        rcases CCC.out with ⟨e, c1⟩ | ⟨e, c1, c2⟩ | ⟨e, c1, c2⟩
        all_goals
          have E : Hid (cmpP PA PB = _) := e
          clear e CCC
          go_wp2
          go_ret
          exact ⟨by rw [HC.out, E.out]; rfl, Below.drews HB.out HW.out⟩
end Go.Proofs.Ytlelgboklkmkdaa
/-
  Small functions of diff and of its reference by contract.
-/
namespace Go.Proofs.Ytlelgboklkmkdaa
open Go.RowKit
def belowS (p nm : ByteArray) : ByteArray := if p.toList.isEmpty then nm else p ++ ⟨#[47]⟩ ++ nm
theorem below13_any (p nm : ByteArray) (w : World) (hp : p.size ≤ 1000000) (hn : nm.size ≤ 1000000) : Calls Try.prog 51 #[.string p, .string nm] w fun e w' => e = .returned (.string (belowS p nm)) ∧ w' = w := by
  by_cases h : p.toList.isEmpty = true
  · have e : belowS p nm = nm := if_pos h
    rw [e]
    go_enter Try.func51, Try.ntmps51
    go_wp2
    all_goals go_ret
    all_goals exact ⟨rfl, rfl⟩
  · have e : belowS p nm = p ++ ⟨#[47]⟩ ++ nm := if_neg h
    have h' : p.toList.isEmpty = false := by simpa using h
    rw [e]
    clear h
    go_enter Try.func51, Try.ntmps51
    go_wp2
    all_goals go_ret
    all_goals exact ⟨rfl, rfl⟩
theorem subtree_none (w : World) : Calls Try.prog 42 #[.pointer none] w fun e w' => e = .returned (.pointer none) ∧ w' = w := by
  go_enter Try.func42, Try.ntmps42
  go_wp2
  all_goals go_ret
  all_goals exact ⟨rfl, rfl⟩
theorem subtree_some (B o p : Nat) (w : World) (h : w.cell? ⟨B, o + 1, none⟩ = some (.pointer (some ⟨p, 0, none⟩))) : Calls Try.prog 42 #[.pointer (some ⟨B, o, none⟩)] w fun e w' => e = .returned (.pointer (some ⟨p, 0, none⟩)) ∧ w' = w := by
  go_enter Try.func42, Try.ntmps42
  go_wp2
  all_goals go_ret
  all_goals exact ⟨rfl, rfl⟩
theorem under24v : Try.prog.underlying 24 = some (.struct (Try.prog.fieldsOf 24)) := by kernel_rfl
theorem size24v : (Try.prog.info? 24).map (·.size) = some 35 := by kernel_rfl
def vzA : Array Value := (Ch.vx Ch.vz).toArray
theorem zero24v : (Try.prog.info? 24).bind (·.zero) = some (.agg vzA) := by kernel_rfl
theorem vx_oneM (v : Vd) : (vx v).toArray.all (·.oneCell') = true := by
  have := Ch.vx_oneA ⟨v.kind, v.mode, v.size, v.sum, v.len⟩
  exact this
/-- Value of a tree -/
theorem value_any (p : Nat) (v : Vd) (m : Md) (k : K) (w : World) (h : AtT w p v m k) : Calls Try.prog 52 #[.pointer (some ⟨p, 0, none⟩)] w fun e w' => e = .returned (.agg (vx v).toArray) ∧ Below w.heap.size w w' := by
  obtain ⟨pk, hl, _⟩ := h
  obtain ⟨B, hB⟩ : ∃ B, w.heap.size = B := ⟨_, rfl⟩
  obtain ⟨Y, hY⟩ : ∃ Y, (vx v).toArray = Y := ⟨_, rfl⟩
  have HY : Hid (Y.size = 35 ∧ Y.all (·.oneCell') = true) := ⟨by rw [← hY]; simp [vx_len], by rw [← hY]; exact vx_oneM v⟩
  have hp : Lies w p 0 Y := by have := hl.part 0 35; rwa [tc_val, hY] at this
  have n1 := Ch.new_varT w 24 vzA Y
  rw [hB] at n1
  have g0 : Below w.heap.size w (w.alloc (.cells vzA 24)) := (Below.refl _ w).alloc (Nat.le_refl _) _
  have HL : Hid (Lies (w.alloc (.cells vzA 24)) p 0 Y) := fun j u hj => (g0.cell (World.block_lt_of_cell? w _ (hp j u hj))).trans (hp j u hj)
  have HA : Hid ((w.alloc (.cells vzA 24)).heap[B]? = some (.cells vzA 24 (0, 0))) := by rw [← hB]; exact heap_alloc_new _ _
  obtain ⟨w1, hw1⟩ : ∃ w1, (w.alloc (.cells vzA 24)).setRow B Y = w1 := ⟨_, rfl⟩
  rw [hw1] at n1
  have HW := hid hw1
  have HN := hid n1
  rw [hY]
  clear hl hp n1 g0 hw1 hY
  go_enter Try.func52, Try.ntmps52
  go_wp2_with (first
    | ((with_reducible refine wpList_execW (.pointer (some ⟨B, 0, none⟩)) (w.alloc (.cells vzA 24)) ?_ ?_ ?_); exact Ch.exec_allocT 24 vzA rfl zero24v _ _ hB; kernel_rfl)
    | ((with_reducible refine wpList_exec (.agg Y) ?_ ?_ ?_); exact Ch.exec_load 24 _ rfl p 0 rfl Y _ HL.out under24v rfl (by rw [size24v, HY.out.1]); kernel_rfl)
    | ((with_reducible refine wpList_skipW w1 ?_ ?_ ?_); exact (by rw [← HW.out]; exact Ch.exec_storeT 24 _ _ rfl B Y vzA rfl rfl _ HA.out (by rw [size24v, HY.out.1]) (by rw [HY.out.1]; rfl) HY.out.2); kernel_rfl))
  refine bodyPost_ret (results_cell_row (P := Try.prog) (p := 2) (ty := 24) rfl _ _ B 24 Y (0, 0) _ rfl HN.out.2.1 under24v rfl (by rw [size24v, HY.out.1])) rfl ?_
  exact ⟨rfl, by have := HN.out.1; rwa [hB]⟩
/-- valueOf nothing -/
theorem valueOf_none (w : World) : Calls Try.prog 36 #[.pointer none] w fun e w' => e = .returned (.agg vzA) ∧ Below w.heap.size w w' := by
  obtain ⟨B, hB⟩ : ∃ B, w.heap.size = B := ⟨_, rfl⟩
  have n1 := Ch.new_varT w 24 vzA vzA
  rw [hB] at n1
  have HA : Hid ((w.alloc (.cells vzA 24)).heap[B]? = some (.cells vzA 24 (0, 0))) := by rw [← hB]; exact heap_alloc_new _ _
  obtain ⟨w1, hw1⟩ : ∃ w1, (w.alloc (.cells vzA 24)).setRow B vzA = w1 := ⟨_, rfl⟩
  rw [hw1] at n1
  have HW := hid hw1
  have HN := hid n1
  have HV : Hid (vzA.all (·.oneCell') = true) := Ch.vx_oneA _
  have HB : Hid (Try.prog.built 24 [] = some vzA) := by show Try.prog.built 24 [] = some vzA; kernel_rfl
  clear n1 hw1
  go_enter Try.func36, Try.ntmps36
  go_wp2_with (first
    | ((with_reducible refine wpList_execW (.pointer (some ⟨B, 0, none⟩)) (w.alloc (.cells vzA 24)) ?_ ?_ ?_); exact Ch.exec_allocT 24 vzA rfl zero24v _ _ hB; kernel_rfl)
    | ((with_reducible refine wpList_skipW w1 ?_ ?_ ?_); exact (by rw [← HW.out]; exact Ch.exec_storeT 24 _ _ rfl B vzA vzA rfl rfl _ HA.out (by rw [size24v]; rfl) rfl HV.out); kernel_rfl))
  refine bodyPost_ret (results_cell_row (P := Try.prog) (p := 2) (ty := 24) rfl _ _ B 24 vzA (0, 0) _ rfl HN.out.2.1 under24v rfl (by rw [size24v]; rfl)) rfl ?_
  exact ⟨rfl, by have := HN.out.1; rwa [hB]⟩
/-- valueOf a tree -/
theorem valueOf_some (p : Nat) (v : Vd) (m : Md) (k : K) (w : World) (h : AtT w p v m k) : Calls Try.prog 36 #[.pointer (some ⟨p, 0, none⟩)] w fun e w' => e = .returned (.agg (vx v).toArray) ∧ Below w.heap.size w w' := by
  obtain ⟨B, hB⟩ : ∃ B, w.heap.size = B := ⟨_, rfl⟩
  obtain ⟨w0, hw0⟩ : ∃ w0, w.alloc (.cells vzA 24) = w0 := ⟨_, rfl⟩
  have g0 : Below w.heap.size w w0 := by rw [← hw0]; exact (Below.refl _ w).alloc (Nat.le_refl _) _
  have a0 : w0.heap[B]? = some (.cells vzA 24 (0, 0)) := by rw [← hw0, ← hB]; exact heap_alloc_new _ _
  have CV := hid (value_any p v m k w0 (h.grow g0))
  obtain ⟨Y, hY⟩ : ∃ Y, (vx v).toArray = Y := ⟨_, rfl⟩
  have HY : Hid (Y.size = 35 ∧ Y.all (·.oneCell') = true) := ⟨by rw [← hY]; simp [vx_len], by rw [← hY]; exact vx_oneM v⟩
  rw [hY] at CV ⊢
  have H0 := hid (And.intro g0 a0)
  clear h g0 a0 hY
  go_enter Try.func36, Try.ntmps36
  go_upto_region 3 with ((with_reducible refine wpList_execW (.pointer (some ⟨B, 0, none⟩)) (w.alloc (.cells vzA 24)) ?_ ?_ ?_); exact Ch.exec_allocT 24 vzA rfl zero24v _ _ hB; kernel_rfl)
  go_wp2_with (first
    | (go_at_call 52; refine CV.out.mono ?_; rintro e w1 ⟨rfl, b1⟩; have H1 := hid b1; clear b1)
    | ((with_reducible refine wpList_skipW (w1.setRow B Y) ?_ ?_ ?_); exact Ch.exec_storeT 24 _ _ rfl B Y vzA rfl rfl _ ((H1.out.block B (Array.getElem?_eq_some_iff.1 H0.out.2).1).trans H0.out.2) (by rw [size24v, HY.out.1]) (by rw [HY.out.1]; rfl) HY.out.2; kernel_rfl))
  have hB1 := (H1.out.block B (Array.getElem?_eq_some_iff.1 H0.out.2).1).trans H0.out.2
  refine bodyPost_ret (results_cell_row (P := Try.prog) (p := 2) (ty := 24) rfl _ _ B 24 Y (0, 0) _ rfl (setRow_heap _ _ vzA Y 24 _ hB1) under24v rfl (by rw [size24v, HY.out.1])) rfl ?_
  refine ⟨rfl, ?_⟩
  have b1 : Below w.heap.size w w1 := Below.trans H0.out.1 (H1.out.mono H0.out.1.size)
  exact ⟨b1.os, b1.tape, b1.output, by have := b1.size; simpa using this, fun b hb => (setRow_other _ _ _ _ (by omega)).trans (b1.block b hb)⟩
def cmpB (a b : ByteArray) : Int := Lib.compareBytes a.data.toList b.data.toList
theorem cmpStr_any (a b : ByteArray) (w : World) : Calls Try.prog 63 #[.string a, .string b] w fun e w' => e = .returned (.int .i64 (cmpB a b)) ∧ w' = w := by
  go_enter Try.func63, Try.ntmps63
  go_wp2
  rw [run_callFunc_extern Try.func75 (by kernel_rfl) (by kernel_rfl) (by kernel_rfl) (e := Extern.BytealgCompare.compare) (by kernel_rfl), Lib.run_compareString]
  simp only [Result.andThen]
  rw [Oper.upon_value]
  go_wp2
  go_ret
  exact ⟨rfl, rfl⟩
theorem sCompare_any (a b : ByteArray) (w : World) : Calls Try.prog 55 #[.string a, .string b] w fun e w' => e = .returned (.int .i64 (cmpB a b)) ∧ w' = w := by
  go_enter Try.func55, Try.ntmps55
  go_wp2_with (go_at_call 63; refine (cmpStr_any _ _ _).mono ?_; rintro e wq ⟨rfl, rfl⟩)
  go_ret
  exact ⟨rfl, rfl⟩
theorem compareKids_any (g1 o1 g2 o2 : Nat) (a b : ByteArray) (w : World) (h1 : w.cell? ⟨g1, o1, none⟩ = some (.string a)) (h2 : w.cell? ⟨g2, o2, none⟩ = some (.string b)) :
    Calls Try.prog 40 #[.pointer (some ⟨g1, o1, none⟩), .pointer (some ⟨g2, o2, none⟩)] w fun e w' => e = .returned (.int .i64 (cmpB a b)) ∧ Drew w w' := by
  have CC := fun W => sCompare_any a b W
  go_enter Try.func40, Try.ntmps40
  go_wp2_with fail
  go_quiet ((go_at_call 55; exact Calls.quiet_of_same (CC _)))
  go_wp2
  go_ret
  exact ⟨rfl, _, rfl⟩
theorem below_of_cmp : ∀ a b : By, (Lib.compareBytes a b = -1 ↔ belowL a b = true) ∧ (Lib.compareBytes a b = 0 ↔ a = b) ∧ (Lib.compareBytes a b = 1 ↔ belowL b a = true)
  | [], [] => by simp [Lib.compareBytes, belowL]
  | [], _ :: _ => by simp [Lib.compareBytes, belowL]
  | _ :: _, [] => by simp [Lib.compareBytes, belowL]
  | x :: a, y :: b => by
    have ih := below_of_cmp a b
    unfold Lib.compareBytes belowL
    by_cases e : x = y
    · subst e
      have hlt : ¬ x < x := UInt8.lt_irrefl x
      simp only [hlt, if_false, if_true, List.cons.injEq, true_and]
      exact ih
    · have e' : ¬ y = x := fun q => e q.symm
      simp only [e, e', if_false, List.cons.injEq, false_and, iff_false]
      by_cases hlt : x < y
      · have h2 : x.toNat < y.toNat := UInt8.lt_iff_toNat_lt.1 hlt
        simp [hlt, h2]
        omega
      · have h2 : y < x := UInt8.lt_of_le_of_ne (UInt8.not_lt.1 hlt) e'
        have h3 : y.toNat < x.toNat := UInt8.lt_iff_toNat_lt.1 h2
        simp [hlt, h2, h3]
        omega
end Go.Proofs.Ytlelgboklkmkdaa
