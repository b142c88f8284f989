/-
  the reference's fits.
-/
import Derived.Test.YtpngnhpnjkepjaaGreatDoorSign
import Derived.Test.YtpngnhpnjkepjaaGreatDoorTexts
import Derived.Laws.OwnMore
import Derived.Deep.OwnRows
import Derived.BigRegion
namespace Go.Proofs.YtpngnhpnjkepjaaGreatDoor
open Go.RowKit

theorem Tryz.info121 : (Tryz.prog.info? 121).map (fun i => (i.zero, i.size, i.bytes)) = some (some (.agg #[.bool false, .bool false, .int .u8 0]), 3, 3) := by kernel_rfl
abbrev Sg : Type := Option (Option UInt8)
/-- a sign's cells -/
def sgc : Sg → List Value
  | none => [.bool true, .bool false, .int .u8 0]
  | some none => [.bool false, .bool true, .int .u8 0]
  | some (some c) => [.bool false, .bool false, .int .u8 (c.toNat : Int)]
def sgcs (K : List Sg) : List Value := (K.map sgc).flatten
theorem sgc_len (k : Sg) : (sgc k).length = 3 := by
  rcases k with _ | _ | c <;> rfl
theorem sgcs_len (K : List Sg) : (sgcs K).length = 3 * K.length := by
  induction K with
  | nil => rfl
  | cons k K ih =>
    show ((sgc k) ++ sgcs K).length = _
    rw [List.length_append, sgc_len, ih, List.length_cons]; omega
theorem sgcs_snoc (K : List Sg) (k : Sg) : sgcs (K ++ [k]) = sgcs K ++ sgc k := by simp [sgcs]
def OwnsK (w : World) (lo : Nat) (v : Value) (K : List Sg) : Prop := w.ownsRow lo 121 3 v K.length (sgcs K)

theorem three_new {w : World} {a b c : Value} {T : TypeId} : ∀ (j : Nat) (u : Value), [a, b, c][j]? = some u → (w.alloc (Obj.cells #[a, b, c] T)).cell? ((⟨w.heap.size, 0, none⟩ : Addr).add j) = some u := by
  intro j u hj
  match j, hj with
  | 0, hj => simp at hj; subst hj; simp [Addr.add]
  | 1, hj => simp at hj; subst hj; simp [Addr.add]
  | 2, hj => simp at hj; subst hj; simp [Addr.add]

theorem one3 {a b c : Value} (ha : a.oneCell' = true) (hb : b.oneCell' = true) (hc : c.oneCell' = true) : ∀ u ∈ [a, b, c], u.oneCell' = true := by
  intro u hu
  simp at hu
  rcases hu with rfl | rfl | rfl <;> assumption

set_option maxHeartbeats 2000000 in
set_option maxRecDepth 100000 in
theorem refSigns_any (s : ByteArray) (w : World) (hs : s.size ≤ 1048576) :
    Calls Tryz.prog 70 #[.string s] w fun e w' => ((∃ v K, signsOf (tl s) = some K ∧ e = .returned (.tuple #[v, .bool true]) ∧ OwnsK w' w.heap.size v K ∧ K.length ≤ s.size) ∨ (signsOf (tl s) = none ∧ e = .returned (.tuple #[.slice none 0 0, .bool false]))) ∧ Below w.heap.size w w' := by
  obtain ⟨i0, hi, hz0, hz1, hz2⟩ := info_parts Tryz.info121
  have hlen := tl_len s
  go_enter Tryz.func70, Tryz.ntmps70
  go_wp2
  go_loopw [4, 5] (fun v y wr => ∃ (K : List Sg) (k : Nat), y = .int .i64 k ∧ k ≤ s.size ∧ K.length ≤ k ∧ OwnsK wr w.heap.size v K ∧ Below w.heap.size w wr ∧ Hid (signsOf (tl s) = (signsOf ((tl s).drop k)).map (K ++ ·))) (fun _ y _ => s.size - iOf y)
  case atStart => exact ⟨[], 0, rfl, Nat.zero_le _, Nat.le_refl _, World.ownsRow_nil _ _ _ _, Below.refl _ _, by show _ = _; simp⟩
  case round =>
    obtain ⟨K, k, rfl, hk, hKk, hown, hb, HI⟩ := hrel
    by_cases hlt : k < s.size
    · have i1 : (k : Int) < (s.size : Int) := by omega
      have hdc : (tl s).drop k = s[k]'hlt :: (tl s).drop (k + 1) := by
        rw [List.drop_eq_getElem_cons (by omega)]
        congr 1
        have := tl_at s k hlt
        rw [List.getElem?_eq_getElem (by omega)] at this
        exact Option.some.inj this
      by_cases h42 : s[k]'hlt = 42
      · have c1 : (((s[k]'hlt).toNat : Int) == 42) = true := by rw [h42]; rfl
        have HI2 : Hid (signsOf (tl s) = (signsOf ((tl s).drop (k + 1))).map ((K ++ [none]) ++ ·)) := by
          show _ = _
          rw [HI.out, hdc, h42, signsOf_star, Option.map_map]; congr 1; funext x; simp
        clear h42 hdc HI
        go_wp2_with (at_builtin; refine wpList_append_own _ rfl _ _ 117 rfl w.heap.size 121 i0 (.agg #[.bool false, .bool false, .int .u8 0]) 3 3 Tryz.underlying117 hi hz0 hz1 hz2 rfl (by decide) _ _ _ rfl (World.ownsRow.alloc hown _) ⟨wr.heap.size, 0, none⟩ 1 1 [.bool true, .bool false, .int .u8 0] rfl rfl ?c1 ?c2 ?c3 ?c4 ?c5 ?_)
        case c1 => exact three_new
        case c2 => exact one3 rfl rfl rfl
        case c3 => unfold maxLen; omega
        case c4 => omega
        case c5 => have := hb.size; simp; omega
        intro v' w1 hown' hgrow _
        have R1 : OwnsK w1 w.heap.size v' (K ++ [none]) := by unfold OwnsK; rw [sgcs_snoc]; simpa [sgc] using hown'
        have R2 := rel_own hb (fun k hk => (World.ownsRow.lt hown k hk).1) hgrow
        clear hown' hgrow hown
        go_wp2
        go_roundw
        case rel => exact ⟨_, k + 1, by go_num, by omega, by simp; omega, R1, R2, HI2⟩
        case measure => simp; omega
      · have c1 : (((s[k]'hlt).toNat : Int) == 42) = false := by
          simp only [beq_eq_false_iff_ne, ne_eq]
          intro q; exact h42 (UInt8.toNat_inj.1 (by show (s[k]'hlt).toNat = 42; omega))
        by_cases h63 : s[k]'hlt = 63
        · have c2 : (((s[k]'hlt).toNat : Int) == 63) = true := by rw [h63]; rfl
          have HI2 : Hid (signsOf (tl s) = (signsOf ((tl s).drop (k + 1))).map ((K ++ [some none]) ++ ·)) := by
            show _ = _
            rw [HI.out, hdc, h63, signsOf_one, Option.map_map]; congr 1; funext x; simp
          clear h42 h63 hdc HI
          go_wp2_with (at_builtin; refine wpList_append_own _ rfl _ _ 117 rfl w.heap.size 121 i0 (.agg #[.bool false, .bool false, .int .u8 0]) 3 3 Tryz.underlying117 hi hz0 hz1 hz2 rfl (by decide) _ _ _ rfl (World.ownsRow.alloc hown _) ⟨wr.heap.size, 0, none⟩ 1 1 [.bool false, .bool true, .int .u8 0] rfl rfl ?c1 ?c2 ?c3 ?c4 ?c5 ?_)
          case c1 => exact three_new
          case c2 => exact one3 rfl rfl rfl
          case c3 => unfold maxLen; omega
          case c4 => omega
          case c5 => have := hb.size; simp; omega
          intro v' w1 hown' hgrow _
          have R1 : OwnsK w1 w.heap.size v' (K ++ [some none]) := by unfold OwnsK; rw [sgcs_snoc]; simpa [sgc] using hown'
          have R2 := rel_own hb (fun k hk => (World.ownsRow.lt hown k hk).1) hgrow
          clear hown' hgrow hown
          go_wp2
          go_roundw
          case rel => exact ⟨_, k + 1, by go_num, by omega, by simp; omega, R1, R2, HI2⟩
          case measure => simp; omega
        · have c2 : (((s[k]'hlt).toNat : Int) == 63) = false := by
            simp only [beq_eq_false_iff_ne, ne_eq]
            intro q; exact h63 (UInt8.toNat_inj.1 (by show (s[k]'hlt).toNat = 63; omega))
          by_cases h92 : s[k]'hlt = 92
          · have c3 : (((s[k]'hlt).toNat : Int) == 92) = true := by rw [h92]; rfl
            by_cases hl2 : k + 1 < s.size
            · have i2 : (((k : Int) + 1) == (s.size : Int)) = false := by simp only [beq_eq_false_iff_ne, ne_eq]; omega
              have hdc2 : (tl s).drop (k + 1) = s[k + 1]'hl2 :: (tl s).drop (k + 2) := by
                rw [List.drop_eq_getElem_cons (by omega)]
                congr 1
                have := tl_at s (k + 1) hl2
                rw [List.getElem?_eq_getElem (by omega)] at this
                exact Option.some.inj this
              have HI2 : Hid (signsOf (tl s) = (signsOf ((tl s).drop (k + 2))).map ((K ++ [some (some (s[k + 1]'hl2))]) ++ ·)) := by
                show _ = _
                rw [HI.out, hdc, h92, hdc2, signsOf_back, Option.map_map]; congr 1; funext x; simp
              have i3 : (k : Int) + 1 < (s.size : Int) := by omega
              clear h42 h63 h92 hdc hdc2 HI
              go_wp2_with (at_builtin; refine wpList_append_own _ rfl _ _ 117 rfl w.heap.size 121 i0 (.agg #[.bool false, .bool false, .int .u8 0]) 3 3 Tryz.underlying117 hi hz0 hz1 hz2 rfl (by decide) _ _ _ rfl (World.ownsRow.alloc hown _) ⟨wr.heap.size, 0, none⟩ 1 1 [.bool false, .bool false, .int .u8 ((s[k + 1]'hl2).toNat : Int)] rfl rfl ?c1 ?c2 ?c3 ?c4 ?c5 ?_)
              case c1 => exact three_new
              case c2 => exact one3 rfl rfl rfl
              case c3 => unfold maxLen; omega
              case c4 => omega
              case c5 => have := hb.size; simp; omega
              intro v' w1 hown' hgrow _
              have R1 : OwnsK w1 w.heap.size v' (K ++ [some (some (s[k + 1]'hl2))]) := by unfold OwnsK; rw [sgcs_snoc]; simpa [sgc] using hown'
              have R2 := rel_own hb (fun k hk => (World.ownsRow.lt hown k hk).1) hgrow
              clear hown' hgrow hown
              go_wp2
              go_roundw
              case rel => exact ⟨_, k + 2, by go_num, by omega, by simp; omega, R1, R2, HI2⟩
              case measure => simp; omega
            · have i2 : (((k : Int) + 1) == (s.size : Int)) = true := by simp only [beq_iff_eq]; omega
              have hdc2 : (tl s).drop (k + 1) = [] := List.drop_eq_nil_of_le (by omega)
              have HN : Hid (signsOf (tl s) = none) := by
                show _ = _
                rw [HI.out, hdc, h92, hdc2, signsOf_end]; rfl
              have HB : Hid (Below w.heap.size w wr) := hb
              clear h42 h63 h92 hdc hdc2 HI hb
              go_wp2
              go_ret2
              exact ⟨.inr ⟨HN.out, rfl⟩, HB.out⟩
          · have c3 : (((s[k]'hlt).toNat : Int) == 92) = false := by
              simp only [beq_eq_false_iff_ne, ne_eq]
              intro q; exact h92 (UInt8.toNat_inj.1 (by show (s[k]'hlt).toNat = 92; omega))
            have HI2 : Hid (signsOf (tl s) = (signsOf ((tl s).drop (k + 1))).map ((K ++ [some (some (s[k]'hlt))]) ++ ·)) := by
              show _ = _
              rw [HI.out, hdc, signsOf_lit _ h42 h63 h92, Option.map_map]; congr 1; funext x; simp
            clear h42 h63 h92 hdc HI
            go_wp2_with (at_builtin; refine wpList_append_own _ rfl _ _ 117 rfl w.heap.size 121 i0 (.agg #[.bool false, .bool false, .int .u8 0]) 3 3 Tryz.underlying117 hi hz0 hz1 hz2 rfl (by decide) _ _ _ rfl (World.ownsRow.alloc hown _) ⟨wr.heap.size, 0, none⟩ 1 1 [.bool false, .bool false, .int .u8 ((s[k]'hlt).toNat : Int)] rfl rfl ?c1 ?c2 ?c3 ?c4 ?c5 ?_)
            case c1 => exact three_new
            case c2 => exact one3 rfl rfl rfl
            case c3 => unfold maxLen; omega
            case c4 => omega
            case c5 => have := hb.size; simp; omega
            intro v' w1 hown' hgrow _
            have R1 : OwnsK w1 w.heap.size v' (K ++ [some (some (s[k]'hlt))]) := by unfold OwnsK; rw [sgcs_snoc]; simpa [sgc] using hown'
            have R2 := rel_own hb (fun k hk => (World.ownsRow.lt hown k hk).1) hgrow
            clear hown' hgrow hown
            go_wp2
            go_roundw
            case rel => exact ⟨_, k + 1, by go_num, by omega, by simp; omega, R1, R2, HI2⟩
            case measure => simp; omega
    · have i1 : ¬ ((k : Int) < (s.size : Int)) := by omega
      have HK : Hid (signsOf (tl s) = some K) := by
        show _ = _
        rw [HI.out, List.drop_eq_nil_of_le (by omega)]
        simp [signsOf]
      clear HI
      go_wp2
      go_ret2
      exact ⟨.inl ⟨_, K, HK.out, rfl, hown, by omega⟩, hb⟩
end Go.Proofs.YtpngnhpnjkepjaaGreatDoor
namespace Go.Proofs.YtpngnhpnjkepjaaGreatDoor
open Go.RowKit

/-- do the signs from i on fit the things from j on? -/
def tabF {α β : Type} (ok : β → α → Bool) (K : List (Option β)) (N : List α) (i j : Nat) : Bool := fitG ok (K.drop i) (N.drop j)
variable {α β : Type} {ok : β → α → Bool} {K : List (Option β)} {N : List α}
theorem tabF_zero : tabF ok K N 0 0 = fitG ok K N := by simp [tabF]
theorem tabF_last {j : Nat} (hj : j ≤ N.length) : tabF ok K N K.length j = decide (j = N.length) := by
  unfold tabF
  rw [List.drop_length, fitG]
  by_cases h : j = N.length
  · subst h; simp
  · rw [decide_eq_false h]
    cases e : N.drop j with
    | nil => rw [List.drop_eq_nil_iff] at e; omega
    | cons x xs => rfl
theorem tabF_star {i j : Nat} (hi : K[i]? = some none) (hj : j < N.length) : tabF ok K N i j = (tabF ok K N (i + 1) j || tabF ok K N i (j + 1)) := by
  obtain ⟨hi1, hi2⟩ := List.getElem?_eq_some_iff.1 hi
  unfold tabF
  rw [List.drop_eq_getElem_cons hi1, hi2, List.drop_eq_getElem_cons hj, fitG, fitG, starB]
theorem tabF_star_end {i : Nat} (hi : K[i]? = some none) : tabF ok K N i N.length = tabF ok K N (i + 1) N.length := by
  obtain ⟨hi1, hi2⟩ := List.getElem?_eq_some_iff.1 hi
  unfold tabF
  rw [List.drop_eq_getElem_cons hi1, hi2, List.drop_length, fitG, starB]
theorem tabF_lit {i j : Nat} {b : β} {x : α} (hi : K[i]? = some (some b)) (hj : N[j]? = some x) : tabF ok K N i j = (ok b x && tabF ok K N (i + 1) (j + 1)) := by
  obtain ⟨hi1, hi2⟩ := List.getElem?_eq_some_iff.1 hi
  obtain ⟨hj1, hj2⟩ := List.getElem?_eq_some_iff.1 hj
  unfold tabF
  rw [List.drop_eq_getElem_cons hi1, hi2, List.drop_eq_getElem_cons hj1, hj2, fitG]
theorem tabF_lit_end {i : Nat} {b : β} (hi : K[i]? = some (some b)) : tabF ok K N i N.length = false := by
  obtain ⟨hi1, hi2⟩ := List.getElem?_eq_some_iff.1 hi
  unfold tabF
  rw [List.drop_eq_getElem_cons hi1, hi2, List.drop_length, fitG]

/-- signs that can be read -/
def HasK (w : World) (v : Value) (K : List Sg) : Prop :=
  (v = .slice none 0 0 ∧ K = []) ∨ ∃ g cap, v = .slice (some ⟨g, 0, none⟩) K.length cap ∧ ∀ i k, K[i]? = some k → ∀ j u, (sgc k)[j]? = some u → w.cell? ⟨g, i * 3 + j, none⟩ = some u
theorem sgcs_at : ∀ (K : List Sg) (i : Nat) (k : Sg), K[i]? = some k → ∀ j u, (sgc k)[j]? = some u → (sgcs K)[i * 3 + j]? = some u
  | [], i, k, h, _, _, _ => by simp at h
  | k0 :: K, i, k, h, j, u, hu => by
    have hj : j < 3 := by
      obtain ⟨h1, _⟩ := List.getElem?_eq_some_iff.1 hu
      rw [sgc_len] at h1; exact h1
    show (sgc k0 ++ sgcs K)[i * 3 + j]? = _
    cases i with
    | zero =>
      simp at h; subst h
      rw [List.getElem?_append_left (by rw [sgc_len]; omega), Nat.zero_mul, Nat.zero_add]; exact hu
    | succ i =>
      rw [List.getElem?_append_right (by rw [sgc_len]; omega), sgc_len, show (i + 1) * 3 + j - 3 = i * 3 + j from by omega]
      exact sgcs_at K i k (by simpa using h) j u hu
theorem OwnsK.has {w : World} {lo : Nat} {v : Value} {K : List Sg} (h : OwnsK w lo v K) : HasK w v K := by
  have h0 := h
  obtain ⟨_, h | ⟨g, cap, cur, hv, hg, hh, hn, hm, hs, ht⟩⟩ := h
  · obtain ⟨rfl, hl⟩ := h
    exact .inl ⟨rfl, List.length_eq_zero_iff.1 hl⟩
  · subst hv
    refine .inr ⟨_, cap, rfl, fun i k hi j u hu => ?_⟩
    have h1 := World.ownsRow.cells h0 (g := g) rfl _ u (sgcs_at K i k hi j u hu)
    rwa [show (⟨g, 0, none⟩ : Addr).add (i * 3 + j) = ⟨g, i * 3 + j, none⟩ from by
      unfold Addr.add; split
      · rename_i e; rw [e]
      · simp] at h1
theorem HasK.form {w : World} {v : Value} {l : List Sg} (h : HasK w v l) : ∃ ao cap, v = .slice ao l.length cap := by
  rcases h with ⟨rfl, rfl⟩ | ⟨a, cap, rfl, _⟩
  · exact ⟨none, 0, rfl⟩
  · exact ⟨some ⟨a, 0, none⟩, cap, rfl⟩
theorem HasK.at {w : World} {v : Value} {l : List Sg} (h : HasK w v l) {i : Nat} {k : Sg} (hk : l[i]? = some k) : ∃ g cap, v = .slice (some ⟨g, 0, none⟩) l.length cap ∧ ∀ j u, (sgc k)[j]? = some u → w.cell? ⟨g, i * 3 + j, none⟩ = some u := by
  rcases h with ⟨_, rfl⟩ | ⟨a, cap, rfl, hc⟩
  · simp at hk
  · exact ⟨a, cap, rfl, hc i k hk⟩
theorem HasK.below {w w' : World} {v : Value} {l : List Sg} (h : HasK w v l) (hb : Below w.heap.size w w') : HasK w' v l := by
  rcases h with h | ⟨a, cap, hv, h⟩
  · exact .inl h
  · refine .inr ⟨a, cap, hv, fun i k hi j u hu => ?_⟩
    have h1 := h i k hi j u hu
    rw [hb.cell (World.block_lt_of_cell? w _ h1)]
    exact h1

/-- a table's row -/
def Row (w : World) (B n : Nat) (f : Nat → Bool) : Prop := w.rowIs B 4 (n + 1) (fun j => .bool (f j))
theorem Row.congr {w : World} {B n : Nat} {f g : Nat → Bool} (h : Row w B n f) (e : ∀ j, j ≤ n → f j = g j) : Row w B n g := World.rowIs.congr h (fun i hi => by rw [e i (by omega)])
theorem Row.cell {w : World} {B n : Nat} {f : Nat → Bool} (h : Row w B n f) {k : Nat} (hk : k ≤ n) : w.cell? ⟨B, k, none⟩ = some (.bool (f k)) := World.rowIs.cell h (by omega)
theorem Row.frozen {w : World} {B n : Nat} {f : Nat → Bool} (h : Row w B n f) (k : Nat) : w.frozen? ⟨B, k, none⟩ = false := World.rowIs.frozen h k
theorem Row.set {w : World} {B n : Nat} {f : Nat → Bool} (h : Row w B n f) (k : Nat) (b : Bool) : Row (w.setCell ⟨B, k, none⟩ (.bool b)) B n (fun j => if j = k then b else f j) := by
  refine World.rowIs.congr (World.rowIs.set h k (.bool b)) (fun i _ => ?_)
  show (if i = k then Value.bool b else _) = Value.bool (if i = k then b else f i)
  split <;> rfl
theorem Row.made (w : World) (n : Nat) : Row (w.alloc (.cells (madeCells #[.bool false] (n + 1)) 4)) w.heap.size n (fun _ => false) := World.rowIs_made w (.bool false) (n + 1) 4
/-- a row filled from k on; one entry more -/
theorem Row.step {w : World} {B n k : Nat} {f : Nat → Bool} {b : Bool} (h : Row w B n (fun j => if k + 1 ≤ j then f j else false)) (hb : f k = b) : Row (w.setCell ⟨B, k, none⟩ (.bool b)) B n (fun j => if k ≤ j then f j else false) := by
  refine (h.set k b).congr (fun j _ => ?_)
  show (if j = k then b else if k + 1 ≤ j then f j else false) = _
  by_cases e : j = k
  · subst e; simp [hb]
  · by_cases q : k + 1 ≤ j
    · simp [e, q, show k ≤ j from by omega]
    · simp [e, q, show ¬ k ≤ j from by omega]
end Go.Proofs.YtpngnhpnjkepjaaGreatDoor
namespace Go.Proofs.YtpngnhpnjkepjaaGreatDoor
open Go.RowKit

theorem Tryz.info4 : (Tryz.prog.info? 4).map (fun i => (i.zero, i.size, i.bytes)) = some (some (.bool false), 1, 1) := by kernel_rfl
theorem make71 (n : Nat) (hn : n ≤ 1048577) (w : World) : (Instr.makeSlice 122 (.int .i64 ((n : Int) + 1)) (.int .i64 ((n : Int) + 1))).run Tryz.prog w = .ok (.slice (some ⟨w.heap.size, 0, none⟩) (n + 1) (n + 1)) (w.alloc (.cells (madeCells #[.bool false] (n + 1)) 4)) :=
  run_make_row' (P := Tryz.prog) 122 4 (.bool false) 1 Tryz.underlying122 Tryz.info4 rfl .i64 .i64 (n + 1) (by omega) (by omega) w

/-- a number that falls to -1, as a measure -/
def iN (v : Value) : Nat := match v with | .int _ i => (i + 1).toNat | _ => 0
@[simp] theorem iN_int (k : IntKind) (i : Int) : iN (.int k i) = (i + 1).toNat := rfl

set_option maxHeartbeats 4000000 in
set_option maxRecDepth 100000 in
theorem fits_any (v : Value) (K : List Sg) (s : ByteArray) (w : World) (hv : HasK w v K) (hs : s.size ≤ 1048576) (hK : K.length ≤ 1048576) :
    Calls Tryz.prog 72 #[v, .string s] w fun e w' => e = .returned (.bool (fitG okB K (tl s))) ∧ Below w.heap.size w w' := by
  have hlen := tl_len s
  have hmk := make71 s.size (by omega)
  have HV : Hid (HasK w v K) := hv
  obtain ⟨ao, cap, rfl⟩ := hv.form
  clear hv
  obtain ⟨F, HF⟩ : ∃ F : Nat → Nat → Bool, Hid (F = tabF okB K (tl s)) := ⟨_, rfl⟩
  have c0 : (w.alloc (.cells (madeCells #[.bool false] (s.size + 1)) 4)).cell? ⟨w.heap.size, s.size, none⟩ = some (.bool false) := (Row.made w s.size).cell (Nat.le_refl _)
  have f0 := (Row.made w s.size).frozen s.size
  have HR0 : Hid (Row ((w.alloc (.cells (madeCells #[.bool false] (s.size + 1)) 4)).setCell ⟨w.heap.size, s.size, none⟩ (.bool true)) w.heap.size s.size (F K.length)) := by
    refine ((Row.made w s.size).set s.size true).congr (fun j hj => ?_)
    rw [HF.out, tabF_last (by rw [hlen]; exact hj), hlen]
    by_cases e : j = s.size <;> simp [e]
  have HB0 : Hid (Below w.heap.size w ((w.alloc (.cells (madeCells #[.bool false] (s.size + 1)) 4)).setCell ⟨w.heap.size, s.size, none⟩ (.bool true))) := ((Below.refl _ w).alloc (Nat.le_refl _) _).setCell (p := ⟨w.heap.size, s.size, none⟩) (by simp) _
  have E0 : (w.alloc (.cells (madeCells #[.bool false] (s.size + 1)) 4)).setCell ⟨w.heap.size, s.size, none⟩ (.bool true) = w.alloc (.cells ((madeCells #[.bool false] (s.size + 1)).setIfInBounds s.size (.bool true)) 4) := World.setCell_alloc_new _ _ _ _
  rw [E0] at HR0 HB0
  clear E0
  go_enter Tryz.func72, Tryz.ntmps72
  go_wp2
  clear c0 f0
  go_loopw [5, 6] (fun t x wr => ∃ (A m : Nat), t = .slice (some ⟨A, 0, none⟩) (s.size + 1) (s.size + 1) ∧ x = .int .i64 ((m : Int) - 1) ∧ m ≤ K.length ∧ w.heap.size ≤ A ∧ Hid (Row wr A s.size (F m)) ∧ Hid (Below w.heap.size w wr)) (fun _ x _ => iN x)
  case atStart => exact ⟨_, K.length, rfl, rfl, Nat.le_refl _, Nat.le_refl _, HR0, HB0⟩
  case round =>
    clear HR0 HB0
    obtain ⟨A, m, rfl, rfl, hm, hA, HR, HB⟩ := hrel
    cases m with
    | zero =>
      have c0 := HR.out.cell (Nat.zero_le _)
      have HE : Hid (F 0 0 = fitG okB K (tl s)) := by show _ = _; rw [HF.out, tabF_zero]
      have hz : ((0 : Nat) : Int) - 1 = -1 := rfl
      clear HF
      rw [hz]
      go_wp2
      go_ret
      exact ⟨congrArg (fun b => Ending.returned (.bool b)) HE.out, HB.out⟩
    | succ i =>
      have hz : ((i + 1 : Nat) : Int) - 1 = (i : Int) := by omega
      have z0 : (0 : Int) ≤ (i : Int) := by omega
      rw [hz]
      clear hz
      go_wp2
      have hbs := HB.out.size
      have HA1 : Hid (Row (wr.alloc (.cells (madeCells #[.bool false] (s.size + 1)) 4)) A s.size (F (i + 1))) := World.rowIs.alloc HR.out _
      have HN1 : Hid (Row (wr.alloc (.cells (madeCells #[.bool false] (s.size + 1)) 4)) wr.heap.size s.size (fun j => if s.size + 1 ≤ j then F i j else false)) := (Row.made wr s.size).congr (fun j hj => by rw [if_neg (by omega)])
      have HB1 : Hid (Below w.heap.size w (wr.alloc (.cells (madeCells #[.bool false] (s.size + 1)) 4))) := HB.out.alloc hbs _
      obtain ⟨B, hB⟩ : ∃ B, wr.heap.size = B := ⟨_, rfl⟩
      have hAB : A < B := by rw [← hB]; exact World.rowIs.lt HR.out
      have hwB : w.heap.size ≤ B := by omega
      generalize wr.alloc (.cells (madeCells #[.bool false] (s.size + 1)) 4) = wi at *
      rw [hB] at HN1 ⊢
      clear HR HB hB hbs
      go_loopw [8] (fun y wj => ∃ (m : Nat), y = .int .i64 ((m : Int) - 1) ∧ m ≤ s.size + 1 ∧ Hid (Row wj A s.size (F (i + 1))) ∧ Hid (Row wj B s.size (fun j => if m ≤ j then F i j else false)) ∧ Hid (Below w.heap.size w wj)) (fun y _ => iN y)
      case atStart => exact ⟨s.size + 1, by simp, Nat.le_refl _, HA1, HN1, HB1⟩
      case round =>
        clear HA1 HN1 HB1
        obtain ⟨m, rfl, hms, HA1, HN1, HB1⟩ := hrel
        cases m with
        | zero =>
          have hz : ((0 : Nat) : Int) - 1 = -1 := rfl
          have HR2 : Hid (Row wr B s.size (F i)) := HN1.out.congr (fun j _ => by rw [if_pos (Nat.zero_le _)])
          rw [hz]
          clear HN1 HA1
          go_wp2
          go_roundw
          case rel => exact ⟨B, i, rfl, rfl, by omega, hwB, HR2, HB1⟩
          case measure => simp
        | succ k =>
          have hz : ((k + 1 : Nat) : Int) - 1 = (k : Int) := by omega
          have z1 : (0 : Int) ≤ (k : Int) := by omega
          rw [hz]
          clear hz
          obtain ⟨kk, hkk⟩ : ∃ kk, K[i]? = some kk := ⟨_, List.getElem?_eq_getElem (by omega)⟩
          obtain ⟨a0, _, hva, hca⟩ := (HV.out.below HB1.out).at hkk
          simp at hva
          obtain ⟨rfl, rfl⟩ := hva
          have n1 := HA1.out.cell (k := k) (by omega)
          have n2 : ∃ b, wr.cell? ⟨B, k, none⟩ = some (.bool b) := ⟨_, HN1.out.cell (k := k) (by omega)⟩
          obtain ⟨b2, n2⟩ := n2
          have n3 := HN1.out.frozen k
          have STEP : Hid (∀ b, F i k = b → Row (wr.setCell ⟨B, k, none⟩ (.bool b)) A s.size (F (i + 1)) ∧ Row (wr.setCell ⟨B, k, none⟩ (.bool b)) B s.size (fun j => if k ≤ j then F i j else false) ∧ Below w.heap.size w (wr.setCell ⟨B, k, none⟩ (.bool b))) :=
            fun b hb => ⟨World.rowIs.setOther HA1.out (by show A ≠ B; omega) _, HN1.out.step hb, HB1.out.setCell (p := ⟨B, k, none⟩) (by show w.heap.size ≤ B; exact hwB) _⟩
          rcases kk with _ | kk
          · have s0 : wr.cell? ⟨a0, i * 3, none⟩ = some (.bool true) := hca 0 _ rfl
            clear hca
            by_cases hkn : k < s.size
            · have z2 : (k : Int) < (s.size : Int) := by omega
              have n4 : wr.cell? ⟨B, k + 1, none⟩ = some (.bool (F i (k + 1))) := by
                have := HN1.out.cell (k := k + 1) (by omega)
                rw [if_pos (Nat.le_refl _)] at this; exact this
              have HS := STEP.out _ ((congrFun (congrFun HF.out i) k).trans (tabF_star hkk (by omega)))
              rw [← HF.out] at HS
              clear STEP HA1 HN1 HB1 HV HF
              cases hf : F (i + 1) k <;> rw [hf] at HS n1
              · rw [Bool.false_or] at HS
                have HS2 : Hid _ := HS
                clear HS hf
                go_wp2
                go_roundw
                case rel => exact ⟨k, rfl, by omega, HS2.out.1, HS2.out.2.1, HS2.out.2.2⟩
                case measure => simp
              · rw [Bool.true_or] at HS
                have HS2 : Hid _ := HS
                clear HS hf
                go_wp2
                go_roundw
                case rel => exact ⟨k, rfl, by omega, HS2.out.1, HS2.out.2.1, HS2.out.2.2⟩
                case measure => simp
            · have z2 : ¬ ((k : Int) < (s.size : Int)) := by omega
              have hke : k = s.size := by omega
              have HS := STEP.out (F (i + 1) k) (by rw [HF.out, hke, ← hlen]; exact tabF_star_end hkk)
              clear STEP HA1 HN1 HB1 HV HF hke
              cases hf : F (i + 1) k <;> rw [hf] at HS n1
              · have HS2 : Hid _ := HS
                clear HS hf
                go_wp2
                go_roundw
                case rel => exact ⟨k, rfl, by omega, HS2.out.1, HS2.out.2.1, HS2.out.2.2⟩
                case measure => simp
              · have HS2 : Hid _ := HS
                clear HS hf
                go_wp2
                go_roundw
                case rel => exact ⟨k, rfl, by omega, HS2.out.1, HS2.out.2.1, HS2.out.2.2⟩
                case measure => simp
          · have s0 : wr.cell? ⟨a0, i * 3, none⟩ = some (.bool false) := by rcases kk with _ | c <;> exact hca 0 _ rfl
            by_cases hkn : k < s.size
            · have z2 : (k : Int) < (s.size : Int) := by omega
              have n4 := HA1.out.cell (k := k + 1) (by omega)
              have hx := tl_at s k hkn
              have HS := STEP.out _ ((congrFun (congrFun HF.out i) k).trans (tabF_lit hkk hx))
              rw [← HF.out] at HS
              clear STEP HA1 HN1 HB1 HV HF hx
              cases hf : F (i + 1) (k + 1) <;> rw [hf] at HS n4
              · rw [Bool.and_false] at HS
                have HS2 : Hid _ := HS
                clear HS hf hca
                go_wp2_with fail
                go_region
                all_goals
                  go_wp2
                  go_roundw
                  case rel => exact ⟨k, rfl, by omega, HS2.out.1, HS2.out.2.1, Below.drews HS2.out.2.2 ⟨1, rfl⟩⟩
                  case measure => simp
              · rw [Bool.and_true] at HS
                rcases kk with _ | c
                · have s1 : wr.cell? ⟨a0, i * 3 + 1, none⟩ = some (.bool true) := hca 1 _ rfl
                  rw [show okB none s[k] = true from rfl] at HS
                  have HS2 : Hid _ := HS
                  clear HS hf hca
                  go_wp2_with fail
                  go_region
                  all_goals
                    go_wp2
                    go_roundw
                    case rel => exact ⟨k, rfl, by omega, HS2.out.1, HS2.out.2.1, Below.drews HS2.out.2.2 ⟨1, rfl⟩⟩
                    case measure => simp
                · have s1 : wr.cell? ⟨a0, i * 3 + 1, none⟩ = some (.bool false) := hca 1 _ rfl
                  have s2 : wr.cell? ⟨a0, i * 3 + 2, none⟩ = some (.int .u8 (c.toNat : Int)) := hca 2 _ rfl
                  obtain ⟨d, hd⟩ : ∃ d, okB (some c) s[k] = d := ⟨_, rfl⟩
                  have hd2 : ((c.toNat : Int) == ((s[k]'hkn).toNat : Int)) = d := by
                    rw [← hd]
                    show _ = (c == s[k])
                    by_cases e : c = s[k]
                    · rw [e]; simp
                    · rw [beq_eq_false_iff_ne.2 e, beq_eq_false_iff_ne]
                      intro q; exact e (UInt8.toNat_inj.1 (by omega))
                  rw [hd] at HS
                  clear hd
                  have HS2 : Hid _ := HS
                  clear HS hf hca
                  go_wp2_with fail
                  go_region
                  all_goals
                    go_wp2
                    go_roundw
                    case rel => exact ⟨k, rfl, by omega, HS2.out.1, HS2.out.2.1, Below.drews HS2.out.2.2 ⟨1, rfl⟩⟩
                    case measure => simp
            · have z2 : ¬ ((k : Int) < (s.size : Int)) := by omega
              have hke : k = s.size := by omega
              have HS := STEP.out false (by rw [HF.out, hke, ← hlen]; exact tabF_lit_end hkk)
              have HS2 : Hid _ := HS
              clear STEP HA1 HN1 HB1 HV HF hke HS hca
              go_wp2_with fail
              go_region
              all_goals
                go_wp2
                go_roundw
                case rel => exact ⟨k, rfl, by omega, HS2.out.1, HS2.out.2.1, Below.drews HS2.out.2.2 ⟨1, rfl⟩⟩
                case measure => simp
end Go.Proofs.YtpngnhpnjkepjaaGreatDoor
