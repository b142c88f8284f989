/-
  the reference's signs.
-/
import Derived.Test.YtpngnhpnjkepjaaDoorSign
import Derived.Test.YtpngnhpnjkepjaaDoorTexts
import Derived.Laws.OwnMore
namespace Go.Proofs.YtpngnhpnjkepjaaDoor
open Go.RowKit

theorem Tryd.info107 : (Tryd.prog.info? 107).map (fun i => (i.zero, i.size, i.bytes)) = some (some (.agg #[.bool false, .bool false, .int .u8 0]), 3, 3) := by kernel_rfl
abbrev Sg : Type := Option (Option UInt8)
/-- a sign's cells -/
def sgc : Sg → List Value
  | none => [.bool true, .bool false, .int .u8 0]
  | some none => [.bool false, .bool true, .int .u8 0]
  | some (some c) => [.bool false, .bool false, .int .u8 (c.toNat : Int)]
def sgcs (K : List Sg) : List Value := (K.map sgc).flatten
theorem sgc_len (k : Sg) : (sgc k).length = 3 := by
  rcases k with _ | _ | c <;> rfl
theorem sgcs_len (K : List Sg) : (sgcs K).length = 3 * K.length := by
  induction K with
  | nil => rfl
  | cons k K ih =>
    show ((sgc k) ++ sgcs K).length = _
    rw [List.length_append, sgc_len, ih, List.length_cons]; omega
theorem sgcs_snoc (K : List Sg) (k : Sg) : sgcs (K ++ [k]) = sgcs K ++ sgc k := by simp [sgcs]
def OwnsK (w : World) (lo : Nat) (v : Value) (K : List Sg) : Prop := w.ownsRow lo 107 3 v K.length (sgcs K)

theorem three_new {w : World} {a b c : Value} {T : TypeId} : ∀ (j : Nat) (u : Value), [a, b, c][j]? = some u → (w.alloc (Obj.cells #[a, b, c] T)).cell? ((⟨w.heap.size, 0, none⟩ : Addr).add j) = some u := by
  intro j u hj
  match j, hj with
  | 0, hj => simp at hj; subst hj; simp [Addr.add]
  | 1, hj => simp at hj; subst hj; simp [Addr.add]
  | 2, hj => simp at hj; subst hj; simp [Addr.add]

theorem one3 {a b c : Value} (ha : a.oneCell' = true) (hb : b.oneCell' = true) (hc : c.oneCell' = true) : ∀ u ∈ [a, b, c], u.oneCell' = true := by
  intro u hu
  simp at hu
  rcases hu with rfl | rfl | rfl <;> assumption

set_option maxHeartbeats 2000000 in
set_option maxRecDepth 100000 in
theorem refSigns_any (s : ByteArray) (w : World) (hs : s.size ≤ 1048576) :
    Calls Tryd.prog 63 #[.string s] w fun e w' => ((∃ v K, signsOf (tl s) = some K ∧ e = .returned (.tuple #[v, .bool true]) ∧ OwnsK w' w.heap.size v K ∧ K.length ≤ s.size) ∨ (signsOf (tl s) = none ∧ e = .returned (.tuple #[.slice none 0 0, .bool false]))) ∧ Below w.heap.size w w' := by
  obtain ⟨i0, hi, hz0, hz1, hz2⟩ := info_parts Tryd.info107
  have hlen := tl_len s
  go_enter Tryd.func63, Tryd.ntmps63
  go_wp2
  go_loopw [4, 5] (fun v y wr => ∃ (K : List Sg) (k : Nat), y = .int .i64 k ∧ k ≤ s.size ∧ K.length ≤ k ∧ OwnsK wr w.heap.size v K ∧ Below w.heap.size w wr ∧ Hid (signsOf (tl s) = (signsOf ((tl s).drop k)).map (K ++ ·))) (fun _ y _ => s.size - iOf y)
  case atStart => exact ⟨[], 0, rfl, Nat.zero_le _, Nat.le_refl _, World.ownsRow_nil _ _ _ _, Below.refl _ _, by show _ = _; simp⟩
  case round =>
    obtain ⟨K, k, rfl, hk, hKk, hown, hb, HI⟩ := hrel
    by_cases hlt : k < s.size
    · have i1 : (k : Int) < (s.size : Int) := by omega
      have hdc : (tl s).drop k = s[k]'hlt :: (tl s).drop (k + 1) := by
        rw [List.drop_eq_getElem_cons (by omega)]
        congr 1
        have := tl_at s k hlt
        rw [List.getElem?_eq_getElem (by omega)] at this
        exact Option.some.inj this
      by_cases h42 : s[k]'hlt = 42
      · have c1 : (((s[k]'hlt).toNat : Int) == 42) = true := by rw [h42]; rfl
        have HI2 : Hid (signsOf (tl s) = (signsOf ((tl s).drop (k + 1))).map ((K ++ [none]) ++ ·)) := by
          show _ = _
          rw [HI.out, hdc, h42, signsOf_star, Option.map_map]; congr 1; funext x; simp
        clear h42 hdc HI
        go_wp2_with (at_builtin; refine wpList_append_own _ rfl _ _ 103 rfl w.heap.size 107 i0 (.agg #[.bool false, .bool false, .int .u8 0]) 3 3 Tryd.underlying103 hi hz0 hz1 hz2 rfl (by decide) _ _ _ rfl (World.ownsRow.alloc hown _) ⟨wr.heap.size, 0, none⟩ 1 1 [.bool true, .bool false, .int .u8 0] rfl rfl ?c1 ?c2 ?c3 ?c4 ?c5 ?_)
        case c1 => exact three_new
        case c2 => exact one3 rfl rfl rfl
        case c3 => unfold maxLen; omega
        case c4 => omega
        case c5 => have := hb.size; simp; omega
        intro v' w1 hown' hgrow _
        have R1 : OwnsK w1 w.heap.size v' (K ++ [none]) := by unfold OwnsK; rw [sgcs_snoc]; simpa [sgc] using hown'
        have R2 := rel_own hb (fun k hk => (World.ownsRow.lt hown k hk).1) hgrow
        clear hown' hgrow hown
        go_wp2
        go_roundw
        case rel => exact ⟨_, k + 1, by go_num, by omega, by simp; omega, R1, R2, HI2⟩
        case measure => simp; omega
      · have c1 : (((s[k]'hlt).toNat : Int) == 42) = false := by
          simp only [beq_eq_false_iff_ne, ne_eq]
          intro q; exact h42 (UInt8.toNat_inj.1 (by show (s[k]'hlt).toNat = 42; omega))
        by_cases h63 : s[k]'hlt = 63
        · have c2 : (((s[k]'hlt).toNat : Int) == 63) = true := by rw [h63]; rfl
          have HI2 : Hid (signsOf (tl s) = (signsOf ((tl s).drop (k + 1))).map ((K ++ [some none]) ++ ·)) := by
            show _ = _
            rw [HI.out, hdc, h63, signsOf_one, Option.map_map]; congr 1; funext x; simp
          clear h42 h63 hdc HI
          go_wp2_with (at_builtin; refine wpList_append_own _ rfl _ _ 103 rfl w.heap.size 107 i0 (.agg #[.bool false, .bool false, .int .u8 0]) 3 3 Tryd.underlying103 hi hz0 hz1 hz2 rfl (by decide) _ _ _ rfl (World.ownsRow.alloc hown _) ⟨wr.heap.size, 0, none⟩ 1 1 [.bool false, .bool true, .int .u8 0] rfl rfl ?c1 ?c2 ?c3 ?c4 ?c5 ?_)
          case c1 => exact three_new
          case c2 => exact one3 rfl rfl rfl
          case c3 => unfold maxLen; omega
          case c4 => omega
          case c5 => have := hb.size; simp; omega
          intro v' w1 hown' hgrow _
          have R1 : OwnsK w1 w.heap.size v' (K ++ [some none]) := by unfold OwnsK; rw [sgcs_snoc]; simpa [sgc] using hown'
          have R2 := rel_own hb (fun k hk => (World.ownsRow.lt hown k hk).1) hgrow
          clear hown' hgrow hown
          go_wp2
          go_roundw
          case rel => exact ⟨_, k + 1, by go_num, by omega, by simp; omega, R1, R2, HI2⟩
          case measure => simp; omega
        · have c2 : (((s[k]'hlt).toNat : Int) == 63) = false := by
            simp only [beq_eq_false_iff_ne, ne_eq]
            intro q; exact h63 (UInt8.toNat_inj.1 (by show (s[k]'hlt).toNat = 63; omega))
          by_cases h92 : s[k]'hlt = 92
          · have c3 : (((s[k]'hlt).toNat : Int) == 92) = true := by rw [h92]; rfl
            by_cases hl2 : k + 1 < s.size
            · have i2 : (((k : Int) + 1) == (s.size : Int)) = false := by simp only [beq_eq_false_iff_ne, ne_eq]; omega
              have hdc2 : (tl s).drop (k + 1) = s[k + 1]'hl2 :: (tl s).drop (k + 2) := by
                rw [List.drop_eq_getElem_cons (by omega)]
                congr 1
                have := tl_at s (k + 1) hl2
                rw [List.getElem?_eq_getElem (by omega)] at this
                exact Option.some.inj this
              have HI2 : Hid (signsOf (tl s) = (signsOf ((tl s).drop (k + 2))).map ((K ++ [some (some (s[k + 1]'hl2))]) ++ ·)) := by
                show _ = _
                rw [HI.out, hdc, h92, hdc2, signsOf_back, Option.map_map]; congr 1; funext x; simp
              have i3 : (k : Int) + 1 < (s.size : Int) := by omega
              clear h42 h63 h92 hdc hdc2 HI
              go_wp2_with (at_builtin; refine wpList_append_own _ rfl _ _ 103 rfl w.heap.size 107 i0 (.agg #[.bool false, .bool false, .int .u8 0]) 3 3 Tryd.underlying103 hi hz0 hz1 hz2 rfl (by decide) _ _ _ rfl (World.ownsRow.alloc hown _) ⟨wr.heap.size, 0, none⟩ 1 1 [.bool false, .bool false, .int .u8 ((s[k + 1]'hl2).toNat : Int)] rfl rfl ?c1 ?c2 ?c3 ?c4 ?c5 ?_)
              case c1 => exact three_new
              case c2 => exact one3 rfl rfl rfl
              case c3 => unfold maxLen; omega
              case c4 => omega
              case c5 => have := hb.size; simp; omega
              intro v' w1 hown' hgrow _
              have R1 : OwnsK w1 w.heap.size v' (K ++ [some (some (s[k + 1]'hl2))]) := by unfold OwnsK; rw [sgcs_snoc]; simpa [sgc] using hown'
              have R2 := rel_own hb (fun k hk => (World.ownsRow.lt hown k hk).1) hgrow
              clear hown' hgrow hown
              go_wp2
              go_roundw
              case rel => exact ⟨_, k + 2, by go_num, by omega, by simp; omega, R1, R2, HI2⟩
              case measure => simp; omega
            · have i2 : (((k : Int) + 1) == (s.size : Int)) = true := by simp only [beq_iff_eq]; omega
              have hdc2 : (tl s).drop (k + 1) = [] := List.drop_eq_nil_of_le (by omega)
              have HN : Hid (signsOf (tl s) = none) := by
                show _ = _
                rw [HI.out, hdc, h92, hdc2, signsOf_end]; rfl
              have HB : Hid (Below w.heap.size w wr) := hb
              clear h42 h63 h92 hdc hdc2 HI hb
              go_wp2
              go_ret2
              exact ⟨.inr ⟨HN.out, rfl⟩, HB.out⟩
          · have c3 : (((s[k]'hlt).toNat : Int) == 92) = false := by
              simp only [beq_eq_false_iff_ne, ne_eq]
              intro q; exact h92 (UInt8.toNat_inj.1 (by show (s[k]'hlt).toNat = 92; omega))
            have HI2 : Hid (signsOf (tl s) = (signsOf ((tl s).drop (k + 1))).map ((K ++ [some (some (s[k]'hlt))]) ++ ·)) := by
              show _ = _
              rw [HI.out, hdc, signsOf_lit _ h42 h63 h92, Option.map_map]; congr 1; funext x; simp
            clear h42 h63 h92 hdc HI
            go_wp2_with (at_builtin; refine wpList_append_own _ rfl _ _ 103 rfl w.heap.size 107 i0 (.agg #[.bool false, .bool false, .int .u8 0]) 3 3 Tryd.underlying103 hi hz0 hz1 hz2 rfl (by decide) _ _ _ rfl (World.ownsRow.alloc hown _) ⟨wr.heap.size, 0, none⟩ 1 1 [.bool false, .bool false, .int .u8 ((s[k]'hlt).toNat : Int)] rfl rfl ?c1 ?c2 ?c3 ?c4 ?c5 ?_)
            case c1 => exact three_new
            case c2 => exact one3 rfl rfl rfl
            case c3 => unfold maxLen; omega
            case c4 => omega
            case c5 => have := hb.size; simp; omega
            intro v' w1 hown' hgrow _
            have R1 : OwnsK w1 w.heap.size v' (K ++ [some (some (s[k]'hlt))]) := by unfold OwnsK; rw [sgcs_snoc]; simpa [sgc] using hown'
            have R2 := rel_own hb (fun k hk => (World.ownsRow.lt hown k hk).1) hgrow
            clear hown' hgrow hown
            go_wp2
            go_roundw
            case rel => exact ⟨_, k + 1, by go_num, by omega, by simp; omega, R1, R2, HI2⟩
            case measure => simp; omega
    · have i1 : ¬ ((k : Int) < (s.size : Int)) := by omega
      have HK : Hid (signsOf (tl s) = some K) := by
        show _ = _
        rw [HI.out, List.drop_eq_nil_of_le (by omega)]
        simp [signsOf]
      clear HI
      go_wp2
      go_ret2
      exact ⟨.inl ⟨_, K, HK.out, rfl, hown, by omega⟩, hb⟩
end Go.Proofs.YtpngnhpnjkepjaaDoor
