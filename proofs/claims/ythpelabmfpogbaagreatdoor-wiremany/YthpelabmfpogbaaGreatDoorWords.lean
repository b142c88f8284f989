/-
  The reference's Words; the Room's list of bytes.
-/
import Derived.Test.YthpelabmfpogbaaGreatDoorHelp
namespace Go.Proofs.YthpelabmfpogbaaGreatDoor
open Go.RowKit Wire

set_option maxHeartbeats 800000 in
set_option maxRecDepth 100000 in
theorem words_any (s : ByteArray) (w : World) (hs : s.size ≤ 100000) :
    Calls Tryz.prog 12 #[.string s] w fun e w' => ∃ v, e = .returned v ∧ Owns w' w.heap.size v (enc s.size ++ strB s) ∧ Below w.heap.size w w' := by
  obtain ⟨i0, hi, hz0, hz1, hz2⟩ := info_parts Tryz.info5
  have hlen := enc_len64 (show s.size < 18446744073709551616 by omega)
  go_enter Tryz.func12, Tryz.ntmps12
  go_wp2_with (go_at_call 11; refine (number_any s.size _ (by omega)).mono ?_; rintro e w1 ⟨v1, rfl, ho1, hb1⟩; obtain ⟨ao1, cp1, hv1, _⟩ := ho1.has.form; subst hv1)
  go_loopw [3, 4] (fun v i wr => ∃ k : Nat, k ≤ s.size ∧ i = .int .i64 k ∧ Owns wr w.heap.size v (enc s.size ++ (strB s).take k) ∧ Below w.heap.size w wr) (fun _ i _ => s.size - (intOf i).toNat)
  case atStart => exact ⟨0, Nat.zero_le _, rfl, by simpa using ho1, hb1⟩
  case round =>
    obtain ⟨k, hk, rfl, hown, hb⟩ := hrel
    by_cases hlt : k < s.size
    · have hbl : (enc s.size ++ (strB s).take k).length ≤ 100010 := by simp [strB_len]; omega
      have hnx : Hid ((strB s).take (k + 1) = (strB s).take k ++ [((s[k]'hlt).toNat : Int)]) := by
        show _ = _
        have hl : k < (strB s).length := by rw [strB_len]; exact hlt
        have hd := strB_getD s k hlt
        rw [List.take_add_one, List.getElem?_eq_getElem hl]
        simp [List.getD, hl] at hd
        simp [hd]
        rfl
      go_wp2_with (at_builtin; refine wpList_append_own _ rfl _ _ 22 rfl w.heap.size 5 i0 (.int .u8 0) 1 1 Tryz.underlying22 hi hz0 hz1 hz2 rfl (by decide) _ _ _ rfl (World.ownsRow.alloc hown _) ⟨wr.heap.size, 0, none⟩ 1 1 [.int .u8 ((s[k]'hlt).toNat : Int)] rfl rfl ?c1 ?c2 ?c3 ?c4 ?c5 ?_)
      case c1 => exact one_new
      case c2 => intro u hu; simp at hu; subst hu; rfl
      case c3 => unfold maxLen; omega
      case c4 => omega
      case c5 => have := hb.size; simp; omega
      intro v' w2 hown' hgrow _
      have R1 : Owns w2 w.heap.size v' (enc s.size ++ (strB s).take (k + 1)) := by
        rw [hnx.out, ← List.append_assoc]
        unfold Owns
        simpa [Nat.add_assoc] using hown'
      have R2 := rel_own hb (fun k hk => (hown.lt k hk).1) hgrow
      clear hown' hgrow hown
      go_wp2
      go_roundw
      case rel => exact ⟨k + 1, by omega, by go_num, R1, R2⟩
      case measure => simp [intOf]; omega
    · rw [List.take_of_length_le (by rw [strB_len]; omega)] at hown
      go_wp2
      go_ret
      exact ⟨_, rfl, hown, hb⟩

/-- The mark of a place behind a list of bytes. -/
def lotB (i : Nat) : Int := if i % 2 = 0 then 235 else 234
/-- A list that was made with room: its block, its length, its capacity. -/
structure Rl where
  g : Nat
  n : Nat
  cap : Nat
def Rl.row (x : Rl) : Value := .slice (some ⟨x.g, 0, none⟩) (x.n + 600) x.cap
def Rl.at (x : Rl) : Value := .int .i64 x.n

/-- The Room at block R (from block lo on): all lists that were made, with the marks behind them. -/
structure RoomAt (w : World) (lo R : Nat) (ls : List Rl) (hB hA : Value) : Prop where
  loR : lo ≤ R
  lt : R < w.heap.size
  fz : ∀ o, w.frozen? ⟨R, o, none⟩ = false
  idle : RIdle w R
  c0 : w.cell? ⟨R, 0, none⟩ = some hB
  c1 : w.cell? ⟨R, 1, none⟩ = some hA
  rows : w.ownsRow lo 22 1 hB ls.length (ls.map Rl.row)
  ats : w.ownsRow lo 3 1 hA ls.length (ls.map Rl.at)
  nB : hB.ownBlock ≠ some R
  nA : hA.ownBlock ≠ some R
  nAB : ∀ b, hB.ownBlock = some b → hA.ownBlock ≠ some b
  each : ∀ x ∈ ls, lo ≤ x.g ∧ x.g < w.heap.size ∧ x.g ≠ R ∧ hB.ownBlock ≠ some x.g ∧ hA.ownBlock ≠ some x.g ∧ x.n + 600 ≤ x.cap ∧ x.n ≤ 65536 ∧
    ∀ i, i < 600 → w.cell? ⟨x.g, x.n + i, none⟩ = some (.int .u8 (lotB i))

theorem row_at {w : World} {lo e : Nat} {v : Value} {xs : List Value} (h : w.ownsRow lo e 1 v xs.length xs) {j : Nat} (hj : j < xs.length) :
    ∃ g cap, v = .slice (some ⟨g, 0, none⟩) xs.length cap ∧ w.cell? ⟨g, j, none⟩ = some (xs[j]) := by
  have h0 := h
  obtain ⟨_, h | ⟨g, cap, cur, hv, hg, hh, hn, hm, hs, ht⟩⟩ := h
  · obtain ⟨rfl, hl⟩ := h
    omega
  · subst hv
    have q := World.ownsRow.cells h0 (g := g) rfl j _ (List.getElem?_eq_getElem hj)
    rw [add0] at q
    exact ⟨g, cap, rfl, q⟩

set_option maxHeartbeats 1600000 in
set_option maxRecDepth 100000 in
theorem roomHold_bytes (lo R : Nat) (ls : List Rl) (hB hA : Value) (w : World) (hr : RoomAt w lo R ls hB hA) (hl : ls.length ≤ 1000) :
    Calls Tryz.prog 23 #[.pointer (some ⟨R, 0, none⟩)] w fun e w' => e = .returned (.bool true) ∧ w' = w := by
  have h0 := hr.c0
  have h1 := hr.c1
  have HR : Hid (RoomAt w lo R ls hB hA) := hr
  obtain ⟨bo, bc, hbv⟩ : ∃ bo bc, hB = .slice bo ls.length bc := by
    obtain ⟨_, h | ⟨g, cap, cur, hv, _⟩⟩ := hr.rows
    · exact ⟨none, 0, by rw [h.1, h.2]⟩
    · exact ⟨_, cap, hv⟩
  subst hbv
  clear hr
  go_enter Tryz.func23, Tryz.ntmps23
  go_wp2
  go_loopw [3] (fun i wr => ∃ k : Nat, k ≤ ls.length ∧ i = .int .i64 k ∧ wr = w) (fun i _ => ls.length - (intOf i).toNat)
  case atStart => exact ⟨0, Nat.zero_le _, rfl, rfl⟩
  case round =>
    obtain ⟨k, hk, rfl, rfl⟩ := hrel
    by_cases hlt : k < ls.length
    · obtain ⟨gB, cB, eB, qB⟩ := row_at (xs := ls.map Rl.row) (by simpa using HR.out.rows) (j := k) (by simpa using hlt)
      obtain ⟨gA, cA, eA, qA⟩ := row_at (xs := ls.map Rl.at) (by simpa using HR.out.ats) (j := k) (by simpa using hlt)
      simp at eB eA
      obtain ⟨rfl, rfl⟩ := eB
      subst eA
      obtain ⟨x, hx⟩ : ∃ x, ls[k] = x := ⟨_, rfl⟩
      have hE := HR.out.each x (hx ▸ List.getElem_mem hlt)
      obtain ⟨_, _, _, _, _, hcap, hn, hm⟩ := hE
      simp [hx, Rl.row, Rl.at] at qB qA
      have HM : Hid (∀ i, i < 600 → wr.cell? ⟨x.g, x.n + i, none⟩ = some (.int .u8 (lotB i))) := hm
      clear hm hx
      go_wp2
      go_loopw [5] (fun i2 wz => ∃ m : Nat, m ≤ 600 ∧ i2 = .int .i64 ((x.n + m : Nat) : Int) ∧ wz = wr) (fun i2 _ => x.n + 600 - (intOf i2).toNat)
      case atStart => exact ⟨0, Nat.zero_le _, rfl, rfl⟩
      case round =>
        obtain ⟨m, hm6, rfl, rfl⟩ := hrel
        by_cases hm : m < 600
        · have q := HM.out m hm
          by_cases hp : m % 2 = 0
          · rw [show lotB m = 235 by simp [lotB, hp]] at q
            have C : Hid (∀ wz, Calls Tryz.prog 69 #[.int .i64 m] wz fun e w' => e = .returned (.int .i64 (-7701)) ∧ w' = wz) := fun wz => by
              have := lot_any m wz (by omega)
              rwa [if_pos hp] at this
            clear hp
            go_wp2_with fail
            rw [show ((x.n : Int) + m - x.n) = m by omega]
            refine (C.out _).mono ?_
            rintro e w1 ⟨rfl, rfl⟩
            go_wp2
            go_roundw
            case rel => exact ⟨m + 1, by omega, by go_num, by simp⟩
            case measure => simp [intOf]; omega
          · rw [show lotB m = 234 by simp [lotB, hp]] at q
            have C : Hid (∀ wz, Calls Tryz.prog 69 #[.int .i64 m] wz fun e w' => e = .returned (.int .i64 (-7702)) ∧ w' = wz) := fun wz => by
              have := lot_any m wz (by omega)
              rwa [if_neg hp] at this
            clear hp
            go_wp2_with fail
            rw [show ((x.n : Int) + m - x.n) = m by omega]
            refine (C.out _).mono ?_
            rintro e w1 ⟨rfl, rfl⟩
            go_wp2
            go_roundw
            case rel => exact ⟨m + 1, by omega, by go_num, by simp⟩
            case measure => simp [intOf]; omega
        · go_wp2
          go_roundw
          case rel => exact ⟨k + 1, by omega, by go_num, by simp⟩
          case measure => simp [intOf]; omega
    · go_wp2
      go_ret
      exact ⟨rfl, rfl⟩
end Go.Proofs.YthpelabmfpogbaaGreatDoor
