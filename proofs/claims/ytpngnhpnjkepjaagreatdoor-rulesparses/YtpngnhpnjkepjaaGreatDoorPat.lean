/-
  path.signsRight, slices.Contains, path.patternPieces by contract.
-/
import Derived.Test.YtpngnhpnjkepjaaGreatDoorSign
import Derived.Test.YtpngnhpnjkepjaaGreatDoorList
namespace Go.Proofs.YtpngnhpnjkepjaaGreatDoor
open Go.RowKit

def srB (l : By) : Bool := match scan false 0 l with | none => false | some k => decide (k ≤ 8)

theorem drop_byte (s : ByteArray) (pos : Nat) (h : pos < s.size) : (tl s).drop pos = s.get! pos :: (tl s).drop (pos + 1) := by
  have hl := tl_len s
  rw [List.drop_eq_getElem_cons (by omega)]
  congr 1
  have := tl_get s pos h
  rw [List.getElem?_eq_getElem (by omega)] at this
  exact Option.some.inj this
theorem scan_high (s : ByteArray) (st : Nat) : ∀ (k pos : Nat), pos + k ≤ s.size → (∀ j, pos ≤ j → j < pos + k → 128 ≤ (s.get! j).toNat) → scan false st ((tl s).drop pos) = scan false st ((tl s).drop (pos + k))
  | 0, pos, _, _ => rfl
  | k + 1, pos, hk, h => by
    have h0 := h pos (Nat.le_refl _) (by omega)
    rw [drop_byte s pos (by omega), scan]
    simp only [Bool.false_eq_true, if_false]
    rw [if_neg (by intro e; rw [e] at h0; simp at h0), if_neg (by intro e; rw [e] at h0; simp at h0), scan_high s st k (pos + 1) (by omega) (fun j a b => h j (by omega) (by omega))]
    rw [show pos + 1 + k = pos + (k + 1) from by omega]
theorem get_lit (s : ByteArray) (pos : Nat) (h : pos < s.size) (c : Nat) (hc : c < 128) : s.get! pos = UInt8.ofNat c ↔ (Utf8.decode s pos).1 = c := by
  rw [decode_small s pos h c hc]
  constructor
  · intro e; rw [e]; simp; omega
  · intro e; exact UInt8.toNat_inj.1 (by rw [e]; simp; omega)
theorem scan_other (s : ByteArray) (pos : Nat) (h : pos < s.size) (tk : Bool) (st : Nat) (h1 : tk = true → (Utf8.decode s pos).1 ≠ 47) (h2 : tk = false → (Utf8.decode s pos).1 ≠ 92 ∧ (Utf8.decode s pos).1 ≠ 42) :
    scan tk st ((tl s).drop pos) = scan false st ((tl s).drop (pos + (Utf8.decode s pos).2)) := by
  have hw := decode_wide s pos h
  have hin := decode_in s pos h
  have e1 : scan tk st ((tl s).drop pos) = scan false st ((tl s).drop (pos + 1)) := by
    rw [drop_byte s pos h]
    simp only [scan]
    cases tk with
    | true =>
      have : s.get! pos ≠ 47 := fun e => h1 rfl ((get_lit s pos h 47 (by decide)).1 e)
      simp [this]
    | false =>
      have a : s.get! pos ≠ 92 := fun e => (h2 rfl).1 ((get_lit s pos h 92 (by decide)).1 e)
      have b : s.get! pos ≠ 42 := fun e => (h2 rfl).2 ((get_lit s pos h 42 (by decide)).1 e)
      simp [a, b]
  rw [e1, scan_high s st ((Utf8.decode s pos).2 - 1) (pos + 1) (by omega) (fun j a b => (decode_skip s pos j (by omega) (by omega)).2)]
  rw [show pos + 1 + ((Utf8.decode s pos).2 - 1) = pos + (Utf8.decode s pos).2 from by omega]

set_option maxHeartbeats 2000000 in
set_option maxRecDepth 100000 in
theorem signsRight_any (s : ByteArray) (w : World) (hs : s.size ≤ 1048576) :
    Calls Tryz.prog 131 #[.string s] w fun e w' => e = .returned (.bool (srB (tl s))) ∧ Below w.heap.size w w' := by
  have hlen := tl_len s
  go_enter Tryz.func131, Tryz.ntmps131
  go_wp2
  go_loopw [3, 4] (fun x3 x4 wr => ∃ (pos st : Nat) (tk : Bool), x3 = .int .i64 st ∧ x4 = .bool tk ∧ wr = w.iter s pos ∧ pos ≤ s.size ∧ st ≤ pos ∧ Hid (scan false 0 (tl s) = scan tk st ((tl s).drop pos))) (fun _ _ wr => s.size - wr.iterPos w.heap.size)
  case atStart => exact ⟨0, 0, false, rfl, rfl, rfl, Nat.zero_le _, Nat.le_refl _, rfl⟩
  case round =>
    obtain ⟨pos, st, tk, rfl, rfl, rfl, hps, hst, HS⟩ := hrel
    by_cases hp : pos < s.size
    · have hnx : ∀ ty, (Instr.next (.pointer (some ⟨w.heap.size, 0, none⟩)) true ty).run Tryz.prog (w.iter s pos) = _ := fun ty => run_next_any w s pos ty hp
      have hwd := decode_wide s pos hp
      have hin := decode_in s pos hp
      have h47 := get_lit s pos hp 47 (by decide)
      have h92 := get_lit s pos hp 92 (by decide)
      have h42 := get_lit s pos hp 42 (by decide)
      have hone : ∀ c, c < 128 → (Utf8.decode s pos).1 = c → (Utf8.decode s pos).2 = 1 := fun c hc e => decode_one s pos hp (by rw [(decode_small s pos hp c hc).1 e]; exact hc)
      have hother := scan_other s pos hp tk st
      have hdb := drop_byte s pos hp
      obtain ⟨wd, hwd'⟩ : ∃ wd, (Utf8.decode s pos).2 = wd := ⟨_, rfl⟩
      obtain ⟨r, hr⟩ : ∃ r, (Utf8.decode s pos).1 = r := ⟨_, rfl⟩
      rw [hwd'] at hnx hwd hin hother hone
      rw [hr] at hnx h47 h92 h42 hother hone
      clear hwd' hr
      have HM : Hid (s.size - (w.iter s (pos + wd)).iterPos w.heap.size < s.size - (w.iter s pos).iterPos w.heap.size) := by
        show _ < _
        rw [World.iterPos_iter, World.iterPos_iter]; omega
      cases tk with
      | true =>
        by_cases e : r = 47
        · subst e
          have HF : Hid (srB (tl s) = false) := by
            show _ = _
            unfold srB
            rw [HS.out, hdb, scan, h47.2 rfl]
            rfl
          clear h47 h92 h42 hone hother hdb HS
          go_wp2
          go_ret
          exact ⟨by rw [HF.out]; rfl, (Below.refl _ w).alloc (Nat.le_refl _) _⟩
        · have HS2 : Hid (scan false 0 (tl s) = scan false st ((tl s).drop (pos + wd))) := by
            show _ = _
            rw [HS.out]; exact hother (fun _ => e) (fun q => by cases q)
          have b1 : ((r : Int) == 47) = false := by simp; omega
          clear h47 h92 h42 hone hother hdb HS
          go_wp2
          go_roundw
          case rel => exact ⟨pos + wd, st, false, rfl, rfl, rfl, hin, by omega, HS2⟩
          case measure => exact HM.out
      | false =>
        by_cases e : r = 92
        · subst e
          obtain rfl := hone 92 (by decide) rfl
          have HS2 : Hid (scan false 0 (tl s) = scan true st ((tl s).drop (pos + 1))) := by
            show _ = _
            rw [HS.out, hdb, scan, h92.2 rfl]
            rfl
          clear h47 h92 h42 hone hother hdb HS
          go_wp2
          go_roundw
          case rel => exact ⟨pos + 1, st, true, rfl, rfl, rfl, hin, by omega, HS2⟩
          case measure => exact HM.out
        · have b1 : ((r : Int) == 92) = false := by simp; omega
          by_cases e2 : r = 42
          · subst e2
            obtain rfl := hone 42 (by decide) rfl
            have HS2 : Hid (scan false 0 (tl s) = scan false (st + 1) ((tl s).drop (pos + 1))) := by
              show _ = _
              rw [HS.out, hdb, scan, h42.2 rfl]
              rfl
            clear h47 h92 h42 hone hother hdb HS
            go_wp2
            go_roundw
            case rel => exact ⟨pos + 1, st + 1, false, by go_num, rfl, rfl, hin, by omega, HS2⟩
            case measure => exact HM.out
          · have b2 : ((r : Int) == 42) = false := by simp; omega
            have HS2 : Hid (scan false 0 (tl s) = scan false st ((tl s).drop (pos + wd))) := by
              show _ = _
              rw [HS.out]; exact hother (fun q => by cases q) (fun _ => ⟨e, e2⟩)
            clear h47 h92 h42 hone hother hdb HS
            go_wp2
            go_roundw
            case rel => exact ⟨pos + wd, st, false, rfl, rfl, rfl, hin, by omega, HS2⟩
            case measure => exact HM.out
    · have hnx : ∀ ty, (Instr.next (.pointer (some ⟨w.heap.size, 0, none⟩)) true ty).run Tryz.prog (w.iter s pos) = _ := fun ty => run_next_end w s pos ty hp
      have hd : (tl s).drop pos = [] := List.drop_eq_nil_of_le (by omega)
      cases tk with
      | true =>
        have HF : Hid (srB (tl s) = false) := by
          show _ = _
          unfold srB
          rw [HS.out, hd]
          rfl
        clear HS
        go_wp2
        go_ret
        exact ⟨by rw [HF.out]; rfl, (Below.refl _ w).alloc (Nat.le_refl _) _⟩
      | false =>
        have HF : Hid (srB (tl s) = decide (st ≤ 8)) := by
          show _ = _
          unfold srB
          rw [HS.out, hd]
          rfl
        clear HS
        by_cases h8 : st ≤ 8
        · have i8 : (st : Int) ≤ 8 := by omega
          go_wp2
          go_ret
          exact ⟨by rw [HF.out, decide_eq_true h8]; rfl, (Below.refl _ w).alloc (Nat.le_refl _) _⟩
        · have i8 : ¬ ((st : Int) ≤ 8) := by omega
          go_wp2
          go_ret
          exact ⟨by rw [HF.out, decide_eq_false h8]; rfl, (Below.refl _ w).alloc (Nat.le_refl _) _⟩
end Go.Proofs.YtpngnhpnjkepjaaGreatDoor
