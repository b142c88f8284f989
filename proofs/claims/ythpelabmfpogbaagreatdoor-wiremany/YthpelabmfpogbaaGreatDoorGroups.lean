/-
  wire.groups: a number's bytes, in memory of the call's own.
-/
import Derived.Test.YthpelabmfpogbaaGreatDoorBase
namespace Go.Proofs.YthpelabmfpogbaaGreatDoor
open Go.RowKit Wire

theorem or128 (m : Nat) : bits .or .u8 ((m : Int) % 256) 128 = ((m % 128 + 128 : Nat) : Int) := by
  have e : ((m : Int) % 256) = ((m % 256 : Nat) : Int) := by omega
  rw [e, show (128 : Int) = ((128 : Nat) : Int) from rfl, u8_or_nat _ _ (by omega) (by omega)]
  have h : ∀ k, k < 256 → (k ||| 128 : Nat) = k % 128 + 128 := by decide +kernel
  rw [h (m % 256) (by omega)]
  congr 2; omega

theorem one_new {w : World} {x : Value} {T : TypeId} : ∀ (j : Nat) (u : Value), [x][j]? = some u → (w.alloc (Obj.cells #[x] T)).cell? ((⟨w.heap.size, 0, none⟩ : Addr).add j) = some u := by
  intro j u hj
  match j, hj with
  | 0, hj => simp at hj; subst hj; simp [Addr.add]

theorem rel_own {w wr w1 : World} {v : Value} {o : Obj} (hb : Below w.heap.size w wr) (hown : ∀ k, v.ownBlock = some k → w.heap.size ≤ k) (hg : (wr.alloc o).grownBy w1 v.ownBlock) : Below w.heap.size w w1 :=
  (hb.alloc hb.size o).grown hg (by have := hb.size; simp; omega) hown

set_option maxHeartbeats 400000 in
set_option maxRecDepth 100000 in
theorem groups_any (n : Nat) (w : World) (hn : n < 18446744073709551616) :
    Calls Tryz.prog 22 #[.int .u64 n] w fun e w' => ∃ v, e = .returned v ∧ w'.ownsRow w.heap.size 5 1 v (enc n).length ((enc n).map (Value.int .u8)) ∧ Below w.heap.size w w' := by
  obtain ⟨i0, hi, hz0, hz1, hz2⟩ := info_parts Tryz.info5
  have hlen := enc_len64 hn
  go_enter Tryz.func22, Tryz.ntmps22
  go_wp2
  go_loopw [0, 3] (fun x v wr => ∃ (m : Nat) (l : List Int), m < 18446744073709551616 ∧ x = .int .u64 m ∧ l ++ enc m = enc n ∧ wr.ownsRow w.heap.size 5 1 v l.length (l.map (Value.int .u8)) ∧ Below w.heap.size w wr) (fun x _ _ => (intOf x).toNat)
  case atStart => exact ⟨n, [], hn, rfl, rfl, World.ownsRow_nil _ _ _ _, Below.refl _ _⟩
  case round =>
    obtain ⟨m, l, hm, rfl, hl, hown, hb⟩ := hrel
    have hll : l.length + (enc m).length = (enc n).length := by rw [← hl]; simp
    have hep := enc_pos m
    have HL : Hid (l ++ enc m = enc n) := hl
    have HLL : Hid (l.length + (enc m).length = (enc n).length) := hll
    have hlt10 : l.length < 10 := by omega
    clear hl hll
    by_cases hlt : m < 128
    · go_wp2_with (at_builtin; refine wpList_append_own _ rfl _ _ 22 rfl w.heap.size 5 i0 (.int .u8 0) 1 1 Tryz.underlying22 hi hz0 hz1 hz2 rfl (by decide) _ _ _ rfl (hown.alloc _) ⟨wr.heap.size, 0, none⟩ 1 1 [.int .u8 m] rfl rfl ?c1 ?c2 ?c3 ?c4 ?c5 ?_)
      case c1 => exact one_new
      case c2 => intro u hu; simp at hu; subst hu; rfl
      case c3 => unfold maxLen; omega
      case c4 => omega
      case c5 => have := hb.size; simp; omega
      intro v' w1 hown' hgrow _
      have R : ∃ v, Ending.returned v' = .returned v ∧ w1.ownsRow w.heap.size 5 1 v (enc n).length ((enc n).map (Value.int .u8)) ∧ Below w.heap.size w w1 := by
        refine ⟨v', rfl, ?_, rel_own hb (fun k hk => (hown.lt k hk).1) hgrow⟩
        rw [← HL.out, enc_lt hlt]
        simpa using hown'
      clear hown' hgrow hown
      go_wp2
      go_ret
      exact R
    · go_wp2_with (at_builtin; refine wpList_append_own _ rfl _ _ 22 rfl w.heap.size 5 i0 (.int .u8 0) 1 1 Tryz.underlying22 hi hz0 hz1 hz2 rfl (by decide) _ _ _ rfl (hown.alloc _) ⟨wr.heap.size, 0, none⟩ 1 1 [.int .u8 (bits .or .u8 ((m : Int) % 256) 128)] rfl rfl ?c1 ?c2 ?c3 ?c4 ?c5 ?_)
      case c1 => exact one_new
      case c2 => intro u hu; simp at hu; subst hu; rfl
      case c3 => unfold maxLen; omega
      case c4 => omega
      case c5 => have := hb.size; simp; omega
      intro v' w1 hown' hgrow _
      have R1 : w1.ownsRow w.heap.size 5 1 v' (l ++ [((m % 128 + 128 : Nat) : Int)]).length ((l ++ [((m % 128 + 128 : Nat) : Int)]).map (Value.int .u8)) := by
        rw [or128] at hown'
        simpa using hown'
      have R2 := rel_own hb (fun k hk => (hown.lt k hk).1) hgrow
      have R3 : Hid ((l ++ [((m % 128 + 128 : Nat) : Int)]) ++ enc (m / 128) = enc n) := by
        have h := HL.out
        rw [enc_ge hlt] at h
        show (l ++ _) ++ _ = _
        rw [← h, List.append_assoc]; rfl
      clear hown' hgrow hown
      go_wp2
      go_roundw
      case rel => exact ⟨m / 128, _, by omega, by go_num, R3.out, R1, R2⟩
      case measure => simp [intOf]; omega
end Go.Proofs.YthpelabmfpogbaaGreatDoor
