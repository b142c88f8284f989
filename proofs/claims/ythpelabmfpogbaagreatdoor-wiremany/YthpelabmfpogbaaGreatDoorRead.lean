/-
  A reader in memory; its inner functions by their contracts.
-/
import Derived.Test.YthpelabmfpogbaaGreatDoorPuts
import Derived.Defers
import Derived.Recover
import Derived.BigQuiet
import Derived.Deep.QuietTactic
namespace Go.Proofs.YthpelabmfpogbaaGreatDoor
open Go.RowKit Wire

/-- A reader at block R: its bytes l (in a row from block lo on, below R), how many are taken, the fault's place and number. -/
def Rdr (w : World) (lo R : Nat) (l : List Int) (p : Nat) (fa fe : Int) : Prop :=
  ∃ v, w.heap[R]? = some (.cells #[v, .int .i64 p, .int .i64 fa, .string ⟨#[]⟩, .int .i64 fe] 77 (0, 0)) ∧ Owns w lo v l ∧ (∀ k, v.ownBlock = some k → k < R) ∧ lo ≤ R ∧ p ≤ l.length ∧ l.length ≤ 1048576

theorem cells_of {w : World} {R : Nat} {c0 c1 c2 c3 c4 : Value} (h : w.heap[R]? = some (.cells #[c0, c1, c2, c3, c4] 77 (0, 0))) :
    w.cell? ⟨R, 0, none⟩ = some c0 ∧ w.cell? ⟨R, 1, none⟩ = some c1 ∧ w.cell? ⟨R, 2, none⟩ = some c2 ∧ w.cell? ⟨R, 3, none⟩ = some c3 ∧ w.cell? ⟨R, 4, none⟩ = some c4 ∧ (∀ o, w.frozen? ⟨R, o, none⟩ = false) := by
  refine ⟨?_, ?_, ?_, ?_, ?_, ?_⟩ <;> simp [World.cell?, World.frozen?, h]

theorem Rdr.lt {w : World} {lo R : Nat} {l : List Int} {p : Nat} {fa fe : Int} (h : Rdr w lo R l p fa fe) : R < w.heap.size := by
  obtain ⟨v, hh, _⟩ := h
  exact (Array.getElem?_eq_some_iff.1 hh).1

/-- A reader stays as it is where its blocks do. -/
theorem Rdr.kept {w w' : World} {lo R : Nat} {l : List Int} {p : Nat} {fa fe : Int} (h : Rdr w lo R l p fa fe) (hb : ∀ k, lo ≤ k → k ≤ R → w'.heap[k]? = w.heap[k]?) : Rdr w' lo R l p fa fe := by
  obtain ⟨v, hh, ho, hk, hl, hr⟩ := h
  exact ⟨v, (hb R hl (Nat.le_refl _)).trans hh, ho.block (fun k e => hb k (ho.lt k e).1 (Nat.le_of_lt (hk k e))), hk, hl, hr⟩

theorem Rdr.below {w w' : World} {lo R : Nat} {l : List Int} {p : Nat} {fa fe : Int} (h : Rdr w lo R l p fa fe) (hb : Below w.heap.size w w') : Rdr w' lo R l p fa fe :=
  h.kept fun k _ hk => hb.block k (Nat.lt_of_le_of_lt hk h.lt)

/-- What a reading gives up with. -/
def flt (p e : Int) : Value := .iface 75 (.agg #[.int .i64 p, .string ⟨#[]⟩, .int .i64 e])

set_option maxHeartbeats 400000 in
theorem giveUp_any (p e : Int) (w : World) :
    Calls Tryz.prog 96 #[.int .i64 p, .int .i64 e] w fun x w' => x = .panicked [{ v := flt p e, recovered := false }] ∧ w' = w := by
  go_enter Tryz.func96, Tryz.ntmps96
  go_wp2
  exact ⟨rfl, rfl, rfl⟩

set_option maxHeartbeats 400000 in
theorem failed_any (R : Nat) (fe : Int) (w : World) (h : w.cell? ⟨R, 4, none⟩ = some (.int .i64 fe)) :
    Calls Tryz.prog 90 #[.pointer (some ⟨R, 0, none⟩)] w fun x w' => x = .returned (.bool (fe != 0)) ∧ w' = w := by
  go_enter Tryz.func90, Tryz.ntmps90
  go_wp2
  go_ret
  exact ⟨rfl, rfl⟩

set_option maxHeartbeats 400000 in
theorem read_any (vb : Value) (b : List Int) (w : World) (hb : Has w vb b) (hlen : b.length ≤ 1048576) :
    Calls Tryz.prog 16 #[vb] w fun e w' => ∃ R, e = .returned (.pointer (some ⟨R, 0, none⟩)) ∧ w.heap.size ≤ R ∧ Rdr w' w.heap.size R b 0 0 0 ∧ Below w.heap.size w w' := by
  go_enter Tryz.func16, Tryz.ntmps16
  go_wp2_with (go_at_call 54; refine (clone_any vb b _ hb hlen).mono ?_; rintro e w1 ⟨v1, rfl, ho1, hb1⟩; obtain ⟨ao1, cp1, hv1, _⟩ := ho1.has.form; subst hv1)
  have hb2 : Below w1.heap.size w1 (w1.alloc (.cells #[.slice ao1 b.length cp1, .int .i64 0, .int .i64 0, .string ⟨#[]⟩, .int .i64 0] 77)) := (Below.refl _ _).alloc (Nat.le_refl _) _
  have R1 : Rdr (w1.alloc (.cells #[.slice ao1 b.length cp1, .int .i64 0, .int .i64 0, .string ⟨#[]⟩, .int .i64 0] 77)) w.heap.size w1.heap.size b 0 0 0 :=
    ⟨_, heap_alloc_new w1 _, ho1.below hb2 (Nat.le_refl _), fun k hk => (ho1.lt k hk).2, hb1.size, Nat.zero_le _, hlen⟩
  have R2 := Below.up hb1 hb2
  have R3 := hb1.size
  clear hb2 ho1 hb1 hb
  go_ret
  exact ⟨_, rfl, R3, R1, R2⟩

set_option maxHeartbeats 400000 in
theorem byteAt_in (R : Nat) (a : Nat) (g n cap : Nat) (c : Int) (w : World) (h0 : w.cell? ⟨R, 0, none⟩ = some (.slice (some ⟨g, 0, none⟩) n cap)) (_hn : n ≤ 1048576) (ha : a < n) (hc : w.cell? ⟨g, a, none⟩ = some (.int .u8 c)) :
    Calls Tryz.prog 93 #[.pointer (some ⟨R, 0, none⟩), .int .i64 a] w fun x w' => x = .returned (.int .u8 c) ∧ w' = w := by
  go_enter Tryz.func93, Tryz.ntmps93
  go_wp2
  go_ret
  exact ⟨rfl, rfl⟩

set_option maxHeartbeats 400000 in
theorem byteAt_out (R : Nat) (a : Nat) (ao : Option Addr) (n cap : Nat) (w : World) (h0 : w.cell? ⟨R, 0, none⟩ = some (.slice ao n cap)) (_hn : n ≤ 1048576) (ha : n ≤ a) (_ha2 : a ≤ 2000000) :
    Calls Tryz.prog 93 #[.pointer (some ⟨R, 0, none⟩), .int .i64 a] w fun x w' => x = .panicked [{ v := flt n 10, recovered := false }] ∧ w' = w := by
  go_enter Tryz.func93, Tryz.ntmps93
  go_wp2_with (go_at_call 96; refine (giveUp_any _ _ _).mono ?_; rintro e w1 ⟨rfl, rfl⟩)
  exact ⟨rfl, rfl, rfl⟩

set_option maxHeartbeats 400000 in
theorem part_out (R : Nat) (a : Nat) (k : Int) (ao : Option Addr) (n cap : Nat) (w : World) (h0 : w.cell? ⟨R, 0, none⟩ = some (.slice ao n cap)) (_hn : n ≤ 1048576) (ha : a ≤ n) (hk : (n : Int) - a < k) (hk2 : k ≤ 9223372036854775807) :
    Calls Tryz.prog 100 #[.pointer (some ⟨R, 0, none⟩), .int .i64 a, .int .i64 k] w fun x w' => x = .panicked [{ v := flt n 10, recovered := false }] ∧ w' = w := by
  go_enter Tryz.func100, Tryz.ntmps100
  go_wp2_with (go_at_call 96; refine (giveUp_any _ _ _).mono ?_; rintro e w1 ⟨rfl, rfl⟩)
  exact ⟨rfl, rfl, rfl⟩

theorem Has.cut {w : World} {ao : Option Addr} {cap : Nat} {l : List Int} (h : Has w (.slice ao l.length cap) l) (a k : Nat) (hk : a + k ≤ l.length) (hcap : l.length ≤ cap) :
    (cap = a → Has w (.slice ao k 0) ((l.drop a).take k)) ∧ (¬ cap = a → Has w (.slice (Option.map (fun x => x.add a) ao) k (cap - a)) ((l.drop a).take k)) := by
  have hlen : ((l.drop a).take k).length = k := by simp; omega
  constructor
  · intro hca
    have hk0 : k = 0 := by omega
    subst hk0
    cases ao with
    | none => exact .inl ⟨rfl, by simp⟩
    | some x => exact .inr ⟨x, 0, by simp, by simp, fun i hi => absurd hi (by simp)⟩
  · intro hca
    rcases h with ⟨h1, h2⟩ | ⟨x, cp, hv, hc, hcell⟩
    · subst h2
      simp at h1 hk
      omega
    · simp at hv
      obtain ⟨rfl, rfl⟩ := hv
      refine .inr ⟨x.add a, cap - a, by rw [hlen]; rfl, by rw [hlen]; omega, fun i hi => ?_⟩
      rw [hlen] at hi
      rw [Addr.add_add, hcell (a + i) (by omega)]
      simp [List.getD, hi]

set_option maxHeartbeats 400000 in
theorem part_in (R : Nat) (a k : Nat) (ao : Option Addr) (cap : Nat) (l : List Int) (w : World) (h0 : w.cell? ⟨R, 0, none⟩ = some (.slice ao l.length cap)) (hn : l.length ≤ 1048576) (hcap : l.length ≤ cap) (ha : a + k ≤ l.length) :
    Calls Tryz.prog 100 #[.pointer (some ⟨R, 0, none⟩), .int .i64 a, .int .i64 k] w fun x w' => ∃ ao' cp', x = .returned (.slice ao' k cp') ∧ w' = w ∧ ∀ w2, Has w2 (.slice ao l.length cap) l → Has w2 (.slice ao' k cp') ((l.drop a).take k) := by
  have H1 : Hid (∀ w2, Has w2 (.slice ao l.length cap) l → cap = a → Has w2 (.slice ao k 0) ((l.drop a).take k)) := fun w2 hh => (hh.cut a k ha hcap).1
  have H2 : Hid (∀ w2, Has w2 (.slice ao l.length cap) l → ¬ cap = a → Has w2 (.slice (Option.map (fun x => x.add a) ao) k (cap - a)) ((l.drop a).take k)) := fun w2 hh => (hh.cut a k ha hcap).2
  go_enter Tryz.func100, Tryz.ntmps100
  go_wp2_with (go_at_call 96; refine (giveUp_any _ _ _).mono ?_; rintro e w1 ⟨rfl, rfl⟩)
  · go_ret
    have e : cap = a := by assumption
    exact ⟨_, _, rfl, rfl, fun w2 h2 => H1.out w2 (by rw [e]; exact h2) e⟩
  · go_ret
    exact ⟨_, _, rfl, rfl, fun w2 h2 => H2.out w2 h2 (by assumption)⟩

/-- What uintAt comes to. -/
def uintEnd (a n : Nat) : Rd → Ending
  | .ok m k => .returned (.tuple #[.int .u64 m, .int .i64 (a + k : Nat)])
  | .form i => .panicked [{ v := flt (a + i : Nat) 11, recovered := false }]
  | .short => .panicked [{ v := flt n 10, recovered := false }]

theorem and127 (c : Int) (h0 : 0 ≤ c) (h1 : c < 256) : bits .and .u8 c 127 = ((c.toNat % 128 : Nat) : Int) := by
  rw [u8_and c 127 h0 h1 (by decide) (by decide)]
  congr 1
  have := Nat.and_two_pow_sub_one_eq_mod c.toNat 7
  simpa using this

theorem orshift (acc k : Nat) (c : Int) (hk : k ≤ 9) (hacc : acc < 128 ^ k) (h0 : 0 ≤ c) (h1 : c < 256) (h9 : k = 9 → c = 1) :
    bits .or .u64 (acc : Int) (IntKind.u64.wrap (IntKind.u64.wrap (bits .and .u8 c 127) * 2 ^ (7 * k))) = ((acc + c.toNat % 128 * 128 ^ k : Nat) : Int) := by
  rw [and127 c h0 h1]
  generalize hm : c.toNat % 128 = m
  have hm128 : m < 128 := by omega
  have hp : ∀ j, j ≤ 9 → 128 ^ j ≤ 9223372036854775808 := by decide
  have hp8 : ∀ j, j ≤ 8 → 128 ^ j ≤ 72057594037927936 := by decide
  have hpk := hp k hk
  have e2 : (2 : Nat) ^ (7 * k) = 128 ^ k := by rw [Nat.pow_mul]
  have hlt : m * 128 ^ k < 18446744073709551616 := by
    by_cases h : k = 9
    · have := h9 h; subst this
      subst h
      simp at hm
      subst hm
      decide
    · have h8 := hp8 k (by omega)
      have : m * 128 ^ k ≤ 127 * 72057594037927936 := Nat.mul_le_mul (by omega) h8
      omega
  have w1 : IntKind.u64.wrap ((m : Nat) : Int) = (m : Int) := by rw [IntKind.wrap_u64]; omega
  have w2 : IntKind.u64.wrap ((m : Int) * 2 ^ (7 * k)) = ((m * 128 ^ k : Nat) : Int) := by
    have : ((m : Int) * 2 ^ (7 * k)) = ((m * 128 ^ k : Nat) : Int) := by
      rw [← e2]; simp
    rw [this, IntKind.wrap_u64]; omega
  rw [w1, w2, bits_or_u64_nat _ _ (by omega) hlt]
  congr 1
  have h := Nat.two_pow_add_eq_or_of_lt (i := 7 * k) (b := acc) (by rw [e2]; exact hacc) m
  rw [e2, Nat.mul_comm (128 ^ k) m] at h
  rw [Nat.or_comm, ← h, Nat.add_comm]

theorem end_ok {a n k acc : Nat} {c : Int} {r : Rd} {t : List Int} (hk : k ≤ 9) (hacc : acc < 128 ^ k) (h0 : 0 ≤ c) (h1 : c < 256) (hb : ¬ bad k c = true) (hc : c < 128) (hr : r = (rd k (c :: t)).plus acc) :
    Ending.returned (.tuple #[.int .u64 (bits .or .u64 (acc : Int) (IntKind.u64.wrap (IntKind.u64.wrap (bits .and .u8 c 127) * 2 ^ (7 * k)))), .int .i64 ((a : Int) + k + 1)]) = uintEnd a n r := by
  have h9 : k = 9 → c = 1 := by
    intro h; subst h
    simp [bad] at hb
    omega
  rw [orshift acc k c hk hacc h0 h1 h9, hr]
  simp only [rd, hb, Bool.false_eq_true, if_false, hc, if_true, Rd.plus, uintEnd]
  have e1 : c.toNat % 128 = c.toNat := by omega
  rw [e1]
  simp [Int.add_assoc]

theorem step_ok {k acc : Nat} {c : Int} {r : Rd} {t : List Int} (hb : ¬ bad k c = true) (hc : ¬ c < 128) (hr : r = (rd k (c :: t)).plus acc) :
    r = (rd (k + 1) t).plus (acc + c.toNat % 128 * 128 ^ k) := by
  rw [hr]
  simp only [rd, hb, Bool.false_eq_true, if_false, hc]
  cases rd (k + 1) t <;> simp [Rd.plus, Nat.add_assoc]

theorem step_lt {k acc : Nat} {c : Int} (hacc : acc < 128 ^ k) : acc + c.toNat % 128 * 128 ^ k < 128 ^ (k + 1) := by
  have h : c.toNat % 128 * 128 ^ k ≤ 127 * 128 ^ k := Nat.mul_le_mul_right _ (by omega)
  rw [Nat.pow_succ]; omega

theorem end_form {a n k acc : Nat} {c : Int} {r : Rd} {t : List Int} (hb : bad k c = true) (hr : r = (rd k (c :: t)).plus acc) :
    Ending.panicked [{ v := flt ((a : Int) + k) 11, recovered := false }] = uintEnd a n r := by
  rw [hr]
  simp [rd, hb, Rd.plus, uintEnd]

theorem end_short {a n k acc : Nat} {r : Rd} {t : List Int} (ht : t = []) (hr : r = (rd k t).plus acc) :
    Ending.panicked [{ v := flt n 10, recovered := false }] = uintEnd a n r := by
  rw [hr, ht]
  simp [rd, Rd.plus, uintEnd]

set_option maxHeartbeats 800000 in
set_option maxRecDepth 100000 in
theorem uintAt_any (R a : Nat) (ao : Option Addr) (cap : Nat) (l : List Int) (w : World) (hB : Bytes l) (h0 : w.cell? ⟨R, 0, none⟩ = some (.slice ao l.length cap)) (hg : ∀ i, i < l.length → ∃ g, ao = some ⟨g, 0, none⟩ ∧ w.cell? ⟨g, i, none⟩ = some (.int .u8 (l[i]?.getD 0))) (hn : l.length ≤ 1048576) (ha : a ≤ l.length) :
    Calls Tryz.prog 95 #[.pointer (some ⟨R, 0, none⟩), .int .i64 a] w fun x w' => x = uintEnd a l.length (rd 0 (l.drop a)) ∧ w' = w := by
  have HG : Hid (∀ i, i < l.length → ∃ g, ao = some ⟨g, 0, none⟩ ∧ w.cell? ⟨g, i, none⟩ = some (.int .u8 (l[i]?.getD 0))) := hg
  clear hg
  go_enter Tryz.func95, Tryz.ntmps95
  go_wp2_with fail
  go_loopw [6, 7] (fun n i wr => ∃ k acc : Nat, wr = w ∧ k ≤ 9 ∧ a + k ≤ l.length ∧ acc < 128 ^ k ∧ i = .int .i64 k ∧ n = .int .u64 acc ∧ rd 0 (l.drop a) = (rd k (l.drop (a + k))).plus acc) (fun _ i _ => 10 - (intOf i).toNat)
  case atStart => exact ⟨0, 0, rfl, by omega, by omega, by simp, rfl, rfl, by cases rd 0 (l.drop a) <;> simp [Rd.plus]⟩
  case round =>
    obtain ⟨k, acc, rfl, hk9, hak, hacc, rfl, rfl, hrd⟩ := hrel
    have HR : Hid (rd 0 (l.drop a) = (rd k (l.drop (a + k))).plus acc) := hrd
    clear hrd
    by_cases hlt : a + k < l.length
    · obtain ⟨g, hao, hcg⟩ := HG.out (a + k) hlt
      have hcb := hB.at hlt
      have HR2 : Hid (rd 0 (l.drop a) = (rd k ((l[a + k]?.getD 0) :: l.drop (a + k + 1))).plus acc) := by
        have e : l.drop (a + k) = (l[a + k]?.getD 0) :: l.drop (a + k + 1) := by
          rw [List.drop_eq_getElem_cons hlt]; simp [List.getElem?_eq_getElem hlt]
        show _ = _
        rw [← e]; exact HR.out
      clear HR HG hB
      generalize l[a + k]?.getD 0 = c at *
      subst hao
      by_cases hbad : bad k c = true
      · by_cases hc0 : c ≤ 0
        · have hkp : 0 < k := by
            rcases Nat.eq_zero_or_pos k with h | h
            · subst h; simp [bad] at hbad
            · exact h
          go_wp2_with (first | (go_at_call 93; refine (byteAt_in R _ g l.length cap c _ h0 hn (by exact hlt) (by exact hcg)).mono ?_; rintro e w1 ⟨rfl, rfl⟩) | (go_at_call 96; refine (giveUp_any _ _ _).mono ?_; rintro e w2 ⟨rfl, rfl⟩))
          exact ⟨rfl, end_form hbad HR2.out, rfl⟩
        · have hk' : k = 9 ∧ c ≠ 1 := by
            simp [bad] at hbad
            rcases hbad with h | h
            · omega
            · exact h
          obtain ⟨rfl, hc1⟩ := hk'
          have hc2 : 2 ≤ c := by omega
          have hb1 : (c != 1) = true := by simp; omega
          have hb0 : (c == 0) = false := by simp; omega
          clear hc1
          go_wp2_with (first | (go_at_call 93; refine (byteAt_in R _ g l.length cap c _ h0 hn (by exact hlt) (by exact hcg)).mono ?_; rintro e w1 ⟨rfl, rfl⟩) | (go_at_call 96; refine (giveUp_any _ _ _).mono ?_; rintro e w2 ⟨rfl, rfl⟩))
          exact ⟨rfl, end_form hbad HR2.out, rfl⟩
      · by_cases hc : c < 128
        · have hk3 : k = 0 ∨ (0 < k ∧ k < 9 ∧ 0 < c) ∨ (k = 9 ∧ c = 1) := by
            simp [bad] at hbad; omega
          have R1 := end_ok (a := a) (n := l.length) hk9 hacc hcb.1 hcb.2 hbad hc HR2.out
          have HR1 : Hid (Ending.returned (.tuple #[.int .u64 (bits .or .u64 (acc : Int) (IntKind.u64.wrap (IntKind.u64.wrap (bits .and .u8 c 127) * 2 ^ (7 * k)))), .int .i64 ((a : Int) + k + 1)]) = uintEnd a l.length (rd 0 (l.drop a))) := R1
          clear R1 hbad HR2
          rcases hk3 with rfl | ⟨hk1, hk2, hc0⟩ | ⟨rfl, rfl⟩
          · go_wp2_with (go_at_call 93; refine (byteAt_in R _ g l.length cap c _ h0 hn (by exact hlt) (by exact hcg)).mono ?_; rintro e w1 ⟨rfl, rfl⟩)
            go_ret2
            exact ⟨by simpa using HR1.out, rfl⟩
          · go_wp2_with (go_at_call 93; refine (byteAt_in R _ g l.length cap c _ h0 hn (by exact hlt) (by exact hcg)).mono ?_; rintro e w1 ⟨rfl, rfl⟩)
            go_ret2
            exact ⟨HR1.out, rfl⟩
          · go_wp2_with (go_at_call 93; refine (byteAt_in R _ g l.length cap 1 _ h0 hn (by exact hlt) (by exact hcg)).mono ?_; rintro e w1 ⟨rfl, rfl⟩)
            go_ret2
            exact ⟨by simpa using HR1.out, rfl⟩
        · have hk3 : k < 9 ∧ (k = 0 ∨ 0 < k) := by
            simp [bad] at hbad; omega
          obtain ⟨hk8, hk3⟩ := hk3
          have R1 : Hid (rd 0 (l.drop a) = (rd (k + 1) (l.drop (a + (k + 1)))).plus (acc + c.toNat % 128 * 128 ^ k)) := step_ok hbad hc HR2.out
          have R2 := step_lt (c := c) hacc
          have R3 : Hid (bits .or .u64 (acc : Int) (IntKind.u64.wrap (IntKind.u64.wrap (bits .and .u8 c 127) * 2 ^ (7 * k))) = ((acc + c.toNat % 128 * 128 ^ k : Nat) : Int)) := orshift acc k c hk9 hacc hcb.1 hcb.2 (by omega)
          clear hbad HR2
          rcases hk3 with rfl | hk1
          · go_wp2_with (go_at_call 93; refine (byteAt_in R _ g l.length cap c _ h0 hn (by exact hlt) (by exact hcg)).mono ?_; rintro e w1 ⟨rfl, rfl⟩)
            go_roundw
            case rel => exact ⟨1, _, trivial, by omega, by omega, R2, by go_num, congrArg (Value.int .u64) (by simpa using R3.out), R1.out⟩
            case measure => simp [intOf]
          · go_wp2_with (go_at_call 93; refine (byteAt_in R _ g l.length cap c _ h0 hn (by exact hlt) (by exact hcg)).mono ?_; rintro e w1 ⟨rfl, rfl⟩)
            go_roundw
            case rel => exact ⟨k + 1, _, trivial, by omega, by omega, R2, by go_num, congrArg (Value.int .u64) R3.out, R1.out⟩
            case measure => simp [intOf]; omega
    · have hak' : a + k = l.length := by omega
      have R1 : Hid (Ending.panicked [{ v := flt l.length 10, recovered := false }] = uintEnd a l.length (rd 0 (l.drop a))) := end_short (by rw [hak']; simp) HR.out
      clear HR HG hB
      have hge : l.length ≤ a + k := by omega
      clear hak'
      go_wp2_with (go_at_call 93; refine (byteAt_out R (a + k) ao l.length cap _ h0 hn hge (by omega)).mono ?_; rintro e w1 ⟨rfl, rfl⟩)
      exact ⟨rfl, R1.out, rfl⟩
end Go.Proofs.YthpelabmfpogbaaGreatDoor
