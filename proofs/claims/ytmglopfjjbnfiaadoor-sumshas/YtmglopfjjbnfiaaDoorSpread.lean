/-
  sum.spread by contract: the 64 words of a block.
-/
import Derived.Test.YtmglopfjjbnfiaaDoorSmall
import Derived.Deep.WholeRow
namespace Go.Proofs.YtmglopfjjbnfiaaDoor
open Go.RowKit

def fill (n : Nat) (l : List Nat) : Array Value := ((l ++ List.replicate (n - l.length) 0).map vw).toArray

theorem fill_size {n : Nat} {l : List Nat} (h : l.length ≤ n) : (fill n l).size = n := by simp [fill]; omega
theorem fill_set {n : Nat} {l : List Nat} (x : Nat) (h : l.length < n) : (fill n l).setIfInBounds l.length (vw x) = fill n (l ++ [x]) := by
  unfold fill
  obtain ⟨m, hm⟩ : ∃ m, n - l.length = m + 1 := ⟨n - l.length - 1, by omega⟩
  rw [hm, List.replicate_succ]
  have : n - (l ++ [x]).length = m := by simp; omega
  rw [this]
  apply Array.ext'
  simp
theorem fill_get {n i : Nat} {l : List Nat} (h : i < l.length) : (fill n l)[i]? = some (vw (l.getD i 0)) := by
  simp [fill, List.getElem?_append_left, h, List.getD]
theorem fill_full {n : Nat} {l : List Nat} (h : l.length = n) : fill n l = (l.map vw).toArray := by simp [fill, h]

structure SpW (w wr : World) (b l : List Nat) : Prop where
  arg : wr.heap[w.heap.size]? = some (.cells (b.map vb).toArray 96 (0, 0))
  out : wr.heap[w.heap.size + 1]? = some (.cells (fill 64 []) 148 (0, 0))
  row : wr.heap[w.heap.size + 2]? = some (.cells (fill 64 l) 148 (0, 0))
  below : Below w.heap.size w wr

theorem zero64 : (Tryd.prog.info? 148).map (fun i => (i.zero, i.size)) = some (some (.agg (fill 64 [])), 64) := by kernel_rfl

theorem SpW.start (w : World) (b : List Nat) : SpW w (((w.alloc (Obj.cells (b.map vb).toArray 96)).alloc (Obj.cells (fill 64 []) 148)).alloc (Obj.cells (fill 64 []) 148)) b [] := by
  refine ⟨?_, ?_, ?_, ?_⟩
  · rw [heap_alloc_old _ _ (by simp; omega), heap_alloc_old _ _ (by simp), heap_alloc_new]
  · rw [heap_alloc_old _ _ (by simp), show w.heap.size + 1 = (w.alloc (Obj.cells (b.map vb).toArray 96)).heap.size by simp, heap_alloc_new]
  · rw [show w.heap.size + 2 = ((w.alloc (Obj.cells (b.map vb).toArray 96)).alloc (Obj.cells (fill 64 []) 148)).heap.size by simp, heap_alloc_new]
  · exact (((Below.refl _ w).alloc (Nat.le_refl _) _).alloc (by simp) _).alloc (by simp; omega) _

theorem SpW.drewN {w wr : World} {b l : List Nat} (h : SpW w wr b l) (n : Nat) : SpW w (wr.drewN n) b l :=
  ⟨h.arg, h.out, h.row, h.below.trans ⟨rfl, rfl, rfl, Nat.le_refl _, fun _ _ => rfl⟩⟩

theorem SpW.set {w wr : World} {b l : List Nat} (h : SpW w wr b l) (x : Nat) (hl : l.length < 64) : SpW w (wr.setCell ⟨w.heap.size + 2, l.length, none⟩ (vw x)) b (l ++ [x]) := by
  refine ⟨?_, ?_, ?_, ?_⟩
  · rw [heap_setCell_other _ _ _ _ (by simp)]; exact h.arg
  · rw [heap_setCell_other _ _ _ _ (by simp)]; exact h.out
  · rw [heap_setCell_same _ _ _ _ _ _ h.row, fill_set _ hl]
  · exact h.below.trans ⟨rfl, rfl, rfl, by simp [World.setCell], fun k hk => heap_setCell_other _ _ _ _ (by simp; omega)⟩

theorem word_lt {b : List Nat} (hB : Bytes b) (i : Nat) : Sha.word b i < 4294967296 := by
  have h : ∀ j, b.getD j 0 < 256 := fun j => by
    by_cases hj : j < b.length
    · exact hB _ (by simp [List.getD, List.getElem?_eq_getElem hj])
    · simp [List.getD, List.getElem?_eq_none (Nat.le_of_not_lt hj)]
  unfold Sha.word
  have := h i; have := h (i + 1); have := h (i + 2); have := h (i + 3)
  omega
theorem firsts_lt {f : Nat → Nat} (hf : ∀ i, f i < 4294967296) : ∀ n, ∀ x ∈ Sha.firstsF f n, x < 4294967296
  | 0, x, hx => by simp [Sha.firstsF] at hx
  | n + 1, x, hx => by
    simp only [Sha.firstsF, List.mem_append, List.mem_singleton] at hx
    rcases hx with hx | rfl
    · exact firsts_lt hf n x hx
    · exact hf n
theorem grow_lt {f : List Nat → Nat} (hf : ∀ l, f l < 4294967296) : ∀ n l, (∀ x ∈ l, x < 4294967296) → ∀ x ∈ Sha.growF f n l, x < 4294967296
  | 0, l, h, x, hx => h x hx
  | n + 1, l, h, x, hx => by
    rw [Sha.growF_succ] at hx
    refine grow_lt hf n _ ?_ x hx
    intro y hy
    simp only [List.mem_append, List.mem_singleton] at hy
    rcases hy with hy | rfl
    · exact h y hy
    · exact hf l
theorem next_lt (l : List Nat) : Sha.next l < 4294967296 := Nat.mod_lt _ (by decide)
theorem sched_lt {b : List Nat} (hB : Bytes b) : ∀ x ∈ Sha.sched b, x < 4294967296 := grow_lt next_lt 48 _ (firsts_lt (fun _ => word_lt hB _) 16)

set_option maxRecDepth 100000 in
theorem slice96 (g o l : Nat) (h : l < 64) (wz : World) : (Instr.sliceAt 96 (.pointer (some ⟨g, o, none⟩)) (some (.int .i64 (l : Int))) none none).run Tryd.prog wz = .ok (.slice (some ⟨g, o + l, none⟩) (64 - l) (64 - l)) wz := by
  rw [run_sliceAt_array_l wz 96 ⟨g, o, none⟩ Tryd.underlying96 .i64 l (by omega) (by rw [show Tryd.prog.arrayLen 96 = 64 by kernel_rfl]; omega)]
  have h1 : (Tryd.prog.info? (Tryd.prog.elem 96)).map (·.size) = some 1 := by kernel_rfl
  cases hq : Tryd.prog.info? (Tryd.prog.elem 96) with
  | none => simp [hq] at h1
  | some i =>
    have hs : i.size = 1 := by simpa [hq] using h1
    rw [show Tryd.prog.arrayLen 96 = 64 by kernel_rfl]
    simp [sizeOf, typeInfo, hq, hs, slicedAt, Addr.add, show ¬ (64 = l) by omega, Result.andThen]

set_option maxHeartbeats 1000000 in
set_option maxRecDepth 100000 in
theorem spread_any (b : List Nat) (w : World) (hb : b.length = 64) (hB : Bytes b) :
    Calls Tryd.prog 68 #[.agg (b.map vb).toArray] w fun e w' => e = .returned (.agg ((Sha.sched b).map vw).toArray) ∧ Below w.heap.size w w' := by
  have HB : Hid (Bytes b) := hB
  have HL : Hid (b.length = 64) := hb
  clear hb hB
  go_enter Tryd.func68, Tryd.ntmps68
  go_wp2
  go_loopw [8] (fun i wr => ∃ (k : Nat), k ≤ 16 ∧ i = .int .i64 k ∧ SpW w wr b (Sha.firstsF (fun i => Sha.word b (4 * i)) k)) (fun i _ => 16 - (intOf i).toNat)
  case atStart => exact ⟨0, by omega, rfl, SpW.start w b⟩
  case round =>
    obtain ⟨k, hk, rfl, HS⟩ := hrel
    by_cases hlt : k < 16
    · have hkI : (k : Int) < 16 := by omega
      have hk64 : (k : Int) < 64 := by omega
      have hsl := slice96 w.heap.size 0 (4 * k) (by omega)
      rw [show ((4 * k : Nat) : Int) = 4 * (k : Int) by omega] at hsl
      have C : Hid (Calls Tryd.prog 70 #[.slice (some ⟨w.heap.size, 4 * k, none⟩) (64 - 4 * k) (64 - 4 * k)] wr fun e w' => e = .returned (vw (Sha.word b (4 * k))) ∧ ∃ n, w' = wr.drewN n) := by
        have hc : ∀ j, j < 64 → wr.cell? ⟨w.heap.size, j, none⟩ = some (vb (b.getD j 0)) := fun j hj => by
          rw [cell_of_row wr _ j _ _ _ HS.arg]
          have hj' : j < b.length := by rw [HL.out]; exact hj
          simp [List.getD, List.getElem?_eq_getElem hj']
        have hs : ∀ j, j < 64 → b.getD j 0 < 256 := fun j hj => by
          have hj' : j < b.length := by rw [HL.out]; exact hj
          exact HB.out _ (by simp [List.getD, List.getElem?_eq_getElem hj'])
        exact wordAt_any w.heap.size (4 * k) _ _ _ _ _ _ wr (hs _ (by omega)) (hs _ (by omega)) (hs _ (by omega)) (hs _ (by omega)) (by omega) (hc _ (by omega)) (hc _ (by omega)) (hc _ (by omega)) (hc _ (by omega))
      have hlen : Hid ((Sha.firstsF (fun i => Sha.word b (4 * i)) k).length = k) := Sha.firstsF_len _ _
      have HN : Hid (∀ n, SpW w ((wr.drewN n).setCell ⟨w.heap.size + 2, k, none⟩ (.int .u32 ((Sha.word b (4 * k) : Nat) : Int))) b (Sha.firstsF (fun i => Sha.word b (4 * i)) (k + 1))) := fun n => by
        have := (HS.drewN n).set (Sha.word b (4 * k)) (by rw [hlen.out]; omega)
        rw [hlen.out] at this
        exact this
      have hcell : ∃ v, wr.cell? ⟨w.heap.size + 2, k, none⟩ = some v := ⟨_, by
        rw [cell_of_row wr _ k _ _ _ HS.row]
        exact Array.getElem?_eq_getElem (by rw [fill_size (by rw [hlen.out]; omega)]; omega)⟩
      obtain ⟨v0, hcell⟩ := hcell
      have hfr : wr.frozen? ⟨w.heap.size + 2, k, none⟩ = false := frozen_of_row wr _ k _ _ HS.row
      clear HS
      unfold vw at C
      go_wp2_with (go_at_call 70; refine C.out.mono ?_; rintro e w1 ⟨rfl, n, rfl⟩)
      go_roundw
      case rel => exact ⟨k + 1, by omega, by go_num, HN.out _⟩
      case measure => simp [intOf]; omega
    · have hkI : ¬ (k : Int) < 16 := by omega
      obtain rfl : k = 16 := by omega
      clear hkI hlt hk
      go_wp2
      go_loopw [5] (fun i wr => ∃ (k : Nat), 16 ≤ k ∧ k ≤ 64 ∧ i = .int .i64 (k : Int) ∧ SpW w wr b (Sha.growF Sha.next (k - 16) (Sha.firstsF (fun i => Sha.word b (4 * i)) 16))) (fun i _ => 64 - (intOf i).toNat)
      case atStart => exact ⟨16, by omega, by omega, rfl, HS⟩
      case round =>
        clear HS
        obtain ⟨k, hk16, hk, rfl, HS⟩ := hrel
        by_cases hlt : k < 64
        · have hkI : (k : Int) < 64 := by omega
          obtain ⟨l, hl⟩ : ∃ l, l = Sha.growF Sha.next (k - 16) (Sha.firstsF (fun i => Sha.word b (4 * i)) 16) := ⟨_, rfl⟩
          rw [← hl] at HS
          have hll : Hid (l.length = k) := by show _ = _; rw [hl, Sha.growF_len, Sha.firstsF_len]; omega
          have HG : Hid (l ++ [Sha.next l] = Sha.growF Sha.next (k + 1 - 16) (Sha.firstsF (fun i => Sha.word b (4 * i)) 16)) := by
            show _ = _; rw [show k + 1 - 16 = (k - 16) + 1 by omega, Sha.growF_last, ← hl]
          have HW : Hid (∀ x ∈ l, x < 4294967296) := by rw [hl]; exact grow_lt next_lt _ _ (firsts_lt (fun _ => word_lt HB.out _) 16)
          clear hl
          have hcl : Hid (∀ wz, SpW w wz b l → ∀ i, i < k → wz.cell? ⟨w.heap.size + 2, i, none⟩ = some (.int .u32 ((l.getD i 0 : Nat) : Int))) := fun wz hz i hi => by
            rw [cell_of_row wz _ i _ _ _ hz.row, fill_get (by rw [hll.out]; exact hi)]; rfl
          have hlt32 : Hid (∀ i, i < k → l.getD i 0 < 4294967296) := fun i hi => by
            have : i < l.length := by rw [hll.out]; exact hi
            exact HW.out _ (by simp [List.getD, List.getElem?_eq_getElem this])
          obtain ⟨m15, s15, k15⟩ : ∃ m : Nat, (k : Int) - 15 = (m : Int) ∧ Hid (m = k - 15) := ⟨k - 15, by omega, rfl⟩
          have b15 : (m15 : Int) < 64 := by omega
          have v15 : IntKind.i64.wrap (m15 : Int) = (m15 : Int) := by rw [IntKind.wrap_i64]; omega
          obtain ⟨a15, E15⟩ : ∃ a, a = l.getD m15 0 := ⟨_, rfl⟩
          have l15 : a15 < 4294967296 := by rw [E15]; exact hlt32.out _ (by have := k15.out; omega)
          have G15 : Hid (∀ wz, SpW w wz b l → wz.cell? ⟨w.heap.size + 2, m15, none⟩ = some (.int .u32 (a15 : Int))) := fun wz hz => by rw [E15]; exact hcl.out wz hz _ (by have := k15.out; omega)
          have F15 : Hid (a15 = l.getD (k - 15) 0) := by show _ = _; rw [E15, k15.out]
          clear E15
          obtain ⟨m2, s2, k2⟩ : ∃ m : Nat, (k : Int) - 2 = (m : Int) ∧ Hid (m = k - 2) := ⟨k - 2, by omega, rfl⟩
          have b2 : (m2 : Int) < 64 := by omega
          have v2 : IntKind.i64.wrap (m2 : Int) = (m2 : Int) := by rw [IntKind.wrap_i64]; omega
          obtain ⟨a2, E2⟩ : ∃ a, a = l.getD m2 0 := ⟨_, rfl⟩
          have l2 : a2 < 4294967296 := by rw [E2]; exact hlt32.out _ (by have := k2.out; omega)
          have G2 : Hid (∀ wz, SpW w wz b l → wz.cell? ⟨w.heap.size + 2, m2, none⟩ = some (.int .u32 (a2 : Int))) := fun wz hz => by rw [E2]; exact hcl.out wz hz _ (by have := k2.out; omega)
          have F2 : Hid (a2 = l.getD (k - 2) 0) := by show _ = _; rw [E2, k2.out]
          clear E2
          obtain ⟨m16, s16, k16⟩ : ∃ m : Nat, (k : Int) - 16 = (m : Int) ∧ Hid (m = k - 16) := ⟨k - 16, by omega, rfl⟩
          have b16 : (m16 : Int) < 64 := by omega
          have v16 : IntKind.i64.wrap (m16 : Int) = (m16 : Int) := by rw [IntKind.wrap_i64]; omega
          obtain ⟨a16, E16⟩ : ∃ a, a = l.getD m16 0 := ⟨_, rfl⟩
          have l16 : a16 < 4294967296 := by rw [E16]; exact hlt32.out _ (by have := k16.out; omega)
          have G16 : Hid (∀ wz, SpW w wz b l → wz.cell? ⟨w.heap.size + 2, m16, none⟩ = some (.int .u32 (a16 : Int))) := fun wz hz => by rw [E16]; exact hcl.out wz hz _ (by have := k16.out; omega)
          have F16 : Hid (a16 = l.getD (k - 16) 0) := by show _ = _; rw [E16, k16.out]
          clear E16
          obtain ⟨m7, s7, k7⟩ : ∃ m : Nat, (k : Int) - 7 = (m : Int) ∧ Hid (m = k - 7) := ⟨k - 7, by omega, rfl⟩
          have b7 : (m7 : Int) < 64 := by omega
          have v7 : IntKind.i64.wrap (m7 : Int) = (m7 : Int) := by rw [IntKind.wrap_i64]; omega
          obtain ⟨a7, E7⟩ : ∃ a, a = l.getD m7 0 := ⟨_, rfl⟩
          have l7 : a7 < 4294967296 := by rw [E7]; exact hlt32.out _ (by have := k7.out; omega)
          have G7 : Hid (∀ wz, SpW w wz b l → wz.cell? ⟨w.heap.size + 2, m7, none⟩ = some (.int .u32 (a7 : Int))) := fun wz hz => by rw [E7]; exact hcl.out wz hz _ (by have := k7.out; omega)
          have F7 : Hid (a7 = l.getD (k - 7) 0) := by show _ = _; rw [E7, k7.out]
          clear E7
          obtain ⟨r1, r2, r3, r4, R1, R2, R3, R4, q1, q2, q3, q4⟩ : ∃ r1 r2 r3 r4 : Nat, Hid (r1 = Sha.rot a15 7) ∧ Hid (r2 = Sha.rot a15 18) ∧ Hid (r3 = Sha.rot a2 17) ∧ Hid (r4 = Sha.rot a2 19) ∧ r1 < 4294967296 ∧ r2 < 4294967296 ∧ r3 < 4294967296 ∧ r4 < 4294967296 :=
            ⟨_, _, _, _, rfl, rfl, rfl, rfl, rot_lt l15, rot_lt l15, rot_lt l2, rot_lt l2⟩
          obtain ⟨x1, x2, x3, X1, X3, e1, e3, z1, z3⟩ : ∃ x1 x2 x3 : Nat, Hid (x1 = r1 ^^^ r2 ^^^ a15 / 8) ∧ Hid (x3 = r3 ^^^ r4 ^^^ a2 / 1024) ∧ bits .xor .u32 (bits .xor .u32 (r1 : Int) (r2 : Int)) ((a15 : Int) / 8) = (x1 : Int) ∧ bits .xor .u32 (bits .xor .u32 (r3 : Int) (r4 : Int)) ((a2 : Int) / 1024) = (x3 : Int) ∧ x1 < 4294967296 ∧ x3 < 4294967296 := by
            refine ⟨r1 ^^^ r2 ^^^ a15 / 8, 0, r3 ^^^ r4 ^^^ a2 / 1024, rfl, rfl, ?_, ?_, Nat.xor_lt_two_pow (n := 32) (Nat.xor_lt_two_pow q1 q2) (by omega), Nat.xor_lt_two_pow (n := 32) (Nat.xor_lt_two_pow q3 q4) (by omega)⟩
            · rw [show (a15 : Int) / 8 = ((a15 / 8 : Nat) : Int) by omega]; exact xor3_bits q1 q2 (by omega)
            · rw [show (a2 : Int) / 1024 = ((a2 / 1024 : Nat) : Int) by omega]; exact xor3_bits q3 q4 (by omega)
          have C1 : Hid (∀ wz, Calls Tryd.prog 71 #[.int .u32 (a15 : Int), .int .i64 7] wz fun e w' => e = .returned (.int .u32 (r1 : Int)) ∧ w' = wz) := fun wz => by rw [R1.out]; exact right_any a15 7 wz l15 (by decide) (by decide)
          have C2 : Hid (∀ wz, Calls Tryd.prog 71 #[.int .u32 (a15 : Int), .int .i64 18] wz fun e w' => e = .returned (.int .u32 (r2 : Int)) ∧ w' = wz) := fun wz => by rw [R2.out]; exact right_any a15 18 wz l15 (by decide) (by decide)
          have C3 : Hid (∀ wz, Calls Tryd.prog 71 #[.int .u32 (a2 : Int), .int .i64 17] wz fun e w' => e = .returned (.int .u32 (r3 : Int)) ∧ w' = wz) := fun wz => by rw [R3.out]; exact right_any a2 17 wz l2 (by decide) (by decide)
          have C4 : Hid (∀ wz, Calls Tryd.prog 71 #[.int .u32 (a2 : Int), .int .i64 19] wz fun e w' => e = .returned (.int .u32 (r4 : Int)) ∧ w' = wz) := fun wz => by rw [R4.out]; exact right_any a2 19 wz l2 (by decide) (by decide)
          have HX : Hid ((((((((a16 : Int) + x1) % 4294967296) + a7) % 4294967296) + x3) % 4294967296) = ((Sha.next l : Nat) : Int)) := by
            show _ = _
            have hn : Sha.next l = (a16 + x1 + a7 + x3) % 4294967296 := by
              unfold Sha.next
              rw [hll.out, ← F16.out, ← F15.out, ← F7.out, ← F2.out, ← R1.out, ← R2.out, ← R3.out, ← R4.out, ← X1.out, ← X3.out]
            rw [hn]; omega
          have HN : Hid (∀ wz, SpW w wz b l → SpW w (wz.setCell ⟨w.heap.size + 2, k, none⟩ (.int .u32 ((Sha.next l : Nat) : Int))) b (l ++ [Sha.next l])) := fun wz hz => by
            have := hz.set (Sha.next l) (by rw [hll.out]; omega)
            rw [hll.out] at this
            exact this
          have HK : Hid (∀ wz, SpW w wz b l → ∃ v, wz.cell? ⟨w.heap.size + 2, k, none⟩ = some v) := fun wz hz => ⟨_, by
            rw [cell_of_row wz _ k _ _ _ hz.row]
            exact Array.getElem?_eq_getElem (by rw [fill_size (by rw [hll.out]; omega)]; omega)⟩
          clear hcl hlt32 HW R1 R2 R3 R4 X1 X3 F16 F15 F7 F2 q1 q2 q3 q4 z1 z3 k15 k2 k16 k7
          have c15 := G15.out wr HS
          go_wp2
          go_quiet ((go_at_call 71; first | exact Calls.quiet_of_same (C1.out _) | exact Calls.quiet_of_same (C2.out _)))
          obtain ⟨wa, hwa⟩ : ∃ wa, wa = wr.drewN nq := ⟨_, rfl⟩
          have HA : SpW w wa b l := by rw [hwa]; exact HS.drewN nq
          rw [← hwa]
          clear hwa HS c15 C1 C2 e1
          have c2 := G2.out wa HA
          go_wp2
          go_quiet ((go_at_call 71; first | exact Calls.quiet_of_same (C3.out _) | exact Calls.quiet_of_same (C4.out _)))
          obtain ⟨wc, hwc⟩ : ∃ wc, wc = wa.drewN nq := ⟨_, rfl⟩
          have HA2 : SpW w wc b l := by rw [hwc]; exact HA.drewN nq
          rw [← hwc]
          clear hwc HA c2 C3 C4 e3
          have c16 := G16.out wc HA2
          have c7 := G7.out wc HA2
          obtain ⟨v0, ck⟩ := HK.out wc HA2
          have hfr : wc.frozen? ⟨w.heap.size + 2, k, none⟩ = false := frozen_of_row wc _ k _ _ HA2.row
          have HR : Hid (SpW w wc b l) := HA2
          clear HA2
          go_wp2
          go_region
          have HF : SpW w ((wc.setCell ⟨w.heap.size + 1 + 1, k, none⟩ (.int .u32 (((a16 : Int) + x1 + a7 + x3) % 4294967296))).drew) b (l ++ [Sha.next l]) := by
            have h := (HN.out wc HR.out).drewN 1
            rw [← HX.out] at h
            rw [show (((a16 : Int) + x1 + a7 + x3) % 4294967296) = (((((((a16 : Int) + x1) % 4294967296) + a7) % 4294967296) + x3) % 4294967296) by omega]
            exact h
          rw [HG.out] at HF
          clear HN HR HX HG
          go_wp2
          go_roundw
          case rel => exact ⟨k + 1, by omega, by omega, by go_num, HF⟩
          case measure => simp [intOf]; omega
        · have hkI : ¬ (k : Int) < 64 := by omega
          obtain rfl : k = 64 := by omega
          have HSC : Hid (Sha.growF Sha.next (64 - 16) (Sha.firstsF (fun i => Sha.word b (4 * i)) 16) = Sha.sched b) := rfl
          obtain ⟨l, hl⟩ : ∃ l, l = Sha.sched b := ⟨_, rfl⟩
          rw [HSC.out, ← hl] at HS
          have hll : l.length = 64 := by rw [hl]; exact Sha.growF_len _ _ _
          clear HSC
          obtain ⟨c, hc⟩ : ∃ c, c = (l.map vw).toArray := ⟨_, rfl⟩
          have HCE : Hid (c = ((Sha.sched b).map vw).toArray) := by show _ = _; rw [hc, hl]
          clear hl
          have hrow := HS.row
          rw [fill_full hll, ← hc] at hrow
          have hcs : c.size = 64 := by rw [hc]; simpa using hll
          have hsz : (Tryd.prog.info? 148).map (·.size) = some c.size := by rw [hcs]; kernel_rfl
          have hout := HS.out
          have hc1 : c.all (·.oneCell') = true := by rw [hc]; exact all_vw l
          have ho : (fill 64 []).size = c.size := by rw [fill_size (by simp), hcs]
          have HRS : Hid ((wr.setRow (w.heap.size + 1) c).heap[w.heap.size + 1]? = some (.cells c 148 (0, 0))) := setRow_heap _ _ _ _ _ _ HS.out
          have HBL : Hid (Below w.heap.size w (wr.setRow (w.heap.size + 1) c)) := below_setRow HS.below (by omega) c
          have HF : Hid (wr.heap[w.heap.size + 2]? = some (.cells c 148 (0, 0)) ∧ wr.heap[w.heap.size + 1]? = some (.cells (fill 64 []) 148 (0, 0)) ∧ (Tryd.prog.info? 148).map (·.size) = some c.size ∧ c.all (·.oneCell') = true ∧ (fill 64 []).size = c.size) := ⟨hrow, hout, hsz, hc1, ho⟩
          clear hrow HS hc hll hsz hout hc1 ho hcs
          go_wp2_with (first | refine wpList_load_row rfl 148 (.tmp 3) rfl (w.heap.size + 2) rfl 148 c (0, 0) (.array 64 49) HF.out.1 Tryd.underlying148 rfl HF.out.2.2.1 ?_ | refine wpList_store_row rfl 148 (.tmp 2) (.tmp 71) rfl (w.heap.size + 1) c rfl rfl 148 (fill 64 []) HF.out.2.1 HF.out.2.2.1 HF.out.2.2.2.2 HF.out.2.2.2.1 ?_)
          refine bodyPost_ret (results_cell_row (P := Tryd.prog) rfl _ _ (w.heap.size + 1) 148 c (0, 0) (.array 64 49) rfl HRS.out Tryd.underlying148 rfl HF.out.2.2.1) rfl ⟨by rw [HCE.out], HBL.out⟩
end Go.Proofs.YtmglopfjjbnfiaaDoor
