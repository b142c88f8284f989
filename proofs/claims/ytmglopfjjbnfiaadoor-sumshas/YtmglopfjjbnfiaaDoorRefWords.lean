/-
  The reference's words: the 64 words of a block.
-/
import Derived.Test.YtmglopfjjbnfiaaDoorRefTurn
import Derived.Test.YtmglopfjjbnfiaaDoorKnown
import Derived.Deep.RegionHeld3
import Derived.Deep.RegionWith
import Derived.Deep.AppendLies
namespace Go.Proofs.YtmglopfjjbnfiaaDoor
open Go.RowKit

theorem ar_load84 {md : Region.Mode} {ops : Array Oper} {Q : Exit → Act → World → Prop} {fuel : Nat} {listed : Array Bool} {a : Act} {w : World} {i : Nat} {o : Oper} {rs : List Nat} (hoi : ops[i]? = some o)
    (hgd : o.guard = none) (x : Operand) (ho : o.op = .load 84 x) (ad : Addr) (hx : a.eval x = .pointer (some ad)) (v : Value) (hc : w.cell? ad = some v)
    (h : wpAny Tryd.prog md ops Q fuel (listed.setIfInBounds i true) (a.put o.dst v) w)
    (hs : AllReady Tryd.prog md ops Q fuel listed a w rs) : AllReady Tryd.prog md ops Q fuel listed a w (i :: rs) := by
  refine AllReady.cons hoi (fun K' hK => ?_) hs
  have hw : Region.wanted o (yielded ops a.tmps) = true := by simp [Region.wanted, hgd]
  rw [if_pos hw]
  have hl : (Instr.loadAt 84 (.pointer (some ad))).run Tryd.prog w = .ok v w := by simp [Instr.loadAt, hc, go_sem]
  unfold Oper.wp execOp
  simp only [ho, hx, Sem.run_bind, hl, Result.andThen_ok, Sem.run_pure]
  exact hK _ _ h

theorem ar_append_q {md : Region.Mode} {ops : Array Oper} {Q : Exit → Act → World → Prop} {fuel : Nat} {listed : Array Bool} {a : Act} {w : World} {i : Nat} {o : Oper} {rs : List Nat} (hoi : ops[i]? = some o)
    (hgd : o.guard = none) (s x : Operand) (ho : o.op = .call { callee := .builtin .append, args := #[s, x], argTypes := #[81, 81] })
    (lo : Nat) (v : Value) (g y : Nat) (l : List Nat) (hs : a.eval s = v) (hx : a.eval x = .slice (some ⟨g, 0, none⟩) 1 1) (hown : OwnsQ w lo v l) (hc : w.cell? ⟨g, 0, none⟩ = some (vq y)) (hlen : l.length + 1 ≤ 65536) (hbase : lo ≤ w.heap.size)
    (h : ∀ v' w', OwnsQ w' lo v' (l ++ [y]) → Below lo w w' → wpAny Tryd.prog md ops Q fuel (listed.setIfInBounds i true) (a.put o.dst v') w')
    (hr : AllReady Tryd.prog md ops Q fuel listed a w rs) : AllReady Tryd.prog md ops Q fuel listed a w (i :: rs) := by
  refine AllReady.cons hoi (fun K' hK => ?_) hr
  have hw : Region.wanted o (yielded ops a.tmps) = true := by simp [Region.wanted, hgd]
  rw [if_pos hw]
  obtain ⟨i0, hi, hz0, hz1, hz2⟩ := info_parts Tryd.info84
  refine wp_append_own w s x 81 ho lo 84 i0 (.int .u64 0) 1 8 Tryd.underlying81 hi hz0 hz1 hz2 rfl (by decide) v l.length (l.map vq) hs hown ⟨g, 0, none⟩ 1 1 [vq y] hx rfl ?_ ?_ ?_ ?_ hbase ?_
  · intro j u hj
    have hj0 : j = 0 := by
      have := (List.getElem?_eq_some_iff.1 hj).1
      simpa using this
    subst hj0
    rw [show (⟨g, 0, none⟩ : Addr).add 0 = ⟨g, 0, none⟩ from rfl, hc]; exact hj
  · intro u hu; rw [List.mem_singleton.1 hu]; rfl
  · unfold maxLen; omega
  · omega
  · intro v' w' h1 h2 _
    refine hK _ _ (h v' w' ?_ ((Below.refl lo w).grown h2 hbase fun k hk => (World.ownsRow.lt hown k hk).1))
    unfold OwnsQ
    simpa using h1

set_option maxHeartbeats 4000000 in
set_option maxRecDepth 100000 in
theorem words_any (v : Value) (b : List Nat) (w : World) (hv : Has w v b) (hB : Bytes b) (hl : b.length = 64) :
    Calls Tryd.prog 64 #[v] w fun e w' => ∃ u, e = .returned u ∧ OwnsQ w' w.heap.size u (Sha.sched b) ∧ Below w.heap.size w w' := by
  obtain ⟨a, cap, rfl, HC⟩ : ∃ a cap, v = .slice (some a) 64 cap ∧ Hid (∀ i, i < 64 → w.cell? (a.add i) = some (vb (b.getD i 0))) := by
    rcases hv with ⟨_, h⟩ | ⟨a, cap, e, _, h⟩
    · rw [h] at hl; cases hl
    · rw [hl] at e h; exact ⟨a, cap, e, h⟩
  have hG : Hid (∀ i, b.getD i 0 < 256) := fun i => by
    by_cases hj : i < b.length
    · exact hB _ (by simp [List.getD, List.getElem?_eq_getElem hj])
    · simp [List.getD, List.getElem?_eq_none (Nat.le_of_not_lt hj)]
  have HBB : Hid (Bytes b) := hB
  clear hv hB hl
  go_enter Tryd.func64, Tryd.ntmps64
  go_wp2_with fail
  go_loopw [3, 4] (fun lv i wr => ∃ (k : Nat), k ≤ 16 ∧ i = .int .i64 k ∧ Hid (OwnsQ wr w.heap.size lv (Sha.firstsF (fun i => Sha.word b (4 * i)) k)) ∧ Hid (Below w.heap.size w wr)) (fun _ i _ => 16 - (intOf i).toNat)
  case atStart => exact ⟨0, by omega, rfl, OwnsQ.nil _ _, Below.refl _ _⟩
  case round =>
    obtain ⟨k, hk, rfl, HO, HW⟩ := hrel
    by_cases hlt : k < 16
    · have hkI : (k : Int) < 16 := by omega
      go_wp2_with fail
      go_loopw [5, 6] (fun x i wz => ∃ (m X : Nat), m ≤ 4 ∧ i = .int .i64 m ∧ x = .int .u64 (X : Int) ∧ Hid (X = px b (4 * k) m) ∧ wz = wr) (fun _ i _ => 4 - (intOf i).toNat)
      case atStart => exact ⟨0, 0, by omega, rfl, rfl, rfl, rfl⟩
      case round =>
        obtain ⟨m, X, hm, rfl, rfl, HX, rfl⟩ := hrel
        by_cases hm4 : m < 4
        · have hmI : (m : Int) < 4 := by omega
          obtain ⟨j, hj⟩ : ∃ j, j = 4 * k + m := ⟨_, rfl⟩
          obtain ⟨y, hy⟩ : ∃ y, y = b.getD j 0 := ⟨_, rfl⟩
          have hcy : wr.cell? (a.add j) = some (.int .u8 (y : Int)) := by
            have h := HC.out j (by omega)
            rw [HW.out.cell (block_lt_of_cell h), h, hy]; rfl
          have hy2 : y < 256 := by rw [hy]; exact hG.out j
          have hXl : X < 16777216 := by
            rw [HX.out]
            have h := px_lt hG.out (4 * k) m (by omega)
            have : 256 ^ m ≤ 256 ^ 3 := Nat.pow_le_pow_right (by decide) (by omega)
            omega
          have HX2 : Hid (256 * X + y = px b (4 * k) (m + 1)) := by show _ = _; rw [px, HX.out, hy, hj]
          have hjI : IntKind.i64.wrap (4 * (k : Int) + m) = (j : Int) := by rw [IntKind.wrap_i64]; omega
          have hj1 : (j : Int) < 64 := by omega
          have hw1 : IntKind.i64.wrap (4 * (k : Int)) = 4 * (k : Int) := by rw [IntKind.wrap_i64]; omega
          have hjm : 4 * (k : Int) + m = (j : Int) := by omega
          have hwu : IntKind.u64.wrap (256 * (X : Int) + (y : Int)) = 256 * (X : Int) + (y : Int) := by rw [IntKind.wrap_u64]; omega
          clear hy hj hm4
          go_wp2_with fail
          go_roundw
          case rel => exact ⟨m + 1, 256 * X + y, by omega, by go_num, by go_num, HX2.out, by simp⟩
          case measure => simp [intOf]; omega
        · have hmI : ¬ (m : Int) < 4 := by omega
          obtain rfl : m = 4 := by omega
          have HX2 : Hid (X = Sha.word b (4 * k)) := by show _ = _; rw [HX.out, px4]
          have HOS : Hid (Sha.firstsF (fun i => Sha.word b (4 * i)) k ++ [X] = Sha.firstsF (fun i => Sha.word b (4 * i)) (k + 1)) := by show _ = _; rw [HX2.out]; rfl
          clear HX HX2
          go_wp2_with (at_builtin; refine wpList_append_q rfl (.tmp 31) (.tmp 33) rfl w.heap.size _ wr.heap.size X _ rfl rfl (HO.out.block fun q hq => heap_alloc_old _ _ hq) (by rw [cell_of_row _ _ 0 _ _ _ (heap_alloc_new _ _)]; rfl) (by rw [Sha.firstsF_len]; omega) (by have := HW.out.size; simp; omega) ?_; intro v' w' hp' hb'; have HP2 : Hid (OwnsQ w' w.heap.size v' (Sha.firstsF (fun i => Sha.word b (4 * i)) (k + 1)) ∧ Below w.heap.size w w') := ⟨by rw [← HOS.out]; exact hp', HW.out.trans (((Below.refl w.heap.size wr).alloc HW.out.size _).trans hb')⟩; clear hp' hb')
          go_roundw
          case rel => exact ⟨k + 1, by omega, by go_num, HP2.out.1, HP2.out.2⟩
          case measure => simp [intOf]; omega
    · have hkI : ¬ (k : Int) < 16 := by omega
      obtain rfl : k = 16 := by omega
      go_wp2_with fail
      go_loopw [3, 7] (fun lv i wr => ∃ (m : Nat), m ≤ 48 ∧ i = .int .i64 ((16 + m : Nat) : Int) ∧ Hid (OwnsQ wr w.heap.size lv (Sha.growF Sha.next m (Sha.firstsF (fun i => Sha.word b (4 * i)) 16))) ∧ Hid (Below w.heap.size w wr)) (fun _ i _ => 64 - (intOf i).toNat)
      case atStart => exact ⟨0, by omega, rfl, HO.out, HW.out⟩
      case round =>
        clear HO HW
        obtain ⟨m, hm, rfl, HO, HW⟩ := hrel
        by_cases hlt : m < 48
        · obtain ⟨W, hW⟩ : ∃ W, W = Sha.growF Sha.next m (Sha.firstsF (fun i => Sha.word b (4 * i)) 16) := ⟨_, rfl⟩
          have hWl : W.length = 16 + m := by rw [hW, Sha.growF_len, Sha.firstsF_len]
          have HWb : Hid (∀ i, W.getD i 0 < 4294967296) := fun i => by
            by_cases hj : i < W.length
            · exact (by rw [hW]; exact grow_lt next_lt m _ (firsts_lt (fun _ => word_lt HBB.out _) 16) : ∀ x ∈ W, x < 4294967296) _ (by simp [List.getD, List.getElem?_eq_getElem hj])
            · simp [List.getD, List.getElem?_eq_none (Nat.le_of_not_lt hj)]
          have HWN : Hid (Sha.growF Sha.next (m + 1) (Sha.firstsF (fun i => Sha.word b (4 * i)) 16) = W ++ [Sha.next W]) := by show _ = _; rw [Sha.growF_last, ← hW]
          rw [← hW] at HO
          clear hW
          obtain ⟨g, cp, rfl, HQ⟩ := HO.out.has.at (by omega)
          obtain ⟨t, ht⟩ : ∃ t, t = 16 + m := ⟨_, rfl⟩
          rw [hWl, ← ht] at HO HQ
          rw [hWl, ← ht]
          obtain ⟨a15, h15⟩ : ∃ x, x = W.getD (t - 15) 0 := ⟨_, rfl⟩
          obtain ⟨a2, h2⟩ : ∃ x, x = W.getD (t - 2) 0 := ⟨_, rfl⟩
          obtain ⟨a16, h16⟩ : ∃ x, x = W.getD (t - 16) 0 := ⟨_, rfl⟩
          obtain ⟨a7, h7⟩ : ∃ x, x = W.getD (t - 7) 0 := ⟨_, rfl⟩
          have b15 : a15 < 4294967296 := by rw [h15]; exact HWb.out _
          have b2 : a2 < 4294967296 := by rw [h2]; exact HWb.out _
          have b16 : a16 < 4294967296 := by rw [h16]; exact HWb.out _
          have b7 : a7 < 4294967296 := by rw [h7]; exact HWb.out _
          obtain ⟨r1, r2, r3, r4, R1, R2, R3, R4, l1, l2, l3, l4⟩ : ∃ r1 r2 r3 r4 : Nat, Hid (r1 = Sha.rot a15 7) ∧ Hid (r2 = Sha.rot a15 18) ∧ Hid (r3 = Sha.rot a2 17) ∧ Hid (r4 = Sha.rot a2 19) ∧ r1 < 4294967296 ∧ r2 < 4294967296 ∧ r3 < 4294967296 ∧ r4 < 4294967296 := ⟨_, _, _, _, rfl, rfl, rfl, rfl, rot_lt b15, rot_lt b15, rot_lt b2, rot_lt b2⟩
          obtain ⟨s0, s1, S0, S1, e0, e1, z0, z1⟩ : ∃ s0 s1 : Nat, Hid (s0 = r1 ^^^ r2 ^^^ a15 / 8) ∧ Hid (s1 = r3 ^^^ r4 ^^^ a2 / 1024) ∧ bits .xor .u64 (bits .xor .u64 (r1 : Int) (r2 : Int)) ((a15 : Int) / 8) = (s0 : Int) ∧ bits .xor .u64 (bits .xor .u64 (r3 : Int) (r4 : Int)) ((a2 : Int) / 1024) = (s1 : Int) ∧ s0 < 4294967296 ∧ s1 < 4294967296 := by
            have q1 := Nat.xor_lt_two_pow (n := 32) l1 l2
            have q2 := Nat.xor_lt_two_pow (n := 32) l3 l4
            refine ⟨_, _, rfl, rfl, ?_, ?_, Nat.xor_lt_two_pow (n := 32) q1 (by omega), Nat.xor_lt_two_pow (n := 32) q2 (by omega)⟩
            · rw [u64_xor_nat _ _ (by omega) (by omega), show (a15 : Int) / 8 = ((a15 / 8 : Nat) : Int) by omega, u64_xor_nat _ _ (by omega) (by omega)]
            · rw [u64_xor_nat _ _ (by omega) (by omega), show (a2 : Int) / 1024 = ((a2 / 1024 : Nat) : Int) by omega, u64_xor_nat _ _ (by omega) (by omega)]
          obtain ⟨y, hy, HY⟩ : ∃ y : Nat, ((a16 : Int) + s0 + a7 + s1) % 4294967296 = (y : Int) ∧ Hid (y = Sha.next W) := by
            refine ⟨Sha.next W, ?_, rfl⟩
            unfold Sha.next
            rw [hWl, ← ht, ← h15, ← h2, ← h16, ← h7, ← R1.out, ← R2.out, ← R3.out, ← R4.out, ← S0.out, ← S1.out]
            omega
          have q15 : wr.cell? ⟨g, t - 15, none⟩ = some (.int .u64 (a15 : Int)) := by rw [HQ.out _ (by omega), ← h15]; rfl
          have q2 : wr.cell? ⟨g, t - 2, none⟩ = some (.int .u64 (a2 : Int)) := by rw [HQ.out _ (by omega), ← h2]; rfl
          have HQ16 : Hid (wr.cell? ⟨g, t - 16, none⟩ = some (.int .u64 (a16 : Int))) := by show _ = _; rw [HQ.out _ (by omega), ← h16]; rfl
          have HQ7 : Hid (wr.cell? ⟨g, t - 7, none⟩ = some (.int .u64 (a7 : Int))) := by show _ = _; rw [HQ.out _ (by omega), ← h7]; rfl
          have HWL : Hid (W.length = t ∧ t = 16 + m) := ⟨by omega, ht⟩
          have htI : (t : Int) < 64 := by omega
          have ht16 : 16 ≤ t := by omega
          have T1 : Hid (∀ wz x n, x < 4294967296 → 0 < n → n < 32 → Calls Tryd.prog 65 #[.int .u64 ((x : Nat) : Int), .int .u64 ((n : Nat) : Int)] wz fun e w' => e = .returned (.int .u64 ((Sha.rot x n : Nat) : Int)) ∧ wz = w') := fun wz x n h1 h2 h3 => turn_any x n wz h1 h2 h3
          have C7 : Hid (∀ wz, Calls Tryd.prog 65 #[.int .u64 (a15 : Int), .int .u64 7] wz fun e w' => e = .returned (.int .u64 (r1 : Int)) ∧ wz = w') := fun wz => by rw [R1.out]; exact turn_any a15 7 wz b15 (by omega) (by omega)
          have C18 : Hid (∀ wz, Calls Tryd.prog 65 #[.int .u64 (a15 : Int), .int .u64 18] wz fun e w' => e = .returned (.int .u64 (r2 : Int)) ∧ wz = w') := fun wz => by rw [R2.out]; exact turn_any a15 18 wz b15 (by omega) (by omega)
          have C17 : Hid (∀ wz, Calls Tryd.prog 65 #[.int .u64 (a2 : Int), .int .u64 17] wz fun e w' => e = .returned (.int .u64 (r3 : Int)) ∧ wz = w') := fun wz => by rw [R3.out]; exact turn_any a2 17 wz b2 (by omega) (by omega)
          have C19 : Hid (∀ wz, Calls Tryd.prog 65 #[.int .u64 (a2 : Int), .int .u64 19] wz fun e w' => e = .returned (.int .u64 (r4 : Int)) ∧ wz = w') := fun wz => by rw [R4.out]; exact turn_any a2 19 wz b2 (by omega) (by omega)
          have hlt64 : t < 64 := by omega
          have i15 : IntKind.i64.wrap ((t : Int) - 15) = ((t - 15 : Nat) : Int) := by rw [IntKind.wrap_i64]; omega
          have i2 : IntKind.i64.wrap ((t : Int) - 2) = ((t - 2 : Nat) : Int) := by rw [IntKind.wrap_i64]; omega
          have i16 : IntKind.i64.wrap ((t : Int) - 16) = ((t - 16 : Nat) : Int) := by rw [IntKind.wrap_i64]; omega
          have i7 : IntKind.i64.wrap ((t : Int) - 7) = ((t - 7 : Nat) : Int) := by rw [IntKind.wrap_i64]; omega
          clear h15 h2 h16 h7 R1 R2 R3 R4 S0 S1 hWl ht T1 HQ hlt hm
          go_wp2_with fail
          go_quiet (fail)
          go_upto_region 17 with (first
            | (go_at_call_of 65 (Value.int IntKind.u64 7); refine (C7.out _).mono ?_; rintro e w' ⟨rfl, rfl⟩)
            | (go_at_call_of 65 (Value.int IntKind.u64 18); refine (C18.out _).mono ?_; rintro e w' ⟨rfl, rfl⟩)
            | (go_at_call_of 65 (Value.int IntKind.u64 17); refine (C17.out _).mono ?_; rintro e w' ⟨rfl, rfl⟩)
            | (go_at_call_of 65 (Value.int IntKind.u64 19); refine (C19.out _).mono ?_; rintro e w' ⟨rfl, rfl⟩))
          refine step_world (fun wq => OwnsQ wq w.heap.size (.slice (some ⟨g, 0, none⟩) t cp) W ∧ Below w.heap.size w wq ∧ wq.cell? ⟨g, t - 16, none⟩ = some (.int .u64 (a16 : Int)) ∧ wq.cell? ⟨g, t - 7, none⟩ = some (.int .u64 (a7 : Int))) ⟨HO.out.block fun _ _ => rfl, HW.out.trans ⟨rfl, rfl, rfl, Nat.le_refl _, fun _ _ => rfl⟩, HQ16.out, HQ7.out⟩ fun wq HHq => ?_
          clear q15 q2
          have n16 : ¬ (t ≤ t - 16) := by omega
          have n7 : ¬ (t ≤ t - 7) := by omega
          have u1 : IntKind.u64.wrap ((a16 : Int) + s0) = (a16 : Int) + s0 := by rw [IntKind.wrap_u64]; omega
          have u2 : IntKind.u64.wrap ((a16 : Int) + s0 + a7) = (a16 : Int) + s0 + a7 := by rw [IntKind.wrap_u64]; omega
          have u3' : IntKind.u64.wrap ((a16 : Int) + s0 + a7 + s1) = (a16 : Int) + s0 + a7 + s1 := by rw [IntKind.wrap_u64]; omega
          have u4 : Int.tmod ((a16 : Int) + s0 + a7 + s1) 4294967296 = (y : Int) := by rw [Int.tmod_eq_emod_of_nonneg (by omega)]; exact hy
          refine wp_region_any (by kernel_rfl) ?_
          change wpAny _ _ _ _ _ _ _ (World.drew _)
          generalize hw4 : World.drew wq = wq
          rename_i wq0
          have HBW : Hid (Below w.heap.size w wq) := by rw [← hw4]; exact HHq.2.1.trans ⟨rfl, rfl, rfl, Nat.le_refl _, fun _ _ => rfl⟩
          have HOW : Hid (∀ c : Obj, OwnsQ (wq.alloc c) w.heap.size (.slice (some ⟨g, 0, none⟩) t cp) W) := by rw [← hw4]; exact fun c => (HHq.1.block (w' := wq0.drew) fun _ _ => rfl).block fun q hq => heap_alloc_old _ _ hq
          have HCa : Hid (wq.cell? ⟨g, t - 16, none⟩ = some (.int .u64 (a16 : Int))) := by rw [← hw4]; exact HHq.2.2.1
          have HCb : Hid (wq.cell? ⟨g, t - 7, none⟩ = some (.int .u64 (a7 : Int))) := by rw [← hw4]; exact HHq.2.2.2
          clear hw4 HHq
          refine wpAny_take (i := 0) (v := .slice (some ⟨g, 0, none⟩) t cp) rfl (by kernel_rfl) (by kernel_rfl) (by kernel_rfl) (fun _ _ _ h => h) (Or.inl ⟨by kernel_rfl, ?_⟩) ?_
          · intro wz; go_simp
          refine wpAny_take (i := 1) (v := .slice (some ⟨g, 0, none⟩) t cp) rfl (by kernel_rfl) (by kernel_rfl) (by kernel_rfl) (fun _ _ _ h => h) (Or.inl ⟨by kernel_rfl, ?_⟩) ?_
          · intro wz; go_simp
          refine wpAny_take (i := 2) (v := .int .i64 (t : Int)) rfl (by kernel_rfl) (by kernel_rfl) (by kernel_rfl) (fun _ _ _ h => h) (Or.inl ⟨by kernel_rfl, ?_⟩) ?_
          · intro wz; go_simp
          refine wpAny_take (i := 3) (v := .int .i64 ((t - 16 : Nat) : Int)) rfl (by kernel_rfl) (by kernel_rfl) (by kernel_rfl) (fun _ _ _ h => h) (Or.inl ⟨by kernel_rfl, ?_⟩) ?_
          · intro wz; go_simp
          refine wpAny_take (i := 4) (v := .pointer (some ⟨g, t - 16, none⟩)) rfl (by kernel_rfl) (by kernel_rfl) (by kernel_rfl) (fun _ _ _ h => h) (Or.inl ⟨by kernel_rfl, ?_⟩) ?_
          · intro wz; go_simp
          refine wpAny_take (i := 6) (v := .int .u64 (s0 : Int)) rfl (by kernel_rfl) (by kernel_rfl) (by kernel_rfl) (fun _ _ _ h => h) (Or.inl ⟨by kernel_rfl, ?_⟩) ?_
          · intro wz; go_simp
          refine wpAny_take (i := 8) (v := .slice (some ⟨g, 0, none⟩) t cp) rfl (by kernel_rfl) (by kernel_rfl) (by kernel_rfl) (fun _ _ _ h => h) (Or.inl ⟨by kernel_rfl, ?_⟩) ?_
          · intro wz; go_simp
          refine wpAny_take (i := 9) (v := .int .i64 (t : Int)) rfl (by kernel_rfl) (by kernel_rfl) (by kernel_rfl) (fun _ _ _ h => h) (Or.inl ⟨by kernel_rfl, ?_⟩) ?_
          · intro wz; go_simp
          refine wpAny_take (i := 10) (v := .int .i64 ((t - 7 : Nat) : Int)) rfl (by kernel_rfl) (by kernel_rfl) (by kernel_rfl) (fun _ _ _ h => h) (Or.inl ⟨by kernel_rfl, ?_⟩) ?_
          · intro wz; go_simp
          refine wpAny_take (i := 11) (v := .pointer (some ⟨g, t - 7, none⟩)) rfl (by kernel_rfl) (by kernel_rfl) (by kernel_rfl) (fun _ _ _ h => h) (Or.inl ⟨by kernel_rfl, ?_⟩) ?_
          · intro wz; go_simp
          refine wpAny_take (i := 14) (v := .int .u64 (s1 : Int)) rfl (by kernel_rfl) (by kernel_rfl) (by kernel_rfl) (fun _ _ _ h => h) (Or.inl ⟨by kernel_rfl, ?_⟩) ?_
          · intro wz; go_simp
          simp only [Act.put, List.getElem_toArray, List.getElem_cons_zero, List.getElem_cons_succ, List.setIfInBounds_toArray, List.set_cons_zero, List.set_cons_succ]
          refine wpAny_ready (rs := [5, 12]) (by kernel_rfl) (by simp) ?_
          refine ar_load84 rfl rfl (.tmp 69) rfl ⟨g, t - 16, none⟩ rfl (.int .u64 (a16 : Int)) HCa.out ?_ (ar_load84 rfl rfl (.tmp 76) rfl ⟨g, t - 7, none⟩ rfl (.int .u64 (a7 : Int)) HCb.out ?_ AllReady.nil)
          · simp only [Act.put, List.getElem_toArray, List.getElem_cons_zero, List.getElem_cons_succ, List.setIfInBounds_toArray, List.set_cons_zero, List.set_cons_succ]
            refine wpAny_take (i := 7) (v := .int .u64 ((a16 : Int) + s0)) rfl (by kernel_rfl) (by kernel_rfl) (by kernel_rfl) (fun _ _ _ h => h) (Or.inl ⟨by kernel_rfl, ?_⟩) ?_
            · intro wz; go_simp
            simp only [Act.put, List.getElem_toArray, List.getElem_cons_zero, List.getElem_cons_succ, List.setIfInBounds_toArray, List.set_cons_zero, List.set_cons_succ]
            refine wpAny_ready (rs := [12]) (by kernel_rfl) (by simp) ?_
            refine ar_load84 rfl rfl (.tmp 76) rfl ⟨g, t - 7, none⟩ rfl (.int .u64 (a7 : Int)) HCb.out ?_ AllReady.nil
            simp only [Act.put, List.getElem_toArray, List.getElem_cons_zero, List.getElem_cons_succ, List.setIfInBounds_toArray, List.set_cons_zero, List.set_cons_succ]
            refine wpAny_take (i := 13) (v := .int .u64 ((a16 : Int) + s0 + a7)) rfl (by kernel_rfl) (by kernel_rfl) (by kernel_rfl) (fun _ _ _ h => h) (Or.inl ⟨by kernel_rfl, ?_⟩) ?_
            · intro wz; go_simp
            refine wpAny_take (i := 15) (v := .int .u64 ((a16 : Int) + s0 + a7 + s1)) rfl (by kernel_rfl) (by kernel_rfl) (by kernel_rfl) (fun _ _ _ h => h) (Or.inl ⟨by kernel_rfl, ?_⟩) ?_
            · intro wz; go_simp
            refine wpAny_take (i := 16) (v := .int .u64 (y : Int)) rfl (by kernel_rfl) (by kernel_rfl) (by kernel_rfl) (fun _ _ _ h => h) (Or.inl ⟨by kernel_rfl, ?_⟩) ?_
            · intro wz; go_simp
            simp only [Act.put, List.getElem_toArray, List.getElem_cons_zero, List.getElem_cons_succ, List.setIfInBounds_toArray, List.set_cons_zero, List.set_cons_succ]
            refine wpAny_ready (rs := [17]) (by kernel_rfl) (by simp) ?_
            refine AllReady.cons rfl (fun K' hK' => ?_) AllReady.nil
            go_simp
            refine hK' _ _ ?_
            clear hK' K'
            refine wpAny_ready (rs := [18]) (by kernel_rfl) (by simp) ?_
            refine ar_append_q rfl rfl (.tmp 65) (.tmp 82) rfl w.heap.size (.slice (some ⟨g, 0, none⟩) t cp) wq.heap.size y W rfl rfl (HOW.out _) (by rw [cell_of_row _ _ 0 _ _ _ (heap_alloc_new _ _)]; rfl) (by have := HWL.out; omega) (by have := HBW.out.size; simp; omega) (fun v' w' ho' hb' => ?_) AllReady.nil
            have R : Hid (OwnsQ w' w.heap.size v' (W ++ [y]) ∧ Below w.heap.size w w') := ⟨ho', HBW.out.trans (((Below.refl w.heap.size wq).alloc HBW.out.size _).trans hb')⟩
            clear ho' hb'
            obtain ⟨vo', vc', hv'⟩ := R.out.1.has.form
            subst hv'
            refine wpAny_take (i := 19) (v := .slice vo' (W ++ [y]).length vc') rfl (by kernel_rfl) (by kernel_rfl) (by kernel_rfl) (fun _ _ _ h => h) (Or.inl ⟨by kernel_rfl, ?_⟩) ?_
            · intro wz; go_simp
            refine wpAny_done (by kernel_rfl) ?_ _
            go_simp
            go_wp2_with fail
            go_roundw
            case rel => exact ⟨m + 1, by have := HWL.out; omega, by have := HWL.out.2; go_num, by rw [HWN.out, ← HY.out]; have := R.out.1; rw [List.length_append] at this; exact this, R.out.2⟩
            case measure => simp [intOf]; omega
          · simp only [Act.put, List.getElem_toArray, List.getElem_cons_zero, List.getElem_cons_succ, List.setIfInBounds_toArray, List.set_cons_zero, List.set_cons_succ]
            refine wpAny_ready (rs := [5]) (by kernel_rfl) (by simp) ?_
            refine ar_load84 rfl rfl (.tmp 69) rfl ⟨g, t - 16, none⟩ rfl (.int .u64 (a16 : Int)) HCa.out ?_ AllReady.nil
            simp only [Act.put, List.getElem_toArray, List.getElem_cons_zero, List.getElem_cons_succ, List.setIfInBounds_toArray, List.set_cons_zero, List.set_cons_succ]
            refine wpAny_take (i := 7) (v := .int .u64 ((a16 : Int) + s0)) rfl (by kernel_rfl) (by kernel_rfl) (by kernel_rfl) (fun _ _ _ h => h) (Or.inl ⟨by kernel_rfl, ?_⟩) ?_
            · intro wz; go_simp
            refine wpAny_take (i := 13) (v := .int .u64 ((a16 : Int) + s0 + a7)) rfl (by kernel_rfl) (by kernel_rfl) (by kernel_rfl) (fun _ _ _ h => h) (Or.inl ⟨by kernel_rfl, ?_⟩) ?_
            · intro wz; go_simp
            refine wpAny_take (i := 15) (v := .int .u64 ((a16 : Int) + s0 + a7 + s1)) rfl (by kernel_rfl) (by kernel_rfl) (by kernel_rfl) (fun _ _ _ h => h) (Or.inl ⟨by kernel_rfl, ?_⟩) ?_
            · intro wz; go_simp
            refine wpAny_take (i := 16) (v := .int .u64 (y : Int)) rfl (by kernel_rfl) (by kernel_rfl) (by kernel_rfl) (fun _ _ _ h => h) (Or.inl ⟨by kernel_rfl, ?_⟩) ?_
            · intro wz; go_simp
            simp only [Act.put, List.getElem_toArray, List.getElem_cons_zero, List.getElem_cons_succ, List.setIfInBounds_toArray, List.set_cons_zero, List.set_cons_succ]
            refine wpAny_ready (rs := [17]) (by kernel_rfl) (by simp) ?_
            refine AllReady.cons rfl (fun K' hK' => ?_) AllReady.nil
            go_simp
            refine hK' _ _ ?_
            clear hK' K'
            refine wpAny_ready (rs := [18]) (by kernel_rfl) (by simp) ?_
            refine ar_append_q rfl rfl (.tmp 65) (.tmp 82) rfl w.heap.size (.slice (some ⟨g, 0, none⟩) t cp) wq.heap.size y W rfl rfl (HOW.out _) (by rw [cell_of_row _ _ 0 _ _ _ (heap_alloc_new _ _)]; rfl) (by have := HWL.out; omega) (by have := HBW.out.size; simp; omega) (fun v' w' ho' hb' => ?_) AllReady.nil
            have R : Hid (OwnsQ w' w.heap.size v' (W ++ [y]) ∧ Below w.heap.size w w') := ⟨ho', HBW.out.trans (((Below.refl w.heap.size wq).alloc HBW.out.size _).trans hb')⟩
            clear ho' hb'
            obtain ⟨vo', vc', hv'⟩ := R.out.1.has.form
            subst hv'
            refine wpAny_take (i := 19) (v := .slice vo' (W ++ [y]).length vc') rfl (by kernel_rfl) (by kernel_rfl) (by kernel_rfl) (fun _ _ _ h => h) (Or.inl ⟨by kernel_rfl, ?_⟩) ?_
            · intro wz; go_simp
            refine wpAny_done (by kernel_rfl) ?_ _
            go_simp
            go_wp2_with fail
            go_roundw
            case rel => exact ⟨m + 1, by have := HWL.out; omega, by have := HWL.out.2; go_num, by rw [HWN.out, ← HY.out]; have := R.out.1; rw [List.length_append] at this; exact this, R.out.2⟩
            case measure => simp [intOf]; omega
        · have hmI : ¬ (((16 + m : Nat) : Int) < 64) := by omega
          obtain rfl : m = 48 := by omega
          obtain ⟨vo, vc, rfl⟩ := HO.out.has.form
          have R : Hid (OwnsQ wr w.heap.size _ (Sha.sched b) ∧ Below w.heap.size w wr) := ⟨HO.out, HW.out⟩
          have hl64 : (Sha.growF Sha.next 48 (Sha.firstsF (fun i => Sha.word b (4 * i)) 16)).length = 64 := by rw [Sha.growF_len, Sha.firstsF_len]
          rw [hl64] at R ⊢
          clear HO HW
          go_wp2
          go_ret
          exact ⟨_, rfl, R.out⟩
end Go.Proofs.YtmglopfjjbnfiaaDoor
