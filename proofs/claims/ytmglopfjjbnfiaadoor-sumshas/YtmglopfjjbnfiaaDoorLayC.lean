/-
  THE ROOM'S layChunks by contract.
-/
import Derived.Test.YtmglopfjjbnfiaaDoorChunksM
namespace Go.Proofs.YtmglopfjjbnfiaaDoor
open Go.RowKit

theorem Tryd.infoR22 : (Tryd.prog.info? 22).map (fun i => (i.zero, i.size, i.bytes)) = some (some (.slice none 0 0), 1, 24) := by kernel_rfl

theorem FullM.stow {wr w5 : World} {lo R : Nat} {z z' : Nat → Value} {ls : List Rl} {hB hA v : Value} {ps : List (List Nat)} {ms : List Nat} (h : FullM wr lo R z ls hB hA v ps ms) (hs : wr.heap.size ≤ w5.heap.size)
    (hk : ∀ b, b < wr.heap.size → b ≠ R → w5.heap[b]? = wr.heap[b]?) (hf : ∀ o, w5.frozen? ⟨R, o, none⟩ = false) (hc0 : w5.cell? ⟨R, 0, none⟩ = some hB) (hc1 : w5.cell? ⟨R, 1, none⟩ = some hA)
    (hi : ∀ i, 2 ≤ i → i < 26 → w5.cell? ⟨R, i, none⟩ = some (z' i)) : FullM w5 lo R z' ls hB hA v ps ms := by
  have r := h.room
  have hvk : ∀ k, v.ownBlock = some k → w5.heap[k]? = wr.heap[k]? := fun k hk' => hk k (World.ownsRow.lt h.row k hk').2 (fun e => h.nR (by rw [hk', e]))
  refine ⟨⟨r.loR, Nat.lt_of_lt_of_le r.lt hs, hf, hi, hc0, hc1, row_block r.rows fun k e => hk k (r.rows.lt k e).2 (fun q => r.nB (by rw [e, q])), row_block r.ats fun k e => hk k (r.ats.lt k e).2 (fun q => r.nA (by rw [e, q])), r.nB, r.nA, r.nAB, fun x hx => ?_⟩, row_block h.row hvk, h.len, h.nR, h.nBA, h.nv, fun i hi => ?_, h.inj, fun i hi => ?_⟩
  · obtain ⟨e1, e2, e3, e4, e5, e6, e7, e8⟩ := r.each x hx
    exact ⟨e1, Nat.lt_of_lt_of_le e2 hs, e3, e4, e5, e6, e7, fun i hi => cell_block (hk x.g e2 e3) (e8 i hi)⟩
  · obtain ⟨q1, q2⟩ := h.part i hi
    refine ⟨q1, q2.block fun k hk' => ?_⟩
    have hkg : k = ls[i].g := by simp only [Rl.row, Value.ownBlock] at hk'; simpa using hk'.symm
    subst hkg
    have q3 := r.each _ (List.getElem_mem hi)
    exact hk _ q3.2.1 q3.2.2.1
  · obtain ⟨q1, q2, q3, q4, q5, q6, q7⟩ := h.marks i hi
    exact ⟨by omega, q2, q3, q4, q5, q6, cell_block (hk _ q1 q2) q7⟩

def z0 : Nat → Value := fun _ => .slice none 0 0
def zC (a b : Value) : Nat → Value := fun i => if i = 16 then a else if i = 17 then b else .slice none 0 0

set_option maxHeartbeats 4000000 in
set_option maxRecDepth 100000 in
theorem layC_any (lo R : Nat) (vl : Value) (ps : List (List Nat)) (w0 w : World) (hlo0 : w0.heap.size = lo) (hb0 : Below lo w0 w) (hr : RoomM w lo R z0 [] (.slice none 0 0) (.slice none 0 0)) (hv : HasL w0 vl ps) (hn : ps.length ≤ 32768) (hp : ∀ p ∈ ps, p.length ≤ 32768) :
    Calls Tryd.prog 39 #[.pointer (some ⟨R, 0, none⟩), vl, .int .i64 40] w fun e w' => ∃ ls hB hA v gv capv ms bc cc ba ca, e = .returned (.slice (some ⟨gv, 0, none⟩) ps.length (ps.length + 40)) ∧ v = .slice (some ⟨gv, 0, none⟩) (ps.length + 40) capv ∧ ms.length = 40 ∧
      FullM w' lo R (zC (.slice (some ⟨bc, 0, none⟩) 1 cc) (.slice (some ⟨ba, 0, none⟩) 1 ca)) ls hB hA v ps ms ∧ w'.cell? ⟨bc, 0, none⟩ = some v ∧ w'.cell? ⟨ba, 0, none⟩ = some (.int .i64 ps.length) ∧
      (∀ x ∈ ls, x.g ≠ bc ∧ x.g ≠ ba) ∧ Below lo w w' := by
  obtain ⟨ao, cap, rfl⟩ := hv.form
  have HV : Hid (HasL w0 (.slice ao ps.length cap) ps ∧ ∀ p ∈ ps, p.length ≤ 32768) := ⟨hv, hp⟩
  obtain ⟨n, hnn⟩ : ∃ n, n = ps.length := ⟨_, rfl⟩
  have HN : Hid (n = ps.length) := hnn
  have HR : Hid (RoomM w lo R z0 [] (.slice none 0 0) (.slice none 0 0)) := hr
  have HB0 : Hid (w0.heap.size = lo ∧ Below lo w0 w) := ⟨hlo0, hb0⟩
  rw [← hnn] at hn ⊢
  clear hv hp hnn hr hlo0 hb0
  obtain ⟨i2, hi2, hy0, hy1, hy2⟩ := info_parts Tryd.infoR43
  go_enter Tryd.func39, Tryd.ntmps39
  go_wp2_with fail
  go_loopw [7, 8] (fun v i wr => ∃ (k : Nat) (ls : List Rl) (hB hA : Value), k ≤ n ∧ i = .int .i64 k ∧ Hid (FullM wr lo R z0 ls hB hA v (ps.take k) []) ∧ Hid (Below lo w wr)) (fun _ i _ => n - (intOf i).toNat)
  case atStart =>
    have r := HR.out
    have hlo := r.loR
    have hlt := r.lt
    refine ⟨0, [], .slice none 0 0, .slice none 0 0, by omega, rfl, ⟨r.keep (fun _ => True) (by simp) (fun b hb _ => heap_alloc_old _ _ hb) trivial (fun _ _ => trivial) (fun _ _ => trivial) (fun _ _ => trivial), ?_, rfl, ?_, ?_, fun x hx => by simp at hx, fun i hi => by simp at hi, by simp, fun i hi => by simp at hi⟩, (Below.refl lo w).alloc (by omega) _⟩
    · exact ⟨by simp, .inr ⟨_, 0, #[], rfl, by omega, World.alloc_heap_new w _, Nat.le_refl _, Nat.zero_le _, by simp, by simp⟩⟩
    · intro e; simp [Value.ownBlock] at e; omega
    · intro b _; simp [Value.ownBlock]
  case round =>
    obtain ⟨k, ls, hB, hA, hk, rfl, HF, HW⟩ := hrel
    by_cases hlt : k < n
    · have hkI : (k : Int) < (n : Int) := by omega
      have hkp : k < ps.length := by have := HN.out; omega
      obtain ⟨a, uo, uc, rfl, hcu, HU⟩ := HV.out.1.at (by rw [HB0.out.1]; exact HB0.out.2.trans HW.out) hkp
      obtain ⟨m, hm⟩ : ∃ m, m = (ps.getD k []).length := ⟨_, rfl⟩
      rw [← hm] at hcu HU
      have HM : Hid (m = (ps.getD k []).length ∧ m ≤ 32768 ∧ ps.take k ++ [ps.getD k []] = ps.take (k + 1) ∧ ls.length = k) := ⟨hm, by rw [hm]; exact HV.out.2 _ (by simp [List.getD, List.getElem?_eq_getElem hkp]), by rw [List.take_succ_eq_append_getElem hkp]; simp [List.getD, List.getElem?_eq_getElem hkp], by rw [HF.out.len]; simp; omega⟩
      have K : Hid (Calls Tryd.prog 57 #[.pointer (some ⟨R, 0, none⟩), .slice uo m uc, .int .i64 4] wr fun e w' => ∃ x : Rl, e = .returned (.slice (some ⟨x.g, 0, none⟩) m (m + 4)) ∧ ∃ hB' hA', x.n = (ps.getD k []).length ∧ wr.heap.size ≤ x.g ∧ RoomM w' lo R z0 (ls ++ [x]) hB' hA' ∧
          Owns w' wr.heap.size x.row (ps.getD k [] ++ lotsL 4) ∧ (∀ b, b < wr.heap.size → b ≠ R → hB.ownBlock ≠ some b → hA.ownBlock ≠ some b → w'.heap[b]? = wr.heap[b]?) ∧
          (∀ b, hB'.ownBlock = some b → hB.ownBlock = some b ∨ wr.heap.size ≤ b) ∧ (∀ b, hA'.ownBlock = some b → hA.ownBlock = some b ∨ wr.heap.size ≤ b) ∧ Below lo wr w') := by
        refine (layM_any lo R z0 ls hB hA (.slice uo m uc) (ps.getD k []) wr HF.out.room (by have := HM.out.2.2.2; omega) HU.out (by have := HM.out; omega)).mono ?_
        rintro e w' ⟨x, hB', hA', he, h⟩
        exact ⟨x, by rw [he, ← hm], hB', hA', h⟩
      clear hm hkp
      go_wp2_with (first
        | (go_at_call 57; refine K.out.mono ?_; rintro e w2 ⟨x, rfl, hB', hA', h2⟩; have H2 : Hid _ := h2; clear h2)
        | (at_builtin; refine wpList_append_own_at _ rfl (.tmp 17) (.tmp 24) 22 rfl lo 43 i2 (.slice none 0 0) 1 24 Tryd.underlying22 hi2 hy0 hy1 hy2 rfl (by decide) _ ls.length (ls.map Rl.ans) rfl ?c0 ⟨w2.heap.size, 0, none⟩ 1 1 [.slice (some ⟨x.g, 0, none⟩) m (m + 4)] rfl (by simp) ?c1 ?c2 ?c3 ?c4 ?c5 ?_))
      case c0 =>
        have r := HF.out.row
        simp only [List.length_nil, Nat.add_zero, List.map_nil, List.append_nil] at r
        exact World.ownsRow.alloc (row_block r fun b hb => H2.out.2.2.2.2.1 b (World.ownsRow.lt r b hb).2 (fun e => HF.out.nR (by rw [hb, e])) (HF.out.nBA b hb).1 (HF.out.nBA b hb).2) _
      case c1 => exact one_new
      case c2 => intro u hu; simp at hu; subst hu; rfl
      case c3 => unfold maxLen; have := HM.out.2.2.2; omega
      case c4 => have := HM.out.2.2.2; omega
      case c5 => have := H2.out.2.2.2.2.2.2.2.size; have := HF.out.room.loR; have := HF.out.room.lt; simp; omega
      intro v4 w4 h4 h5 _ h6
      have H4 : Hid (FullM w4 lo R z0 (ls ++ [x]) hB' hA' v4 (ps.take (k + 1)) [] ∧ Below lo w w4) := by
        obtain ⟨hx, hg, hr, ho, hf, hBB, hAA, hbel⟩ := H2.out
        have hlw : lo ≤ wr.heap.size := by have := HF.out.room.loR; have := HF.out.room.lt; omega
        have hxa : Value.slice (some ⟨x.g, 0, none⟩) m (m + 4) = x.ans := by rw [HM.out.1, ← hx]; rfl
        rw [hxa] at h4
        refine ⟨by rw [← HM.out.2.2.1]; exact HF.out.put hx hg hr ho hf hBB hAA hlw hbel.size (fun b hb => heap_alloc_old _ _ hb) (by simp) h4 h5 (by simpa using h6), HW.out.trans (hbel.trans ?_)⟩
        exact (((Below.refl lo w2).alloc (by have := hbel.size; omega) _).trans ((Below.refl lo _).grown h5 (by have := hbel.size; simp; omega) fun b hb => (World.ownsRow.lt HF.out.row b hb).1))
      clear h4 h5 h6
      obtain ⟨o4, c4, e4⟩ := row_form H4.out.1.row
      subst e4
      go_wp2_with fail
      go_roundw
      case rel => exact ⟨k + 1, ls ++ [x], hB', hA', by omega, by go_num, H4.out.1, H4.out.2⟩
      case measure => simp [intOf]; omega
    · have hkI : ¬ (k : Int) < (n : Int) := by omega
      obtain rfl : k = n := by omega
      have HF2 : Hid (FullM wr lo R z0 ls hB hA u7 ps [] ∧ Below lo w wr) := ⟨by have h := HF.out; rw [HN.out, List.take_length] at h; exact h, HW.out⟩
      have hls : ls.length = k := by rw [HF2.out.1.len, HN.out]
      clear HF HW HR
      obtain ⟨o7, c7, e7⟩ := row_form HF2.out.1.row
      rw [List.length_nil, Nat.add_zero, hls] at e7
      subst e7
      go_wp2_with fail
      go_loopw [7, 9] (fun v i ws => ∃ (j : Nat) (ms : List Nat), j ≤ 40 ∧ i = .int .i64 j ∧ ms.length = j ∧ Hid (FullM ws lo R z0 ls hB hA v ps ms ∧ Below lo w ws)) (fun _ i _ => 40 - (intOf i).toNat)
      case atStart => exact ⟨0, [], by omega, rfl, rfl, HF2.out⟩
      case round =>
        obtain ⟨j, ms, hj, rfl, hms, HG⟩ := hrel
        clear HF2
        by_cases hj4 : j < 40
        · have hjI : (j : Int) < 40 := by omega
          have C := lot_any j wr (by omega)
          have hlw : lo ≤ wr.heap.size := by have := HG.out.1.room.loR; have := HG.out.1.room.lt; omega
          obtain ⟨x, hx⟩ : ∃ x, lotB j = x := ⟨_, rfl⟩
          have hxb : x < 256 := by rw [← hx]; exact lotB_byte j
          have HX : Hid (x = lotB ms.length) := by rw [hms]; exact hx.symm
          rw [hx] at C
          clear hx
          go_wp2_with (first | (go_at_call 63; refine C.mono ?_; rintro e w2 ⟨z, rfl, e2, hz⟩; subst e2) | (at_builtin; refine wpList_append_own_at _ rfl (.tmp 31) (.tmp 36) 22 rfl lo 43 i2 (.slice none 0 0) 1 24 Tryd.underlying22 hi2 hy0 hy1 hy2 rfl (by decide) _ (ls.length + ms.length) (ls.map Rl.ans ++ ms.map markV) rfl ?c0 ⟨w2.heap.size + 1, 0, none⟩ 1 1 [.slice (some ⟨w2.heap.size, 0, none⟩) 1 1] rfl (by simp) ?c1 ?c2 ?c3 ?c4 ?c5 ?_))
          case c0 => exact World.ownsRow.alloc (World.ownsRow.alloc HG.out.1.row _) _
          case c1 =>
            have h := @one_new (w2.alloc (Obj.cells #[vb x] 5)) (.slice (some ⟨w2.heap.size, 0, none⟩) 1 1) 43
            rw [show (w2.alloc (Obj.cells #[vb x] 5)).heap.size = w2.heap.size + 1 by simp] at h
            exact h
          case c2 => intro u hu; simp at hu; subst hu; rfl
          case c3 => unfold maxLen; omega
          case c4 => omega
          case c5 => simp; omega
          intro v4 w4 h4 h5 _ h6
          have H4 : Hid (FullM w4 lo R z0 ls hB hA v4 ps (ms ++ [w2.heap.size]) ∧ Below lo w w4) := by
            have hcx : ((w2.alloc (Obj.cells #[vb x] 5)).alloc (Obj.cells #[.slice (some ⟨w2.heap.size, 0, none⟩) 1 1] 43)).cell? ⟨w2.heap.size, 0, none⟩ = some (vb (lotB ms.length)) := by
              rw [← HX.out]
              exact cell_block (heap_alloc_old _ _ (by simp)) (cell_of_row _ _ 0 _ _ _ (heap_alloc_new _ _))
            refine ⟨HG.out.1.mark (fun b hb => (heap_alloc_old _ _ (by simp; omega)).trans (heap_alloc_old _ _ hb)) (by simp; omega) hcx (by rw [hls, hms, List.append_assoc]; exact h4) h5 (by simpa using h6), HG.out.2.trans ?_⟩
            exact ((((Below.refl lo w2).alloc hlw _).alloc (by simp; omega) _).trans ((Below.refl lo _).grown h5 (by simp; omega) fun b hb => (World.ownsRow.lt HG.out.1.row b hb).1))
          clear h4 h5 h6
          obtain ⟨o4, c4, e4⟩ := row_form H4.out.1.row
          subst e4
          go_wp2_with fail
          go_roundw
          case rel => exact ⟨j + 1, ms ++ [w2.heap.size], by omega, by go_num, by simp [hms], H4.out⟩
          case measure => simp [intOf]; omega
        · have hjI : ¬ (j : Int) < 40 := by omega
          obtain rfl : j = 40 := by omega
          have hlor := HG.out.1.room.loR
          have hltr := HG.out.1.room.lt
          have k0 := HG.out.1.room.c0
          have k1 := HG.out.1.room.c1
          have k16 : wr.cell? ⟨R, 16, none⟩ = some (.slice none 0 0) := HG.out.1.room.idle 16 (by decide) (by decide)
          have k17 : wr.cell? ⟨R, 17, none⟩ = some (.slice none 0 0) := HG.out.1.room.idle 17 (by decide) (by decide)
          have kf := HG.out.1.room.fz
          obtain ⟨gv, capv, hgv, hcap⟩ : ∃ gv capv, u7 = .slice (some ⟨gv, 0, none⟩) (k + 40) capv ∧ k + 40 ≤ capv := by
            have h := HG.out.1.row
            rw [hls, hms] at h
            obtain ⟨_, q | ⟨g, cap', cur, hv', hg', hh', hn', hr'⟩⟩ := h
            · have := q.2; simp at this
            · exact ⟨g, cap', hv', hn'⟩
          subst hgv
          obtain ⟨i3, hi3, hx0, hx1, hx2⟩ := info_parts Tryd.infoR3
          obtain ⟨i4, hi4, hw0, hw1, hw2⟩ := info_parts Tryd.infoR22
          go_wp2_with (at_builtin; refine wpList_append_own_at _ rfl (.tmp 42) (.tmp 44) 33 rfl lo 22 i4 (.slice none 0 0) 1 24 Tryd.underlying33 hi4 hw0 hw1 hw2 rfl (by decide) _ 0 [] rfl (World.ownsRow_nil _ _ _ _) ⟨wr.heap.size, 0, none⟩ 1 1 [.slice (some ⟨gv, 0, none⟩) (k + 40) capv] rfl (by simp) ?c1 ?c2 ?c3 ?c4 ?c5 ?_)
          case c2 => first | (intro u hu; simp at hu; subst hu; rfl) | rfl
          case c3 => first | (unfold maxLen; omega) | omega
          case c5 => first | omega | (simp; omega)
          intro v2 w2 ho2 hg2 _ at2
          obtain ⟨bc, cc, e2, _, hbc, hcc⟩ := row_one ho2
          subst e2
          have b2 : ∀ b, b < wr.heap.size → w2.heap[b]? = wr.heap[b]? := fun b hb0 => (hg2.block b (by simp; omega) (fun e => by simp [Value.ownBlock] at e)).trans (heap_alloc_old _ _ hb0)
          have s2 : wr.heap.size < w2.heap.size := by have := hg2.size; simp at this; omega
          have q0 := cell_block (b2 R hltr) k0
          have q1 := cell_block (b2 R hltr) k1
          have q16 := cell_block (b2 R hltr) k16
          have q17 := cell_block (b2 R hltr) k17
          have qf := frozen_blockA (b2 R hltr) kf
          have hbc1 : bc = wr.heap.size + 1 := by
            rcases at2 with e | e
            · simp [Value.ownBlock] at e
            · simpa [Value.ownBlock] using e
          have HBC : Hid (bc = wr.heap.size + 1) := hbc1
          clear k0 k1 k16 k17 kf hbc1
          go_wp2_with (at_builtin; refine wpList_append_own_at _ rfl (.tmp 52) (.tmp 55) 25 rfl lo 3 i3 (.int .i64 0) 1 8 Tryd.underlying25 hi3 hx0 hx1 hx2 rfl (by decide) _ 0 [] rfl (World.ownsRow_nil _ _ _ _) ⟨w2.heap.size, 0, none⟩ 1 1 [.int .i64 k] rfl (by simp) ?d1 ?d2 ?d3 ?d4 ?d5 ?_)
          case d1 =>
            have h := @one_new (w2.setCell ⟨R, 16, none⟩ (.slice (some ⟨bc, 0, none⟩) 1 cc)) (.int .i64 k) 3
            rw [size_set] at h
            exact h
          case d2 => intro u hu; simp at hu; subst hu; rfl
          case d3 => unfold maxLen; omega
          case d4 => omega
          case d5 => first | omega | (simp; omega)
          intro v4 w4 ho4 hg4 _ at4
          obtain ⟨ba, ca, e4, _, hba, hca⟩ := row_one ho4
          subst e4
          have b4 : ∀ b, b < w2.heap.size → w4.heap[b]? = (w2.setCell ⟨R, 16, none⟩ (.slice (some ⟨bc, 0, none⟩) 1 cc)).heap[b]? := fun b hb0 => (hg4.block b (by simp; omega) (fun e => by simp [Value.ownBlock] at e)).trans (heap_alloc_old _ _ (by rw [size_set]; exact hb0))
          have s4 : w2.heap.size < w4.heap.size := by have := hg4.size; simp at this; omega
          have hba1 : ba = w2.heap.size + 1 := by
            rcases at4 with e | e
            · simp [Value.ownBlock] at e
            · simpa [Value.ownBlock] using e
          have hR4 := b4 R (by omega)
          have t17 : w4.cell? ⟨R, 17, none⟩ = some (.slice none 0 0) := cell_block hR4 ((World.cell?_setCell_other _ _ _ _ (by simp)).trans q17)
          have tf : ∀ o, w4.frozen? ⟨R, o, none⟩ = false := frozen_blockA hR4 (frozen_setA qf)
          have HQ : Hid (FullM (w4.setCell ⟨R, 17, none⟩ (.slice (some ⟨ba, 0, none⟩) 1 ca)) lo R (zC (.slice (some ⟨bc, 0, none⟩) 1 cc) (.slice (some ⟨ba, 0, none⟩) 1 ca)) ls hB hA (.slice (some ⟨gv, 0, none⟩) (k + 40) capv) ps ms ∧
              (w4.setCell ⟨R, 17, none⟩ (.slice (some ⟨ba, 0, none⟩) 1 ca)).cell? ⟨bc, 0, none⟩ = some (.slice (some ⟨gv, 0, none⟩) (k + 40) capv) ∧ (w4.setCell ⟨R, 17, none⟩ (.slice (some ⟨ba, 0, none⟩) 1 ca)).cell? ⟨ba, 0, none⟩ = some (.int .i64 k) ∧ (∀ x ∈ ls, x.g ≠ bc ∧ x.g ≠ ba) ∧ Below lo w (w4.setCell ⟨R, 17, none⟩ (.slice (some ⟨ba, 0, none⟩) 1 ca))) := by
            have hbc1 := HBC.out
            have hall : ∀ b, b < wr.heap.size → b ≠ R → (w4.setCell ⟨R, 17, none⟩ (.slice (some ⟨ba, 0, none⟩) 1 ca)).heap[b]? = wr.heap[b]? := fun b hb hne => (set_block hne).trans ((b4 b (by omega)).trans ((set_block hne).trans (b2 b hb)))
            have hcR : ∀ i x, wr.cell? ⟨R, i, none⟩ = some x → i ≠ 16 → i ≠ 17 → (w4.setCell ⟨R, 17, none⟩ (.slice (some ⟨ba, 0, none⟩) 1 ca)).cell? ⟨R, i, none⟩ = some x := fun i x hx n6 n7 =>
              (World.cell?_setCell_other _ _ _ _ (by simp <;> omega)).trans (cell_block hR4 ((World.cell?_setCell_other _ _ _ _ (by simp <;> omega)).trans (cell_block (b2 R hltr) hx)))
            have r := HG.out.1.room
            refine ⟨HG.out.1.stow (by rw [size_set]; omega) hall (frozen_setA tf) (hcR 0 _ r.c0 (by decide) (by decide)) (hcR 1 _ r.c1 (by decide) (by decide)) (fun i h2 h3 => ?_), ?_, ?_, fun x hx => ?_, ?_⟩
            · by_cases h6 : i = 16
              · subst h6
                refine (World.cell?_setCell_other _ _ _ _ (by simp)).trans (cell_block hR4 ?_)
                exact World.cell?_setCell_same _ _ _ q16
              · by_cases h7 : i = 17
                · subst h7
                  exact World.cell?_setCell_same _ _ _ t17
                · have := hcR i _ (r.idle i h2 h3) h6 h7
                  simpa [zC, z0, h6, h7] using this
            · refine cell_block (set_block (by omega)) (cell_block (b4 bc hbc) (cell_block (set_block (by omega)) hcc))
            · exact cell_block (set_block (by omega)) hca
            · have := (r.each x hx).2.1
              omega
            · refine HG.out.2.trans ⟨hg4.os.trans hg2.os, hg4.tape.trans hg2.tape, hg4.output.trans hg2.output, by rw [size_set]; omega, fun b hb => hall b (by omega) (by omega)⟩
          clear hcc hca ho2 ho4 hg2 hg4 at2 at4 b2 b4 hR4 q0 q1 q16 q17 qf HG hba1
          go_wp2_with fail
          go_ret
          exact ⟨ls, hB, hA, _, gv, capv, ms, bc, cc, ba, ca, rfl, rfl, hms, HQ.out⟩
end Go.Proofs.YtmglopfjjbnfiaaDoor
