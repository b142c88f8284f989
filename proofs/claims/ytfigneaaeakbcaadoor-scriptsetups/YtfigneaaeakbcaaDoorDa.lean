/-
  CUT: what stands in a line.
-/
import Derived.Test.YtfigneaaeakbcaaDoorCz
import Derived.RangeFuncNested
namespace Go.Proofs.YtfigneaaeakbcaaDoor
open Go.RowKit Hm
attribute [local go_sem] Oper.semAt_some

set_option maxRecDepth 100000 in
set_option maxHeartbeats 4000000 in
theorem close_any {b : Nat} {line : ByteArray} {a : Nat} {x : Cs} {w : World} (h : Ct b line a x w) (hok : CsOk x line.size) (hl : line.size ≤ 100000) (ha : a ≤ 100000) :
    Calls Tryd.prog 22 #[.pointer (some ⟨b, 0, none⟩)] w fun e w' => e = .returned (.tuple #[]) ∧ Ct b line a (closeC (tl line) a x) w' ∧ Fr b w w' := by
  have o1 := hok.nw
  have o2 := hok.ns
  have o3 := hok.fi
  have ha' : a + x.f < 1000000000 := by omega
  have hn' : x.ws.length < 1000000 := by omega
  obtain ⟨hz3, _⟩ := h.c3
  have hz0 : w.cell? ⟨b, 0, none⟩ = some (.string line) := by
    obtain ⟨wv, sv, h⟩ := h
    rw [cell_heap h.blk]; rfl
  have H := hid h
  unfold closeC
  by_cases h1 : x.k = 1
  · rw [if_pos h1, tl_len]
    have b1 : ((x.k : Int) == 1) = true := by simp [h1]
    have C := hid (leave_any h line.size 0 o3 (Nat.le_refl _) ha' hn')
    clear h
    go_enter Tryd.func22, Tryd.ntmps22
    go_wp2_with (go_at_call 33; refine C.out.mono ?_; rintro e w1 ⟨rfl, h1, h2⟩; have H1 := hid (⟨h1, h2⟩ : _ ∧ _); clear h1 h2)
    go_end0
    exact ⟨rfl, H1.out⟩
  · rw [if_neg h1]
    have b1 : ((x.k : Int) == 1) = false := by simp; omega
    by_cases h2 : x.k = 2 ∨ x.k = 3 ∨ x.k = 4 ∨ x.k = 5
    · rw [if_pos h2]
      have C := hid (spoil_any h ha' hn')
      clear h
      generalize hk : (x.k : Int) = k at *
      rcases (show k = 2 ∨ k = 3 ∨ k = 4 ∨ k = 5 by omega) with rfl | rfl | rfl | rfl
      all_goals clear b1 hk
      all_goals go_enter Tryd.func22, Tryd.ntmps22
      all_goals go_wp2_with (go_at_call 34; refine C.out.mono ?_; rintro e w1 ⟨rfl, h1, h2⟩; have H1 := hid (⟨h1, h2⟩ : _ ∧ _); clear h1 h2)
      all_goals go_end0
      all_goals exact ⟨rfl, H1.out⟩
    · rw [if_neg h2]
      have b2 : ((x.k : Int) == 2) = false := by simp; omega
      have b3 : ((x.k : Int) == 3) = false := by simp; omega
      have b4 : ((x.k : Int) == 4) = false := by simp; omega
      have b5 : ((x.k : Int) == 5) = false := by simp; omega
      clear h
      go_enter Tryd.func22, Tryd.ntmps22
      go_wp2
      go_end0
      exact ⟨rfl, H.out, Fr.refl _ _⟩
theorem zero75 : (Tryd.prog.info? 75).bind (·.zero) = some (.agg #[.string ⟨#[]⟩, .int .i64 0, .slice none 0 0, .int .i64 0, .int .i64 0, .slice none 0 0]) := by kernel_rfl
theorem siz75 : (Tryd.prog.info? 75).map (·.size) = some 6 := by kernel_rfl
theorem iterAt_kp (w : World) (k : Nat) (s : ByteArray) (p : Nat) {q : Nat} (_ : w.heap[k]? = some (.stringIter s q)) : Kp (fun g => g = k) w (w.iterAt k s p) := by
  have := grownBy_putObj' w k (.stringIter s p)
  exact ⟨this.os, this.tape, this.output, this.size, fun b hb hn => this.block b hb (fun e => hn (Option.some.inj e))⟩
theorem decode_lt (s : ByteArray) (pos : Nat) : (Utf8.decode s pos).1 < 2147483648 := by
  have := Go.decode_le s pos
  omega
set_option maxRecDepth 100000 in
set_option maxHeartbeats 4000000 in
theorem cut_any (line : ByteArray) (a : Nat) (w : World) (hl : line.size ≤ 100000) (ha : a ≤ 100000) :
    Calls Tryd.prog 13 #[.string line, .int .i64 (a : Int)] w fun e w' => ∃ v, e = .returned v ∧ OwL 90 3 w' w.heap.size v ((wds (tl line) a).map wc) ∧ G w w' := by
  have hlen := tl_len line
  go_enter Tryd.func13, Tryd.ntmps13
  go_upto_region 2 with (first
    | ((with_reducible refine pl_alloc 5 75 #[.string ⟨#[]⟩, .int .i64 0, .slice none 0 0, .int .i64 0, .int .i64 0, .slice none 0 0] ?_ ?_ ?_ ?_ ?_); rfl; rfl; kernel_rfl; exact zero75; intro w1 b1 hb1 hu1 hv1 hs1; have H1 := hid (⟨hb1, hu1, hv1, hs1⟩ : _ ∧ _ ∧ _ ∧ _); clear hb1 hu1 hv1 hs1)
    | ((with_reducible refine pl_store 75 (.tmp 5) (.tmp 10) b1 #[.string line, .int .i64 (a : Int), .slice none 0 0, .int .i64 0, .int .i64 0, .slice none 0 0] #[.string ⟨#[]⟩, .int .i64 0, .slice none 0 0, .int .i64 0, .int .i64 0, .slice none 0 0] ?_ ?_ ?_ ?_ ?_ ?_ ?_ ?_ ?_ ?_); rfl; rfl; kernel_rfl; rfl; rfl; exact H1.out.2.2.1; exact siz75; exact rfl; exact (by simp [Value.oneCell']); intro w2 k2 v2 s2; have H2 := hid (⟨k2, v2, s2⟩ : _ ∧ _ ∧ _); clear k2 v2 s2))
  have hB : Ct b1 line a ⟨0, 0, [], []⟩ w2 ∧ G w w2 ∧ w.heap.size = b1 ∧ w2.heap.size = b1 + 1 := by
    obtain ⟨p1, p2, p3, p4⟩ := H1.out
    obtain ⟨q1, q2, q3⟩ := H2.out
    refine ⟨⟨_, _, q2, OwL.nil _ _ _ _, OwL.nil _ _ _ _⟩, p2.trans (q1.below (by omega) (fun g e => by omega)), p1, by omega⟩
  obtain ⟨it, hit0⟩ : ∃ it, w2.heap.size = it := ⟨_, rfl⟩
  have HB := hid (⟨hB.1, hB.2.1, hB.2.2.1, hB.2.2.2⟩ : _ ∧ _ ∧ _ ∧ _)
  clear hB H1 H2
  go_upto_region 3 with fail
  have HIT := hid hit0
  clear hit0
  obtain ⟨wi, hwi⟩ : ∃ wi, wi = w2.iter line 0 := ⟨_, rfl⟩
  have hgi : G w2 wi := by rw [hwi]; exact (Below.refl _ _).alloc (Nat.le_refl _) _
  have hi0 : wi.heap[it]? = some (.stringIter line 0) := by rw [hwi, ← HIT.out]; exact World.iter_heap w2 line 0
  have HI := hid (⟨hgi, hi0⟩ : _ ∧ _)
  rw [← hwi]
  clear hwi hgi hi0
  go_loopw [6] (fun _ wr => ∃ (pos : Nat), pos ≤ line.size ∧ wr.heap[it]? = some (.stringIter line pos) ∧ Hid (∃ x, Ct b1 line a x wr ∧ Below b1 w wr ∧ CsOk x pos ∧ runC (tl line) a ((tl line).drop pos) pos x = runC (tl line) a (tl line) 0 ⟨0, 0, [], []⟩)) (fun _ wr => line.size - wr.iterPos it)
  case atStart =>
    obtain ⟨p1, p2, p3, p4⟩ := HB.out
    exact ⟨0, Nat.zero_le _, HI.out.2, _, p1.up HI.out.1, (Below.mono p2 (by omega)).trans (HI.out.1.mono (by omega)), ⟨by simp, by simp, by simp, by simp⟩, rfl⟩
  case round =>
    obtain ⟨pos, hps, hit, HX⟩ := hrel
    obtain ⟨x, HX⟩ : ∃ x, Hid (Ct b1 line a x wr ∧ Below b1 w wr ∧ CsOk x pos ∧ runC (tl line) a ((tl line).drop pos) pos x = runC (tl line) a (tl line) 0 ⟨0, 0, [], []⟩) := HX.out
    have hbit : b1 < it := by have := HB.out.2.2.2; have := HIT.out; omega
    by_cases hp : pos < line.size
    · have hnx : ∀ ty, (Instr.next (.pointer (some ⟨it, 0, none⟩)) true ty).run Tryd.prog wr = _ := fun ty => Lib.run_next_any_at wr it line pos ty hit hp
      have hwd := decode_wide line pos hp
      have hin := decode_in line pos hp
      have hit2 := Lib.iterAt_heap wr it line pos (pos + (Utf8.decode line pos).2) hit
      have hlt := decode_lt line pos
      have hX2 : Hid (Ct b1 line a x (wr.iterAt it line (pos + (Utf8.decode line pos).2)) ∧ Below b1 w (wr.iterAt it line (pos + (Utf8.decode line pos).2))) := by
        obtain ⟨⟨wv, sv, h⟩, q2, _⟩ := HX.out
        have hk := iterAt_kp wr it line (pos + (Utf8.decode line pos).2) hit
        refine ⟨⟨wv, sv, (hk.block b1 h.lt (by omega)).trans h.blk, h.ws.block fun g e => hk.block g (h.ws.lt g e).2 ?_, h.sy.block fun g e => hk.block g (h.sy.lt g e).2 ?_⟩, q2.trans (hk.below (by have := h.lt; omega) (fun g e => by omega))⟩
        · rintro rfl
          obtain ⟨_, c, hc⟩ := own_cells h.ws e
          rw [hit] at hc; cases hc
        · rintro rfl
          obtain ⟨_, c, hc⟩ := own_cells h.sy e
          rw [hit] at hc; cases hc
      have HR := hid (fun (h6 : x.k ≠ 6) => run_rune line a pos x hp h6)
      generalize hw4 : wr.iterAt it line (pos + (Utf8.decode line pos).2) = w4 at *
      obtain ⟨c3, _⟩ := hX2.out.1.c3
      generalize hdr : (Utf8.decode line pos).1 = r at *
      generalize hdn : (Utf8.decode line pos).2 = n at *
      have HD := hid (⟨hw4, hdr, hdn⟩ : _ ∧ _ ∧ _)
      clear hw4 hdr hdn
      by_cases h6 : x.k = 6
      · have c6 : w4.cell? ⟨b1, 3, none⟩ = some (.int .i64 6) := by rw [c3, h6]; rfl
        clear c3
        have CTX := hX2.out.1
        have BX := hX2.out.2
        have hok' := HX.out.2.2.1.mono hps
        have RX : x = runC (tl line) a (tl line) 0 ⟨0, 0, [], []⟩ := by rw [← HX.out.2.2.2, run_six _ _ _ _ _ h6]
        have CTX := hid CTX
        have BX := hid BX
        have hok' := hid hok'
        have RX := hid RX
        go_upto_region 7 with fail
        have C := hid (close_any CTX.out hok'.out hl ha)
        go_wp2_with (go_at_call 22; refine C.out.mono ?_; rintro e w6 ⟨rfl, h1, h2⟩; obtain ⟨wv6, sv6, h6⟩ := h1; have c2 : w6.cell? ⟨b1, 2, none⟩ = some wv6 := (by rw [cell_heap h6.blk]; rfl); obtain ⟨pa, pc, hpp⟩ := h6.ws.form; rw [List.length_map] at hpp; have H6 := hid (⟨h6, h2⟩ : _ ∧ _); clear h6 h2; rw [hpp] at c2)
        go_ret
        have h6 := H6.out.1.ws
        rw [hpp] at h6
        have hb1 := HB.out.2.2.1
        refine ⟨_, rfl, ?_, ?_⟩
        · unfold wds wOf
          rw [← RX.out]
          exact OwL.mono (lo := b1 + 1) h6 (by omega)
        · exact (Below.mono (BX.out.trans H6.out.2.bel) (by omega))
      · have b6 : ((x.k : Int) == 6) = false := by simp; omega
        have C := hid (next_any hX2.out.1 pos r HX.out.2.2.1 hlt hps hl ha)
        go_wp2_with (go_at_call 21; refine C.out.mono ?_; rintro e w5 ⟨rfl, h1, h2⟩; have H5 := hid h1; have F5 := hid h2; clear h1 h2)
        have it5 := F5.out.it _ _ _ hit2
        go_roundw
        case rel =>
          refine ⟨pos + n, hin, it5, _, H5.out, hX2.out.2.trans F5.out.bel, (next_ok HX.out.2.2.1).mono (by omega), ?_⟩
          rw [← HR.out h6]
          exact HX.out.2.2.2
        case measure => simp only [World.iterPos, it5, hit]; omega
    · have hnx : ∀ ty, (Instr.next (.pointer (some ⟨it, 0, none⟩)) true ty).run Tryd.prog wr = _ := fun ty => Lib.run_next_end_at wr it line pos ty hit hp
      have CTX := HX.out.1
      have BX := HX.out.2.1
      have hok' := HX.out.2.2.1.mono hps
      have RX : x = runC (tl line) a (tl line) 0 ⟨0, 0, [], []⟩ := by rw [← HX.out.2.2.2, List.drop_of_length_le (by omega)]; rfl
      have CTX := hid CTX
      have BX := hid BX
      have hok' := hid hok'
      have RX := hid RX
      go_upto_region 7 with fail
      have C := hid (close_any CTX.out hok'.out hl ha)
      go_wp2_with (go_at_call 22; refine C.out.mono ?_; rintro e w6 ⟨rfl, h1, h2⟩; obtain ⟨wv6, sv6, h6⟩ := h1; have c2 : w6.cell? ⟨b1, 2, none⟩ = some wv6 := (by rw [cell_heap h6.blk]; rfl); obtain ⟨pa, pc, hpp⟩ := h6.ws.form; rw [List.length_map] at hpp; have H6 := hid (⟨h6, h2⟩ : _ ∧ _); clear h6 h2; rw [hpp] at c2)
      go_ret
      have h6 := H6.out.1.ws
      rw [hpp] at h6
      have hb1 := HB.out.2.2.1
      refine ⟨_, rfl, ?_, ?_⟩
      · unfold wds wOf
        rw [← RX.out]
        exact OwL.mono (lo := b1 + 1) h6 (by omega)
      · exact (Below.mono (BX.out.trans H6.out.2.bel) (by omega))
end Go.Proofs.YtfigneaaeakbcaaDoor
