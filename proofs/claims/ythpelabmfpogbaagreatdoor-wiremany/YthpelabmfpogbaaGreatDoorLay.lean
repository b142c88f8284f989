/-
  The Room's Bytes.
-/
import Derived.Test.YthpelabmfpogbaaGreatDoorWords
import Derived.Maps.AppendAt
namespace Go.Proofs.YthpelabmfpogbaaGreatDoor
open Go.RowKit Wire

theorem Tryz.info22 : (Tryz.prog.info? 22).map (fun i => (i.zero, i.size, i.bytes)) = some (some (.slice none 0 0), 1, 24) := by kernel_rfl
theorem Tryz.info3 : (Tryz.prog.info? 3).map (fun i => (i.zero, i.size, i.bytes)) = some (some (.int .i64 0), 1, 8) := by kernel_rfl

def lots (k : Nat) : List Int := (List.range k).map lotB
theorem lots_len (k : Nat) : (lots k).length = k := by simp [lots]
theorem lots_succ (k : Nat) : lots (k + 1) = lots k ++ [lotB k] := by simp [lots, List.range_succ]

theorem row_block {w w' : World} {lo e n : Nat} {v : Value} {xs : List Value} (h : w.ownsRow lo e 1 v n xs) (hb : ∀ k, v.ownBlock = some k → w'.heap[k]? = w.heap[k]?) : w'.ownsRow lo e 1 v n xs := by
  obtain ⟨h1, h | ⟨g, cap, cur, hv, hg, hh, hr⟩⟩ := h
  · exact ⟨h1, .inl h⟩
  · subst hv
    exact ⟨h1, .inr ⟨g, cap, cur, rfl, hg, (hb g rfl).trans hh, hr⟩⟩

theorem frozen_block {w w' : World} {R : Nat} (h : w'.heap[R]? = w.heap[R]?) (hf : ∀ o, w.frozen? ⟨R, o, none⟩ = false) : ∀ o, w'.frozen? ⟨R, o, none⟩ = false := by
  intro o
  have := hf o
  simp only [World.frozen?, h] at this ⊢
  exact this

theorem cell_block {w w' : World} {R o : Nat} {x : Value} (h : w'.heap[R]? = w.heap[R]?) (hc : w.cell? ⟨R, o, none⟩ = some x) : w'.cell? ⟨R, o, none⟩ = some x := by
  simp only [World.cell?, h] at hc ⊢
  exact hc

theorem set_block {w : World} {R o b : Nat} {x : Value} (h : b ≠ R) : (w.setCell ⟨R, o, none⟩ x).heap[b]? = w.heap[b]? := by
  simp only [World.setCell]
  rw [Array.getElem?_modify]
  simp [Ne.symm h]

theorem row_form {w : World} {lo e n : Nat} {v : Value} {xs : List Value} (h : w.ownsRow lo e 1 v n xs) : ∃ o c, v = .slice o n c := by
  obtain ⟨_, h | ⟨g, cap, cur, hv, _⟩⟩ := h
  · exact ⟨none, 0, by rw [h.1, h.2]⟩
  · exact ⟨_, cap, hv⟩

theorem size_set (w : World) (a : Addr) (x : Value) : (w.setCell a x).heap.size = w.heap.size := by simp [World.setCell]

theorem frozen_set {w : World} {R r : Nat} {x : Value} (hf : ∀ o, w.frozen? ⟨R, o, none⟩ = false) : ∀ o, (w.setCell ⟨R, r, none⟩ x).frozen? ⟨R, o, none⟩ = false := by
  intro o
  have h := hf o
  simp only [World.frozen?, World.setCell, Array.getElem?_modify, if_true] at h ⊢
  cases hh : w.heap[R]? with
  | none => rfl
  | some ob => cases ob <;> simp_all

theorem owns_lit0 (w : World) : Owns (w.alloc (.cells #[] 5)) w.heap.size (.slice (some ⟨w.heap.size, 0, none⟩) 0 0) [] :=
  ⟨by simp, .inr ⟨_, 0, #[], rfl, Nat.le_refl _, heap_alloc_new w _, Nat.le_refl _, Nat.zero_le _, by simp, by simp⟩⟩

set_option maxHeartbeats 1600000 in
set_option maxRecDepth 100000 in
theorem lay_any (lo R : Nat) (ls : List Rl) (hB hA : Value) (vl : Value) (l : List Int) (w : World) (hr : RoomAt w lo R ls hB hA) (hn : ls.length ≤ 100) (hl : Has w vl l) (hlen : l.length ≤ 65536) :
    Calls Tryz.prog 20 #[.pointer (some ⟨R, 0, none⟩), vl, .int .i64 600] w fun e w' => ∃ x hB' hA', e = .returned (.slice (some ⟨x.g, 0, none⟩) l.length (l.length + 600)) ∧ x.n = l.length ∧ w.heap.size ≤ x.g ∧ RoomAt w' lo R (ls ++ [x]) hB' hA' ∧
      Owns w' w.heap.size x.row (l ++ lots 600) ∧ (∀ b, b < w.heap.size → b ≠ R → hB.ownBlock ≠ some b → hA.ownBlock ≠ some b → w'.heap[b]? = w.heap[b]?) ∧
      (∀ b, hB'.ownBlock = some b → hB.ownBlock = some b ∨ w.heap.size ≤ b) ∧ (∀ b, hA'.ownBlock = some b → hA.ownBlock = some b ∨ w.heap.size ≤ b) ∧ Below lo w w' := by
  have h0 := hr.c0
  have h1 := hr.c1
  have hfz := hr.fz
  have HR : Hid (RoomAt w lo R ls hB hA) := hr
  have hlt := hr.lt
  have hlo := hr.loR
  obtain ⟨i0, hi, hz0, hz1, hz2⟩ := info_parts Tryz.info5
  obtain ⟨ao, cap, hv, hcap⟩ := hl.form
  subst hv
  have HL : Hid (Has w (.slice ao l.length cap) l) := hl
  clear hr hl
  go_enter Tryz.func20, Tryz.ntmps20
  go_wp2_with (at_builtin; refine wpList_append_has rfl (.tmp 10) (.tmp 11) rfl w.heap.size _ _ [] l rfl rfl (owns_lit0 w) (HL.out.below ((Below.refl _ _).alloc (Nat.le_refl _) _)) (by simp; omega) (by simp) ?_)
  intro v1 w1 ho1 hb1
  replace hb1 := ((Below.refl w.heap.size w).alloc (Nat.le_refl _) (.cells #[] 5)).trans hb1
  go_wp2_with fail
  go_loopw [7, 8] (fun v i wr => ∃ k : Nat, k ≤ 600 ∧ i = .int .i64 k ∧ Owns wr w.heap.size v (l ++ lots k) ∧ Below w.heap.size w wr) (fun _ i _ => 600 - (intOf i).toNat)
  case atStart => exact ⟨0, Nat.zero_le _, rfl, by simpa [lots] using ho1, hb1⟩
  case round =>
    obtain ⟨k, hk, rfl, hown, hb⟩ := hrel
    clear ho1 hb1
    by_cases hk6 : k < 600
    · have hll : (l ++ lots k).length = l.length + k := by simp [lots_len]
      by_cases hp : k % 2 = 0
      · have C : Hid (∀ wz, Calls Tryz.prog 69 #[.int .i64 k] wz fun e w' => e = .returned (.int .i64 (-7701)) ∧ w' = wz) := fun wz => by
          have := lot_any k wz (by omega)
          rwa [if_pos hp] at this
        have hnx : Hid (lots (k + 1) = lots k ++ [235]) := by
          show _ = _
          rw [lots_succ]; simp [lotB, hp]
        clear hp
        go_wp2_with (first | (go_at_call 69; refine (C.out _).mono ?_; rintro e w2 ⟨rfl, rfl⟩) | (at_builtin; refine wpList_append_own _ rfl _ _ 22 rfl w.heap.size 5 i0 (.int .u8 0) 1 1 Tryz.underlying22 hi hz0 hz1 hz2 rfl (by decide) _ _ _ rfl (World.ownsRow.alloc hown _) ⟨w2.heap.size, 0, none⟩ 1 1 [.int .u8 235] rfl rfl ?c1 ?c2 ?c3 ?c4 ?c5 ?_))
        case c1 => exact one_new
        case c2 => intro u hu; simp at hu; subst hu; rfl
        case c3 => unfold maxLen; omega
        case c4 => omega
        case c5 => have := hb.size; simp; omega
        intro v' w3 hown' hgrow _
        have R1 : Owns w3 w.heap.size v' (l ++ lots (k + 1)) := by
          rw [hnx.out, ← List.append_assoc]
          unfold Owns
          simpa [Nat.add_assoc, lots_len] using hown'
        have R2 := rel_own hb (fun k hk => (hown.lt k hk).1) hgrow
        clear hown' hgrow hown
        go_wp2
        go_roundw
        case rel => exact ⟨k + 1, by omega, by go_num, R1, R2⟩
        case measure => simp [intOf]; omega
      · have C : Hid (∀ wz, Calls Tryz.prog 69 #[.int .i64 k] wz fun e w' => e = .returned (.int .i64 (-7702)) ∧ w' = wz) := fun wz => by
          have := lot_any k wz (by omega)
          rwa [if_neg hp] at this
        have hnx : Hid (lots (k + 1) = lots k ++ [234]) := by
          show _ = _
          rw [lots_succ]; simp [lotB, hp]
        clear hp
        go_wp2_with (first | (go_at_call 69; refine (C.out _).mono ?_; rintro e w2 ⟨rfl, rfl⟩) | (at_builtin; refine wpList_append_own _ rfl _ _ 22 rfl w.heap.size 5 i0 (.int .u8 0) 1 1 Tryz.underlying22 hi hz0 hz1 hz2 rfl (by decide) _ _ _ rfl (World.ownsRow.alloc hown _) ⟨w2.heap.size, 0, none⟩ 1 1 [.int .u8 234] rfl rfl ?c1 ?c2 ?c3 ?c4 ?c5 ?_))
        case c1 => exact one_new
        case c2 => intro u hu; simp at hu; subst hu; rfl
        case c3 => unfold maxLen; omega
        case c4 => omega
        case c5 => have := hb.size; simp; omega
        intro v' w3 hown' hgrow _
        have R1 : Owns w3 w.heap.size v' (l ++ lots (k + 1)) := by
          rw [hnx.out, ← List.append_assoc]
          unfold Owns
          simpa [Nat.add_assoc, lots_len] using hown'
        have R2 := rel_own hb (fun k hk => (hown.lt k hk).1) hgrow
        clear hown' hgrow hown
        go_wp2
        go_roundw
        case rel => exact ⟨k + 1, by omega, by go_num, R1, R2⟩
        case measure => simp [intOf]; omega
    · obtain rfl : k = 600 := by omega
      obtain ⟨vo, vc, hvf, hvc⟩ := hown.has.form
      have hll : (l ++ lots 600).length = l.length + 600 := by simp [lots_len]
      rw [hll] at hvf hvc
      obtain ⟨g, hg, hgw, hgr⟩ : ∃ g, vo = some ⟨g, 0, none⟩ ∧ w.heap.size ≤ g ∧ g < wr.heap.size := by
        have hw := hown.lt
        obtain ⟨_, h | ⟨g, cap', cur, hv, hgb, _⟩⟩ := hown
        · rw [hvf] at h; simp at h
        · rw [hvf] at hv hw
          simp at hv
          refine ⟨g, hv.1, ?_⟩
          have := hw g (by rw [hv.1]; rfl)
          exact this
      subst hg
      have HO : Hid (Owns wr w.heap.size _ (l ++ lots 600)) := hown
      subst hvf
      clear hown hll
      have hRb := hb.block R hlt
      have k0 : wr.cell? ⟨R, 0, none⟩ = some hB := cell_block hRb h0
      have k1 : wr.cell? ⟨R, 1, none⟩ = some hA := cell_block hRb h1
      have kf := frozen_block hRb hfz
      have rB : wr.ownsRow lo 22 1 hB ls.length (ls.map Rl.row) := row_block HR.out.rows fun k hk => hb.block k (HR.out.rows.lt k hk).2
      have rA : wr.ownsRow lo 3 1 hA ls.length (ls.map Rl.at) := row_block HR.out.ats fun k hk => hb.block k (HR.out.ats.lt k hk).2
      have hltr : R < wr.heap.size := Nat.lt_of_lt_of_le hlt hb.size
      have hlor : lo ≤ wr.heap.size := Nat.le_trans hlo (Nat.le_of_lt hltr)
      clear h0 h1 hfz hi hz0 hz1 hz2 hRb
      obtain ⟨i2, hi2, hy0, hy1, hy2⟩ := info_parts Tryz.info22
      obtain ⟨i3, hi3, hx0, hx1, hx2⟩ := info_parts Tryz.info3
      go_wp2_with (at_builtin; refine wpList_append_own_at _ rfl _ _ 25 rfl lo 22 i2 (.slice none 0 0) 1 24 Tryz.underlying25 hi2 hy0 hy1 hy2 rfl (by decide) _ _ _ rfl (World.ownsRow.alloc rB _) ⟨wr.heap.size, 0, none⟩ 1 1 [.slice (some ⟨g, 0, none⟩) (l.length + 600) vc] rfl rfl ?c1 ?c2 ?c3 ?c4 ?c5 ?_)
      case c1 => exact one_new
      case c2 => intro u hu; simp at hu; subst hu; rfl
      case c3 => unfold maxLen; omega
      case c4 => omega
      case c5 => simp; omega
      intro v2 w2 ho2 hg2 _ at2
      have b2 : ∀ b, b < wr.heap.size → hB.ownBlock ≠ some b → w2.heap[b]? = wr.heap[b]? := fun b hb0 hne => (hg2.block b (by simp; omega) (fun e => hne (by rw [e]))).trans (Below.heap_alloc wr _ b hb0)
      have s2 : wr.heap.size < w2.heap.size := by have := hg2.size; simp at this; omega
      have hnB := HR.out.nB
      have q0 := cell_block (b2 R hltr hnB) k0
      have q1 := cell_block (b2 R hltr hnB) k1
      have qf := frozen_block (b2 R hltr hnB) kf
      have rA2 : w2.ownsRow lo 3 1 hA ls.length (ls.map Rl.at) := row_block rA fun k hk => b2 k (rA.lt k hk).2 (fun e => HR.out.nAB k e hk)
      have rA3 : (w2.setCell ⟨R, 0, none⟩ v2).ownsRow lo 3 1 hA ls.length (ls.map Rl.at) := row_block rA2 fun k hk => set_block (fun e => HR.out.nA (by rw [hk, e]))
      have hlo2 : lo ≤ w2.heap.size := by omega
      obtain ⟨o2, c2, e2⟩ := row_form ho2
      subst e2
      clear rA rA2 k0 k1 kf rB
      go_wp2_with (at_builtin; refine wpList_append_own_at _ rfl _ _ 26 rfl lo 3 i3 (.int .i64 0) 1 8 Tryz.underlying26 hi3 hx0 hx1 hx2 rfl (by decide) _ _ _ rfl (World.ownsRow.alloc rA3 _) ⟨w2.heap.size, 0, none⟩ 1 1 [.int .i64 l.length] rfl rfl ?c1 ?c2 ?c3 ?c4 ?c5 ?_)
      case c1 =>
        have h := @one_new (w2.setCell ⟨R, 0, none⟩ (.slice o2 (ls.length + 1) c2)) (.int .i64 l.length) 3
        rw [size_set] at h
        exact h
      case c2 => intro u hu; simp at hu; subst hu; rfl
      case c3 => unfold maxLen; omega
      case c4 => omega
      case c5 => simp; omega
      intro v4 w4 ho4 hg4 _ at4
      obtain ⟨o4, c4, e4⟩ := row_form ho4
      subst e4
      have s4 : w2.heap.size < w4.heap.size := by have := hg4.size; simp at this; omega
      have hnA := HR.out.nA
      have b4 : ∀ b, b < w2.heap.size → hA.ownBlock ≠ some b → w4.heap[b]? = (w2.setCell ⟨R, 0, none⟩ (.slice o2 (ls.length + 1) c2)).heap[b]? := fun b hb0 hne =>
        (hg4.block b (by simp; omega) (fun e => hne (by rw [e]))).trans (Below.heap_alloc _ _ b (by rw [size_set]; exact hb0))
      have hR4 := b4 R (by omega) hnA
      have t0 : w4.cell? ⟨R, 0, none⟩ = some (.slice o2 (ls.length + 1) c2) := cell_block hR4 (World.cell?_setCell_same _ _ _ q0)
      have t1 : w4.cell? ⟨R, 1, none⟩ = some hA := cell_block hR4 ((World.cell?_setCell_other _ _ _ _ (by simp)).trans q1)
      have tf : ∀ o, w4.frozen? ⟨R, o, none⟩ = false := frozen_block hR4 (frozen_set qf)
      clear q0 q1 qf
      have HB2 : Hid (∀ b, b < wr.heap.size → b ≠ R → hB.ownBlock ≠ some b → hA.ownBlock ≠ some b → (w4.setCell ⟨R, 1, none⟩ (.slice o4 (ls.length + 1) c4)).heap[b]? = wr.heap[b]?) := fun b hb0 h1 h2 h3 =>
        (set_block h1).trans ((b4 b (by omega) h3).trans ((set_block h1).trans (b2 b hb0 h2)))
      have hltB : ∀ k, hB.ownBlock = some k → lo ≤ k ∧ k < w.heap.size := HR.out.rows.lt
      have hltA : ∀ k, hA.ownBlock = some k → lo ≤ k ∧ k < w.heap.size := HR.out.ats.lt
      have hfr : ∀ b, lo ≤ b → b < wr.heap.size → b ≠ R → hB.ownBlock ≠ some b → hA.ownBlock ≠ some b → (w4.setCell ⟨R, 1, none⟩ (.slice o4 (ls.length + 1) c4)).heap[b]? = wr.heap[b]? := fun b _ => HB2.out b
      have FIN : ∃ x hB' hA', Ending.returned (.slice (some ⟨g, 0, none⟩) l.length (l.length + 600)) = .returned (.slice (some ⟨x.g, 0, none⟩) l.length (l.length + 600)) ∧ x.n = l.length ∧ w.heap.size ≤ x.g ∧ RoomAt (w4.setCell ⟨R, 1, none⟩ (.slice o4 (ls.length + 1) c4)) lo R (ls ++ [x]) hB' hA' ∧
          Owns (w4.setCell ⟨R, 1, none⟩ (.slice o4 (ls.length + 1) c4)) w.heap.size x.row (l ++ lots 600) ∧ (∀ b, b < w.heap.size → b ≠ R → hB.ownBlock ≠ some b → hA.ownBlock ≠ some b → (w4.setCell ⟨R, 1, none⟩ (.slice o4 (ls.length + 1) c4)).heap[b]? = w.heap[b]?) ∧
          (∀ b, hB'.ownBlock = some b → hB.ownBlock = some b ∨ w.heap.size ≤ b) ∧ (∀ b, hA'.ownBlock = some b → hA.ownBlock = some b ∨ w.heap.size ≤ b) ∧ Below lo w (w4.setCell ⟨R, 1, none⟩ (.slice o4 (ls.length + 1) c4)) := by
        have p2 : ∀ b, (Value.slice o2 (ls.length + 1) c2).ownBlock = some b → hB.ownBlock = some b ∨ b = wr.heap.size + 1 := fun b h => by
          rcases at2 with e | e
          · exact .inl (e ▸ h)
          · rw [h] at e; exact .inr (by simpa using e)
        have p4 : ∀ b, (Value.slice o4 (ls.length + 1) c4).ownBlock = some b → hA.ownBlock = some b ∨ b = w2.heap.size + 1 := fun b h => by
          rcases at4 with e | e
          · exact .inl (e ▸ h)
          · rw [h] at e; exact .inr (by simpa using e)
        have hws := hb.size
        have hgB : hB.ownBlock ≠ some g := fun e => by have := hltB g e; omega
        have hgA : hA.ownBlock ≠ some g := fun e => by have := hltA g e; omega
        have hown : Owns (w4.setCell ⟨R, 1, none⟩ (.slice o4 (ls.length + 1) c4)) w.heap.size (.slice (some ⟨g, 0, none⟩) (l.length + 600) vc) (l ++ lots 600) := HO.out.block fun k hk => by
          simp [Value.ownBlock] at hk
          subst hk
          exact HB2.out _ hgr (by omega) hgB hgA
        have n2 : ∀ b, (Value.slice o2 (ls.length + 1) c2).ownBlock = some b → b ≠ R ∧ hA.ownBlock ≠ some b := fun b h => by
          rcases p2 b h with e | e
          · exact ⟨fun e' => hnB (by rw [e, e']), HR.out.nAB b e⟩
          · exact ⟨by omega, fun e' => by have := hltA b e'; omega⟩
        have n4 : ∀ b, (Value.slice o4 (ls.length + 1) c4).ownBlock = some b → b ≠ R := fun b h => by
          rcases p4 b h with e | e
          · exact fun e' => hnA (by rw [e, e'])
          · omega
        have old : ∀ b, b < w.heap.size → b ≠ R → hB.ownBlock ≠ some b → hA.ownBlock ≠ some b → (w4.setCell ⟨R, 1, none⟩ (.slice o4 (ls.length + 1) c4)).heap[b]? = w.heap[b]? := fun b hb0 h1 h2 h3 => (HB2.out b (by omega) h1 h2 h3).trans (hb.block b hb0)
        refine ⟨⟨g, l.length, vc⟩, .slice o2 (ls.length + 1) c2, .slice o4 (ls.length + 1) c4, rfl, rfl, hgw, ⟨hlo, ?_, frozen_set tf, ?_, ?_, ?_, ?_, ?_, ?_, ?_, ?_, ?_⟩, hown, old, ?_, ?_, ?_⟩
        · rw [size_set]; omega
        · intro i h2 h26
          have e := HR.out.idle i h2 h26
          have e1 := cell_block (hb.block R hlt) e
          have e2 := cell_block (b2 R hltr hnB) e1
          exact (World.cell?_setCell_other _ _ _ _ (by simp <;> omega)).trans (cell_block hR4 ((World.cell?_setCell_other _ _ _ _ (by simp <;> omega)).trans e2))
        · exact (World.cell?_setCell_other _ _ _ _ (by simp)).trans t0
        · exact World.cell?_setCell_same _ _ _ t1
        · have := row_block (w' := w4.setCell ⟨R, 1, none⟩ (.slice o4 (ls.length + 1) c4)) ho2 fun k hk => (set_block (n2 k hk).1).trans ((b4 k (ho2.lt k hk).2 (n2 k hk).2).trans (set_block (n2 k hk).1))
          simpa [Rl.row] using this
        · have := row_block (w' := w4.setCell ⟨R, 1, none⟩ (.slice o4 (ls.length + 1) c4)) ho4 fun k hk => set_block (n4 k hk)
          simpa [Rl.at] using this
        · exact fun e => (n2 R e).1 rfl
        · exact fun e => n4 R e rfl
        · intro b h2 h4
          rcases p4 b h4 with e | e
          · exact (n2 b h2).2 e
          · rcases p2 b h2 with e' | e'
            · have := hltB b e'; omega
            · omega
        · intro y hy
          rcases List.mem_append.1 hy with hy | hy
          · obtain ⟨y1, y2, y3, y4, y5, y6, y7, y8⟩ := HR.out.each y hy
            refine ⟨y1, by rw [size_set]; omega, y3, ?_, ?_, y6, y7, fun i hi6 => cell_block (old y.g y2 y3 y4 y5) (y8 i hi6)⟩
            · intro e
              rcases p2 _ e with e' | e'
              · exact y4 e'
              · omega
            · intro e
              rcases p4 _ e with e' | e'
              · exact y5 e'
              · omega
          · obtain rfl := List.mem_singleton.1 hy
            refine ⟨by show lo ≤ g; omega, by rw [size_set]; show g < _; omega, by show g ≠ R; omega, ?_, ?_, hvc, hlen, fun i hi6 => ?_⟩
            · intro e
              rcases p2 _ e with e' | e'
              · exact hgB e'
              · have : g = wr.heap.size + 1 := e'
                omega
            · intro e
              rcases p4 _ e with e' | e'
              · exact hgA e'
              · have : g = w2.heap.size + 1 := e'
                omega
            · have q := World.ownsRow.cells hown (g := g) rfl (l.length + i) (.int .u8 (lotB i)) (by
                rw [List.getElem?_map, List.getElem?_append_right (by omega)]
                simp [lots, List.getElem?_map, List.getElem?_range hi6])
              rw [add0] at q
              exact q
        · intro b h
          rcases p2 b h with e | e
          · exact .inl e
          · exact .inr (by omega)
        · intro b h
          rcases p4 b h with e | e
          · exact .inl e
          · exact .inr (by omega)
        · refine ⟨hg4.os.trans (hg2.os.trans hb.os), hg4.tape.trans (hg2.tape.trans hb.tape), hg4.output.trans (hg2.output.trans hb.output), by rw [size_set]; omega, fun k hk => ?_⟩
          exact old k (by omega) (by omega) (fun e => by have := hltB k e; omega) (fun e => by have := hltA k e; omega)
      clear HB2 hltB hltA hfr HO HR b2 b4 hR4 ho2 ho4 hg2 hg4 at2 at4 rA3
      go_wp2
      go_ret
      exact FIN

/-- What the Room's Bytes leaves. -/
def Lent (lo R : Nat) (ls : List Rl) (hB hA : Value) (l : List Int) (w : World) (g : Nat) (w' : World) : Prop :=
  ∃ x hB' hA', x.g = g ∧ x.n = l.length ∧ w.heap.size ≤ x.g ∧ RoomAt w' lo R (ls ++ [x]) hB' hA' ∧
      Owns w' w.heap.size x.row (l ++ lots 600) ∧ (∀ b, b < w.heap.size → b ≠ R → hB.ownBlock ≠ some b → hA.ownBlock ≠ some b → w'.heap[b]? = w.heap[b]?) ∧
      (∀ b, hB'.ownBlock = some b → hB.ownBlock = some b ∨ w.heap.size ≤ b) ∧ (∀ b, hA'.ownBlock = some b → hA.ownBlock = some b ∨ w.heap.size ≤ b) ∧ Below lo w w'

set_option maxHeartbeats 800000 in
set_option maxRecDepth 100000 in
theorem roomBytes_any (lo R : Nat) (ls : List Rl) (hB hA : Value) (vl : Value) (l : List Int) (w : World) (hr : RoomAt w lo R ls hB hA) (hn : ls.length ≤ 100) (hl : Has w vl l) (hlen : l.length ≤ 65536) :
    Calls Tryz.prog 6 #[.pointer (some ⟨R, 0, none⟩), vl] w fun e w' => ∃ g, e = .returned (.slice (some ⟨g, 0, none⟩) l.length (l.length + 600)) ∧ Lent lo R ls hB hA l w g w' := by
  go_enter Tryz.func6, Tryz.ntmps6
  go_wp2_with fail
  refine (lay_any lo R ls hB hA vl l w hr hn hl hlen).mono ?_
  rintro e w1 ⟨x, hB', hA', rfl, hx⟩
  have HX : Hid (Lent lo R ls hB hA l w x.g w1) := ⟨x, hB', hA', rfl, hx⟩
  clear hx hr hl
  go_wp2
  go_ret
  exact ⟨_, rfl, HX.out⟩

theorem roomHold_any (lo R : Nat) (ls : List Rl) (hB hA : Value) (w : World) (hr : RoomAt w lo R ls hB hA) (hl : ls.length ≤ 1000) :
    Calls Tryz.prog 13 #[.pointer (some ⟨R, 0, none⟩)] w fun e w' => e = .returned (.bool true) ∧ w' = w :=
  room_by R w (fun w' => w' = w) (roomHold_bytes lo R ls hB hA w hr hl) (fun w' e => by subst e; exact hr.idle)
end Go.Proofs.YthpelabmfpogbaaGreatDoor
