/-
  THE ROOM's Texts.
-/
import Derived.Test.YtnhnggnldhmepaaGreatDoorRoom
import Derived.RangeFuncBox
namespace Go.Proofs.YtnhnggnldhmepaaGreatDoor
open Go.RowKit

theorem row_block {w w' : World} {lo e n : Nat} {v : Value} {xs : List Value} (h : w.ownsRow lo e 1 v n xs) (hb : ∀ k, v.ownBlock = some k → w'.heap[k]? = w.heap[k]?) : w'.ownsRow lo e 1 v n xs := by
  obtain ⟨h1, h | ⟨g, cap, cur, hv, hg, hh, hr⟩⟩ := h
  · exact ⟨h1, .inl h⟩
  · subst hv
    exact ⟨h1, .inr ⟨g, cap, cur, rfl, hg, (hb g rfl).trans hh, hr⟩⟩
theorem cell_block {w w' : World} {R o : Nat} {x : Value} (h : w'.heap[R]? = w.heap[R]?) (hc : w.cell? ⟨R, o, none⟩ = some x) : w'.cell? ⟨R, o, none⟩ = some x := by
  simp only [World.cell?, h] at hc ⊢
  exact hc
theorem frozen_block {w w' : World} {R o : Nat} (h : w'.heap[R]? = w.heap[R]?) (hf : w.frozen? ⟨R, o, none⟩ = false) : w'.frozen? ⟨R, o, none⟩ = false := by
  simp only [World.frozen?, h] at hf ⊢
  exact hf
theorem set_block {w : World} {R o b : Nat} {x : Value} (h : b ≠ R) : (w.setCell ⟨R, o, none⟩ x).heap[b]? = w.heap[b]? := by
  simp only [World.setCell]
  rw [Array.getElem?_modify]
  simp [Ne.symm h]
theorem size_set (w : World) (a : Addr) (x : Value) : (w.setCell a x).heap.size = w.heap.size := by simp [World.setCell]
theorem wpList_append_texts {w : World} {ops : Array Oper} {rest : List Oper} {o : Oper} {a : Act} {Q : Exit → Act → World → Prop} (hgd : o.guard = none) (s x : Operand)
    (ho : o.op = .call { callee := .builtin .append, args := #[s, x], argTypes := #[42, 42] })
    (lo : Nat) (v vx : Value) (m l : List ByteArray) (hs : a.eval s = v) (hx : a.eval x = vx) (hown : OwnsT w lo v m) (hhas : HasT w vx l)
    (hlen : m.length + l.length ≤ 1048576) (hbase : lo ≤ w.heap.size)
    (h : ∀ v' w', OwnsT w' lo v' (m ++ l) → Below lo w w' → wpList Tryz.prog ops Q rest (a.put o.dst v') w') : wpList Tryz.prog ops Q (o :: rest) a w := by
  obtain ⟨i0, hi, hz0, hz1, hz2⟩ := info_parts Tryz.info9
  rcases hhas with ⟨rfl, rfl⟩ | ⟨ad, cap, rfl, hc, hcell⟩
  · refine wpList_append_own_none hgd s x 42 ho lo 9 i0 1 Tryz.underlying42 hi v m.length (m.map Value.string) hs hown hx ?_
    exact h v w (by simpa using hown) (Below.refl _ _)
  · refine wpList_append_own w hgd s x 42 ho lo 9 i0 (.string ⟨#[]⟩) 1 16 Tryz.underlying42 hi hz0 hz1 hz2 rfl (by decide) v m.length (m.map Value.string) hs hown ad l.length cap (l.map Value.string) hx (by simp) ?_ ?_ ?_ ?_ hbase ?_
    · intro j u hj
      rw [List.getElem?_map] at hj
      obtain ⟨s0, hs0, rfl⟩ := Option.map_eq_some_iff.1 hj
      exact hcell j s0 hs0
    · intro u hu; obtain ⟨x, _, rfl⟩ := List.mem_map.1 hu; rfl
    · unfold maxLen; omega
    · omega
    · intro v' w' h1 h2 _
      refine h v' w' ?_ ((Below.refl lo w).grown h2 hbase fun k hk => (World.ownsRow.lt hown k hk).1)
      unfold OwnsT
      simpa using h1

theorem row_one {w : World} {lo e : Nat} {v x : Value} (h : w.ownsRow lo e 1 v (0 + 1) ([] ++ [x])) : ∃ b c, v = .slice (some ⟨b, 0, none⟩) 1 c ∧ lo ≤ b ∧ b < w.heap.size ∧ w.cell? ⟨b, 0, none⟩ = some x := by
  have h0 := h
  have hl := World.ownsRow.lt h
  obtain ⟨_, q | ⟨g, cap, cur, hv, hg, hr⟩⟩ := h
  · simp at q
  · subst hv
    refine ⟨g, cap, rfl, hg, (hl g rfl).2, ?_⟩
    have := World.ownsRow.cells h0 (g := g) rfl 0 x (by simp)
    simpa [Addr.add] using this
theorem row_frozen {w : World} {lo n : Nat} {g cap : Nat} {xs : List Value} (h : w.ownsRow lo 9 1 (.slice (some ⟨g, 0, none⟩) n cap) n xs) (o : Nat) : w.frozen? ⟨g, o, none⟩ = false := by
  obtain ⟨_, q | ⟨g', cap', cur, hv, hg, hh, hr⟩⟩ := h
  · simp at q
  · simp at hv
    obtain ⟨rfl, rfl⟩ := hv
    simp [World.frozen?, hh]

set_option maxHeartbeats 1600000 in
set_option maxRecDepth 100000 in
theorem lay_any (lo R : Nat) (vl : Value) (L : List ByteArray) (w : World) (hlo : lo ≤ R) (hR : R < w.heap.size) (hc : ∀ i, i < 26 → w.cell? ⟨R, i, none⟩ = some (.slice none 0 0)) (hf : ∀ o, w.frozen? ⟨R, o, none⟩ = false) (hl : HasT w vl L) (hlen : L.length ≤ 65536) :
    Calls Tryz.prog 43 #[.pointer (some ⟨R, 0, none⟩), vl, .int .i64 40] w fun e w' => ∃ g, e = .returned (.slice (some ⟨g, 0, none⟩) L.length (L.length + 40)) ∧ lo ≤ g ∧ HasT w' (.slice (some ⟨g, 0, none⟩) L.length (L.length + 40)) L ∧ RoomT w' R g L.length ∧ Below lo w w' ∧ w.heap.size ≤ g ∧ ∀ b, b < w.heap.size → b ≠ R → w'.heap[b]? = w.heap[b]? := by
  have h4 := hc 4 (by decide)
  have h5 := hc 5 (by decide)
  have HC : Hid (∀ i, i < 26 → w.cell? ⟨R, i, none⟩ = some (.slice none 0 0)) := hc
  have HF : Hid (∀ o, w.frozen? ⟨R, o, none⟩ = false) := hf
  obtain ⟨i0, hi, hz0, hz1, hz2⟩ := info_parts Tryz.info9
  obtain ⟨ao, cap, hv, hcap⟩ := hl.form
  subst hv
  have HL : Hid (HasT w (.slice ao L.length cap) L) := hl
  have CW := fun i W hi => word_any i W hi
  clear hc hf hl
  go_enter Tryz.func43, Tryz.ntmps43
  go_wp2_with (at_builtin; refine wpList_append_texts rfl (.tmp 10) (.tmp 11) rfl w.heap.size _ _ [] L rfl rfl (owns_lit0 w) (HL.out.below ((Below.refl _ _).alloc (Nat.le_refl _) _)) (by simp; omega) (by simp) ?_)
  intro v1 w1 ho1 hb1
  replace hb1 := ((Below.refl w.heap.size w).alloc (Nat.le_refl _) (.cells #[] 9)).trans hb1
  go_wp2_with fail
  go_loopw [7, 8] (fun v i wr => ∃ k : Nat, k ≤ 40 ∧ i = .int .i64 k ∧ OwnsT wr w.heap.size v (L ++ wordsL k) ∧ Below w.heap.size w wr) (fun _ i _ => 40 - iOf i)
  case atStart => exact ⟨0, Nat.zero_le _, rfl, by simpa [wordsL] using ho1, hb1⟩
  case round =>
    obtain ⟨k, hk, rfl, hown, hb⟩ := hrel
    clear ho1 hb1
    by_cases hk6 : k < 40
    · have hll : (L ++ wordsL k).length = L.length + k := by simp [wordsL_len]
      have C := CW k wr (by omega)
      have hnx : Hid (wordsL (k + 1) = wordsL k ++ [wordB k]) := wordsL_succ k
      obtain ⟨x, hx⟩ : ∃ x, wordB k = x := ⟨_, rfl⟩
      rw [hx] at C hnx
      clear hx
      go_wp2_with (first | (go_at_call 82; refine C.mono ?_; rintro e w2 ⟨rfl, e2⟩; subst e2) | (at_builtin; refine wpList_append_own _ rfl _ _ 42 rfl w.heap.size 9 i0 (.string ⟨#[]⟩) 1 16 Tryz.underlying42 hi hz0 hz1 hz2 rfl (by decide) _ _ _ rfl (World.ownsRow.alloc hown _) ⟨w2.heap.size, 0, none⟩ 1 1 [.string x] rfl rfl ?c1 ?c2 ?c3 ?c4 ?c5 ?_))
      case c1 => exact one_new
      case c2 => intro u hu; simp at hu; subst hu; rfl
      case c3 => unfold maxLen; omega
      case c4 => omega
      case c5 => have := hb.size; simp; omega
      intro v' w3 hown' hgrow _
      have R1 : OwnsT w3 w.heap.size v' (L ++ wordsL (k + 1)) := by
        rw [hnx.out, ← List.append_assoc]
        unfold OwnsT
        simpa [Nat.add_assoc, wordsL_len] using hown'
      have R2 := rel_own hb (fun k hk => (hown.lt k hk).1) hgrow
      clear hown' hgrow hown
      go_wp2
      go_roundw
      case rel => exact ⟨k + 1, by omega, by go_num, R1, R2⟩
      case measure => simp; omega
    · obtain rfl : k = 40 := by omega
      obtain ⟨vo, vc, hvf, hvc⟩ := hown.has.form
      have hll : (L ++ wordsL 40).length = L.length + 40 := by simp [wordsL_len]
      rw [hll] at hvf hvc
      obtain ⟨g, hg, hgw, hgr⟩ : ∃ g, vo = some ⟨g, 0, none⟩ ∧ w.heap.size ≤ g ∧ g < wr.heap.size := by
        have hw := hown.lt
        obtain ⟨_, h | ⟨g, cap', cur, hv, hgb, _⟩⟩ := hown
        · rw [hvf] at h; simp at h
        · rw [hvf] at hv hw
          simp at hv
          refine ⟨g, hv.1, ?_⟩
          have := hw g (by rw [hv.1]; rfl)
          exact this
      subst hg
      have HO : Hid (OwnsT wr w.heap.size _ (L ++ wordsL 40)) := hown
      subst hvf
      have HB : Hid (Below w.heap.size w wr) := hb
      have hRb := hb.block R hR
      have hRr : R < wr.heap.size := Nat.lt_of_lt_of_le hR hb.size
      have k4 : wr.cell? ⟨R, 4, none⟩ = some (.slice none 0 0) := cell_block hRb h4
      have k5 : wr.cell? ⟨R, 5, none⟩ = some (.slice none 0 0) := cell_block hRb h5
      have HC2 : Hid (∀ i, i < 26 → wr.cell? ⟨R, i, none⟩ = some (.slice none 0 0)) := fun i hi => cell_block hRb (HC.out i hi)
      have HF2 : Hid (∀ o, wr.frozen? ⟨R, o, none⟩ = false) := fun o => frozen_block hRb (HF.out o)
      clear hown hll h4 h5 HC HF hi hz0 hz1 hz2 hRb hb
      obtain ⟨i2, hi2, hy0, hy1, hy2⟩ := info_parts Tryz.info42
      obtain ⟨i3, hi3, hx0, hx1, hx2⟩ := info_parts Tryz.info3
      go_wp2_with (at_builtin; refine wpList_append_own _ rfl _ _ 26 rfl wr.heap.size 42 i2 (.slice none 0 0) 1 24 Tryz.underlying26 hi2 hy0 hy1 hy2 rfl (by decide) _ _ _ rfl (World.ownsRow_nil _ _ _ _) ⟨wr.heap.size, 0, none⟩ 1 1 [.slice (some ⟨g, 0, none⟩) (L.length + 40) vc] rfl rfl ?c1 ?c2 ?c3 ?c4 ?c5 ?_)
      case c1 => exact one_new
      case c2 => intro u hu; simp at hu; subst hu; rfl
      case c3 => unfold maxLen; omega
      case c4 => omega
      case c5 => simp
      intro v2 w2 ho2 hg2 _
      have b2 : Below wr.heap.size wr w2 := rel_own (Below.refl _ _) (fun k hk => by simp [Value.ownBlock] at hk) hg2
      obtain ⟨b1, c1, rfl, hb1, hb1w, hc1⟩ := row_one ho2
      have hs2 := b2.size
      have q4 : w2.cell? ⟨R, 4, none⟩ = some (.slice none 0 0) := (b2.cell (p := ⟨R, 4, none⟩) hRr).trans k4
      have q5 : w2.cell? ⟨R, 5, none⟩ = some (.slice none 0 0) := (b2.cell (p := ⟨R, 5, none⟩) hRr).trans k5
      have f4 : w2.frozen? ⟨R, 4, none⟩ = false := (b2.frozen (p := ⟨R, 4, none⟩) hRr).trans (HF2.out 4)
      have HC3 : Hid (∀ i, i < 26 → w2.cell? ⟨R, i, none⟩ = some (.slice none 0 0)) := fun i hi => (b2.cell (p := ⟨R, i, none⟩) hRr).trans (HC2.out i hi)
      have HB2 : Hid (Below wr.heap.size wr w2) := b2
      have HC1 : Hid (w2.cell? ⟨b1, 0, none⟩ = some (.slice (some ⟨g, 0, none⟩) (L.length + 40) vc)) := hc1
      have F5 : Hid (w2.frozen? ⟨R, 5, none⟩ = false) := (b2.frozen (p := ⟨R, 5, none⟩) hRr).trans (HF2.out 5)
      clear b2 ho2 hg2 hc1 k4 k5 HC2 HF2
      go_wp2_with (at_builtin; refine wpList_append_own _ rfl _ _ 24 rfl w2.heap.size 3 i3 (.int .i64 0) 1 8 Tryz.underlying24 hi3 hx0 hx1 hx2 rfl (by decide) _ _ _ rfl (World.ownsRow_nil _ _ _ _) ⟨w2.heap.size, 0, none⟩ 1 1 [.int .i64 L.length] rfl rfl ?c1 ?c2 ?c3 ?c4 ?c5 ?_)
      case c1 =>
        have h := @one_new (w2.setCell ⟨R, 4, none⟩ (.slice (some ⟨b1, 0, none⟩) 1 c1)) (.int .i64 L.length) 3
        rw [size_set] at h
        exact h
      case c2 => intro u hu; simp at hu; subst hu; rfl
      case c3 => unfold maxLen; omega
      case c4 => omega
      case c5 => simp
      intro v4 w4 ho4 hg4 _
      have b4 : Below w2.heap.size (w2.setCell ⟨R, 4, none⟩ (.slice (some ⟨b1, 0, none⟩) 1 c1)) w4 := by
        have := rel_own (w := w2.setCell ⟨R, 4, none⟩ (.slice (some ⟨b1, 0, none⟩) 1 c1)) (Below.refl _ _) (fun k hk => by simp [Value.ownBlock] at hk) hg4
        rw [size_set] at this
        exact this
      obtain ⟨b3, c3, rfl, hb3, hb3w, hc3⟩ := row_one ho4
      have hR2 : R < w2.heap.size := by omega
      have t5 : w4.cell? ⟨R, 5, none⟩ = some (.slice none 0 0) := (b4.cell (p := ⟨R, 5, none⟩) hR2).trans ((World.cell?_setCell_other _ _ _ _ (by simp)).trans q5)
      have t4 : w4.cell? ⟨R, 4, none⟩ = some (.slice (some ⟨b1, 0, none⟩) 1 c1) := (b4.cell (p := ⟨R, 4, none⟩) hR2).trans (World.cell?_setCell_same _ _ _ q4)
      have u5 : w4.frozen? ⟨R, 5, none⟩ = false := (b4.frozen (p := ⟨R, 5, none⟩) hR2).trans ((frozen_setG w2 R 4 5 _).trans F5.out)
      have HFIN : Hid (HasT (w4.setCell ⟨R, 5, none⟩ (.slice (some ⟨b3, 0, none⟩) 1 c3)) (.slice (some ⟨g, 0, none⟩) L.length (L.length + 40)) L ∧ RoomT (w4.setCell ⟨R, 5, none⟩ (.slice (some ⟨b3, 0, none⟩) 1 c3)) R g L.length ∧ Below lo w (w4.setCell ⟨R, 5, none⟩ (.slice (some ⟨b3, 0, none⟩) 1 c3)) ∧ w.heap.size ≤ g ∧ ∀ b, b < w.heap.size → b ≠ R → (w4.setCell ⟨R, 5, none⟩ (.slice (some ⟨b3, 0, none⟩) 1 c3)).heap[b]? = w.heap[b]?) := by
        have hblk : ∀ b, b < w2.heap.size → b ≠ R → (w4.setCell ⟨R, 5, none⟩ (.slice (some ⟨b3, 0, none⟩) 1 c3)).heap[b]? = w2.heap[b]? := fun b hb0 hne =>
          (set_block hne).trans ((b4.block b hb0).trans (set_block hne))
        have hgblk : (w4.setCell ⟨R, 5, none⟩ (.slice (some ⟨b3, 0, none⟩) 1 c3)).heap[g]? = wr.heap[g]? := (hblk g (by omega) (by omega)).trans (HB2.out.block g hgr)
        have ho : (w4.setCell ⟨R, 5, none⟩ (.slice (some ⟨b3, 0, none⟩) 1 c3)).ownsRow w.heap.size 9 1 (.slice (some ⟨g, 0, none⟩) (L.length + 40) vc) (L ++ wordsL 40).length ((L ++ wordsL 40).map Value.string) := row_block HO.out (fun k hk => by
          simp [Value.ownBlock] at hk
          subst hk
          exact hgblk)
        have hcg : ∀ i s, (L ++ wordsL 40)[i]? = some s → (w4.setCell ⟨R, 5, none⟩ (.slice (some ⟨b3, 0, none⟩) 1 c3)).cell? ((⟨g, 0, none⟩ : Addr).add i) = some (.string s) := fun i s hi =>
          World.ownsRow.cells ho (g := g) rfl i (.string s) (by rw [List.getElem?_map, hi]; rfl)
        have hadd : ∀ i, (⟨g, 0, none⟩ : Addr).add i = ⟨g, i, none⟩ := fun i => by
          unfold Addr.add; split
          · rename_i e; rw [e]
          · simp
        refine ⟨.inr ⟨⟨g, 0, none⟩, L.length + 40, rfl, by omega, fun i s hi => hcg i s ?_⟩, ⟨?_, ⟨b1, c1, b3, c3, vc, ?_, ?_, ?_, ?_, by omega, by omega⟩, by omega, fun i _ => ?_, fun i hi => ?_⟩, ?_, hgw, fun b hb0 hne => (hblk b (by have := HB.out.size; omega) hne).trans ((HB2.out.block b (by have := HB.out.size; omega)).trans (HB.out.block b hb0))⟩
        · rw [List.getElem?_append_left (List.getElem?_eq_some_iff.1 hi).1]; exact hi
        · intro i h26 h4 h5
          refine (World.cell?_setCell_other _ _ _ _ (by simp <;> omega)).trans ((b4.cell (p := ⟨R, i, none⟩) hR2).trans ((World.cell?_setCell_other _ _ _ _ (by simp <;> omega)).trans (HC3.out i h26)))
        · exact (World.cell?_setCell_other _ _ _ _ (by simp)).trans t4
        · exact World.cell?_setCell_same _ _ _ t5
        · exact cell_block (hblk b1 hb1w (by omega)) HC1.out
        · exact (World.cell?_setCell_other _ _ _ _ (by simp <;> omega)).trans hc3
        · exact row_frozen (n := L.length + 40) (by have := ho; simp only [List.length_append, wordsL_len] at this; exact this) i
        · have := hcg (L.length + i) (wordB i) (by rw [List.getElem?_append_right (by omega)]; simp [wordsL, List.getElem?_range hi])
          rw [hadd] at this
          exact this
        · exact ((((HB.out.mono (by omega)).trans (HB2.out.mono (by omega))).setCell (p := ⟨R, 4, none⟩) hlo _).trans (b4.mono (by omega))).setCell (p := ⟨R, 5, none⟩) hlo _
      clear b4 ho4 hg4 hc3 HC1 HB2 HC3 q4 q5 f4 t4 HB HO
      go_wp2
      go_ret
      exact ⟨g, rfl, by omega, HFIN.out⟩
set_option maxHeartbeats 800000 in
set_option maxRecDepth 100000 in
theorem roomTexts_any (lo R : Nat) (vl : Value) (L : List ByteArray) (w : World) (hlo : lo ≤ R) (hR : R < w.heap.size) (hc : ∀ i, i < 26 → w.cell? ⟨R, i, none⟩ = some (.slice none 0 0)) (hf : ∀ o, w.frozen? ⟨R, o, none⟩ = false) (hl : HasT w vl L) (hlen : L.length ≤ 65536) :
    Calls Tryz.prog 12 #[.pointer (some ⟨R, 0, none⟩), vl] w fun e w' => ∃ g, e = .returned (.slice (some ⟨g, 0, none⟩) L.length (L.length + 40)) ∧ lo ≤ g ∧ HasT w' (.slice (some ⟨g, 0, none⟩) L.length (L.length + 40)) L ∧ RoomT w' R g L.length ∧ Below lo w w' ∧ w.heap.size ≤ g ∧ ∀ b, b < w.heap.size → b ≠ R → w'.heap[b]? = w.heap[b]? := by
  have C := lay_any lo R vl L w hlo hR hc hf hl hlen
  clear hc hf hl
  go_enter Tryz.func12, Tryz.ntmps12
  go_wp2_with fail
  refine C.mono ?_
  rintro e w1 ⟨g, rfl, h⟩
  have HX : Hid _ := h
  clear h C
  go_wp2
  go_ret
  exact ⟨g, rfl, HX.out⟩
end Go.Proofs.YtnhnggnldhmepaaGreatDoor
