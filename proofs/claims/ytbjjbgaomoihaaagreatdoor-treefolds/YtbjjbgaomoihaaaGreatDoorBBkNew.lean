import Derived.Test.YtbjjbgaomoihaaaGreatDoorBBkMark
import Derived.Test.YtbjjbgaomoihaaaGreatDoorBBkGrow
namespace Go.Proofs.YtbjjbgaomoihaaaGreatDoor.Bk
open Go.RowKit Bk
def Pln (w : World) (b : Nat) : Prop := ∃ cs ty fr, w.heap[b]? = some (.cells cs ty fr)
def BookOk (w : World) (lo K n : Nat) (B : Nat → Prop) : Prop :=
  ∃ T hs ws os, BookSt w lo K T hs ws os n 0 n ∧ (∀ b, B b ↔ T b ≠ 0) ∧ ∀ b, T b ≠ 0 → Pln w b
theorem row_pln {w : World} {lo e n : Nat} {v : Value} {xs : List Value} (h : w.ownsRow lo e 1 v n xs) {b : Nat} (hb : v.ownBlock = some b) : Pln w b := by
  obtain ⟨_, q | ⟨g, cap, cur, hv, _, hh, _⟩⟩ := h
  · rw [q.1] at hb; cases hb
  · rw [hv] at hb
    obtain rfl : g = b := by simpa [Value.ownBlock] using hb
    exact ⟨_, _, _, hh⟩
theorem has_pln {w : World} {v : Value} {l : List Value} (h : HasV w v l) {b : Nat} (hb : v.ownBlock = some b) : Pln w b := by
  rcases h with ⟨rfl, _⟩ | ⟨a, cap, rfl, _, _, h⟩
  · cases hb
  · obtain rfl : a.block = b := by simpa [Value.ownBlock] using hb
    obtain ⟨cs, ty, h⟩ := h; exact ⟨_, _, _, h⟩
def tidy (w : World) (T : Nat → Nat) : Nat → Nat := fun b => match w.heap[b]? with
  | some (.cells _ _ _) => T b
  | _ => 0
theorem tidy_yes {w : World} {T : Nat → Nat} {b : Nat} (h : Pln w b) : tidy w T b = T b := by
  obtain ⟨cs, ty, fr, h⟩ := h
  simp only [tidy, h]
theorem tidy_ne {w : World} {T : Nat → Nat} {b : Nat} (h : tidy w T b ≠ 0) : T b ≠ 0 ∧ Pln w b := by
  unfold tidy at h
  split at h
  · rename_i cs ty fr h1; exact ⟨h, cs, ty, fr, h1⟩
  · exact absurd rfl h
theorem tidy_zero {w : World} {T : Nat → Nat} {b : Nat} (h : T b = 0) : tidy w T b = 0 := by unfold tidy; split <;> first | exact h | rfl
theorem pln_cell {w : World} {b o : Nat} {u : Value} (h : w.cell? ⟨b, o, none⟩ = some u) : Pln w b := by
  unfold World.cell? at h
  simp only at h
  split at h
  · rename_i cs ty fr h1; exact ⟨_, _, _, h1⟩
  · cases h
theorem tidy_st {w : World} {lo K n : Nat} {T : Nat → Nat} {hs : List Value} {ws : List (Lst ByteArray)} {os : List (Bk.Ot ByteArray)} (h : BookSt w lo K T hs ws os n 0 n) : BookSt w lo K (tidy w T) hs ws os n 0 n := by
  have hK : Pln w K := by
    exact pln_cell (h.rows.rest 0 (by decide) (by decide))
  have tg : ∀ {v : Value} {t : Nat}, (∀ b, v.ownBlock = some b → Pln w b) → Tg w T v t → Tg w (tidy w T) v t := fun hp k b hb => ⟨(k b hb).1, (tidy_yes (hp b hb)).trans (k b hb).2⟩
  refine ⟨h.rows.retag ((tidy_yes hK).trans h.rows.tK) (fun b hb => tidy_zero (h.rows.low b hb)) (fun j hj b _ hb => (tidy_yes (row_pln (h.rows.row j hj) hb)).trans (h.rows.tag j hj b hb)), ?_, h.ids, h.tags, h.nw, h.no⟩
  have ow : ∀ {x : Lst ByteArray}, x.own Value.string 9 w lo T → x.own Value.string 9 w lo (tidy w T) := fun k => ⟨k.1, tg (fun b hb => row_pln k.1 hb) k.2.1, k.2.2⟩
  have ok : ∀ {x : Lst ByteArray}, x.ok Value.string 9 w lo T → x.ok Value.string 9 w lo (tidy w T) := fun k => ⟨ow k.1, k.2.1, tg (fun b hb => row_pln k.2.1 hb) k.2.2.1, k.2.2.2⟩
  exact ⟨fun x hx => ok (h.kp.waits x hx), fun x hx => ⟨(h.kp.outs x hx).1, (h.kp.outs x hx).2.1, tg (fun b hb => has_pln (h.kp.outs x hx).1 hb) (h.kp.outs x hx).2.2.1, tg (fun b hb => has_pln (h.kp.outs x hx).2.1 hb) (h.kp.outs x hx).2.2.2.1, (h.kp.outs x hx).2.2.2.2⟩,
    fun x hx => ow (h.kp.fresh x hx), fun x hx => ok (h.kp.rests x hx), fun x hx => (by cases hx), h.kp.ids, h.kp.apart, h.kp.link⟩
theorem BookOk.keep {w w' : World} {lo K n : Nat} {B : Nat → Prop} (h : BookOk w lo K n B) (hs : w.heap.size ≤ w'.heap.size) (hb : ∀ b, B b → w'.heap[b]? = w.heap[b]?) (ho : w'.os = w.os) (ht : w'.tape = w.tape) (hu : w'.output = w.output) : BookOk w' lo K n B := by
  obtain ⟨T, hs', ws, os, bk, hB, hz⟩ := h
  have F : Frm T (fun t => t = 0) w w' := ⟨ho, ht, hu, hs, fun b _ hn => hb b ((hB b).2 hn)⟩
  exact ⟨T, hs', ws, os, ⟨bk.rows.frm F (fun t h1 _ => by omega), bk.kp.frm F (fun t h1 => by omega) (fun _ _ => rfl), bk.ids, bk.tags, bk.nw, bk.no⟩, hB, fun b h => by obtain ⟨cs, ty, fr, h1⟩ := hz b h; exact ⟨cs, ty, fr, (hb b ((hB b).2 h)).trans h1⟩⟩
theorem BookOk.lt {w : World} {lo K n : Nat} {B : Nat → Prop} (h : BookOk w lo K n B) : ∀ b, B b → b < w.heap.size := by
  obtain ⟨T, hs', ws, os, bk, hB, hz⟩ := h
  intro b hb
  obtain ⟨cs, ty, fr, h⟩ := hz b ((hB b).1 hb)
  exact (Array.getElem?_eq_some_iff.1 h).1
theorem BookOk.pln {w : World} {lo K n : Nat} {B : Nat → Prop} (h : BookOk w lo K n B) {b : Nat} (hb : B b) : Pln w b := by
  obtain ⟨T, hs', ws, os, bk, hB, hz⟩ := h
  exact hz b ((hB b).1 hb)
theorem BookOk.ge {w : World} {lo K n : Nat} {B : Nat → Prop} (h : BookOk w lo K n B) : ∀ b, B b → lo ≤ b := by
  obtain ⟨T, hs', ws, os, bk, hB, hz⟩ := h
  intro b hb
  rcases Nat.lt_or_ge b lo with h | h
  · exact absurd (bk.rows.low b h) ((hB b).1 hb)
  · exact h
theorem idle_of {w : World} {lo K : Nat} {T : Nat → Nat} {hs : List Value} {X : List (List Value)} {turn deep seen : Nat} (R : Bk.Rows 22 tyB w lo K T hs X (zB turn deep seen)) : Idle w K := fun i h1 h2 h3 => by
  have := R.rest i h2 (by omega)
  rw [this]
  simp only [zB]
  rw [if_neg (by omega), if_neg (by omega), if_neg (by omega), if_neg (by omega)]
theorem hs8 {hs : List Value} (h : hs.length = 8) : ∃ a b c d e f g i, hs = [a, b, c, d, e, f, g, i] := by
  match hs, h with
  | [a, b, c, d, e, f, g, i], _ => exact ⟨a, b, c, d, e, f, g, i, rfl⟩
theorem bookHoldOk (w : World) (lo K n : Nat) (B : Nat → Prop) (h : BookOk w lo K n B) (hn : n ≤ 200000) :
    Calls Tryz.prog 23 #[.pointer (some ⟨K, 0, none⟩)] w fun e w' => e = .returned (.bool true) ∧ ∃ n, w' = w.drewN n := by
  obtain ⟨T, hs, ws, os, bk, -, -⟩ := h
  obtain ⟨hO, hT, hW, hN, hF, hM, hD, hR, rfl⟩ := hs8 bk.rows.nh
  have hasI : ∀ (v : Value) (c : List ByteArray), HasV w v (c.map Value.string) → HasT w v c := fun v c h => by
    rcases h with ⟨h1, h2⟩ | ⟨a, k, h1, h2, h3, _⟩
    · exact .inl ⟨h1, by simpa using h2⟩
    · rw [List.length_map] at h1 h2
      exact .inr ⟨a, k, h1, h2, fun i x hi => h3 i _ (by rw [List.getElem?_map, hi]; rfl)⟩
  have r0 := bk.rows.row 0 (by decide)
  have r1 := bk.rows.row 1 (by decide)
  have r2 := bk.rows.row 2 (by decide)
  have r3 := bk.rows.row 3 (by decide)
  simp only [XB, List.getD_cons_succ, List.getD_cons_zero, List.length_map] at r0 r1 r2 r3
  have hno := bk.no
  have hnw := bk.nw
  refine bookHold_any lo K (os.map fun o => ⟨o.v, o.tv, o.c⟩) (ws.map fun x => ⟨x.v, x.nv, x.c⟩) hO hT hW hN w (bk.rows.rest 1 (by decide) (by decide)) (idle_of bk.rows) (bk.rows.cell 0 (by decide)) (bk.rows.cell 1 (by decide)) (bk.rows.cell 2 (by decide)) (bk.rows.cell 3 (by decide)) ?_ ?_ ?_ ?_ ?_ ?_ ?_ ?_
  · simpa [tyB, Function.comp_def] using r0
  · simpa [tyB, Function.comp_def] using r1
  · simpa [tyB, Function.comp_def] using r2
  · simpa [tyB, Function.comp_def] using r3
  · intro x hx
    obtain ⟨o, ho, rfl⟩ := List.mem_map.1 hx
    have k := bk.kp.outs o ho
    exact ⟨hasI _ _ k.1, hasI _ _ k.2.1, k.2.2.2.2.2⟩
  · intro x hx
    obtain ⟨o, ho, rfl⟩ := List.mem_map.1 hx
    have k := bk.kp.waits o ho
    exact ⟨OwnsT.has (lo := lo) k.1.1, OwnsT.has (lo := lo) k.2.1, by have := k.1.2.2.1; show o.c.length ≤ _; omega⟩
  · simp; omega
  · simp; omega
theorem bookTextsOk (w : World) (lo K n : Nat) (B : Nat → Prop) (v : Value) (c : List ByteArray) (mark : Nat) (h : BookOk w lo K n B) (hv : OwnsT w lo v c) (hf : ∀ b, v.ownBlock = some b → ¬ B b) (hc : c.length ≤ 1000000) (hm : mark ≤ 100000000) (hn : n ≤ 200000) (htb : Tb lo w) :
    Calls Tryz.prog 22 #[.pointer (some ⟨K, 0, none⟩), v, .int .i64 mark] w fun e w' => e = .returned (.tuple #[]) ∧ ∃ B', BookOk w' lo K (n + 1) B' ∧ Below lo w w' ∧
      ∀ b, b < w.heap.size → ¬ B b → v.ownBlock ≠ some b → w'.heap[b]? = w.heap[b]? ∧ ¬ B' b := by
  obtain ⟨T, hs, ws, os, bk, hB, hz⟩ := h
  refine bookTexts_by w lo K T hs ws os n n v c mark _ bk hv (fun b hb => by have := hf b hb; rw [hB b] at this; omega) hc hm (by omega) (by omega) ?_
  intro w1 T1 hs1 ws1 b1 f1 t1
  obtain ⟨w2, e2⟩ : ∃ w2, w1.setCell ⟨K, 3, none⟩ (.int .i64 0) = w2 := ⟨_, rfl⟩
  obtain ⟨hO, hT, hW, hN, hF, hM, hD, hR, rfl⟩ := hs8 b1.rows.nh
  have b2 : BookSt w2 lo K T1 [hO, hT, hW, hN, hF, hM, hD, hR] ws1 os n 0 (n + 1) := by
    obtain ⟨r, l, -⟩ := put2 b1.rows b1.kp 3 (by decide) (by decide) (.int .i64 0)
    rw [e2] at r l
    refine ⟨r.zext ?_, l, b1.ids, b1.tags, b1.nw, b1.no⟩
    intro o h1 h2
    simp only [zB]
    by_cases h3 : o = 3
    · subst h3; simp
    · simp [h3]
  have f2 : Frm T1 (fun t => t = 1) w1 w2 := by
    have := Frm.set (T := T1) (w := w1) (K := K) (o := 3) (.int .i64 0)
    rw [b1.rows.tK] at this
    rw [← e2]; exact this
  have hlw : lo ≤ w.heap.size := by have := bk.rows.ge; have := bk.rows.lt; omega
  have q1 : Below lo w w1 := f1.below fun x hx => ⟨by omega, by
    have : v.ownBlock ≠ some x := fun e => by have := (World.ownsRow.lt hv x e).1; omega
    rw [adopt_other this, bk.rows.low x hx]; simp⟩
  have q2 : Below lo w1 w2 := f2.below fun x hx => ⟨by have := f1.size; omega, by rw [b1.rows.low x hx]; omega⟩
  have ht2 : Tb lo w2 := htb.on (q1.trans q2)
  have hl2 : lo ≤ w2.heap.size := by have := q1.size; have := q2.size; omega
  have hG : ∀ w3, (∃ T' hs' ws' os' fr', Mid w2 T1 lo K (zB n 0 (n + 1)) w3 T' hs' (XB ws' os' fr') ws' os' fr' [] [] ∧ fr'.length + ws'.length ≤ ws1.length ∧ os'.length + ws'.length ≤ os.length + ws1.length ∧ fr'.length ≤ ws1.length ∧ (∀ x ∈ ws', x.id < n + 1) ∧ (∀ x ∈ fr', x.id < n + 1) ∧ (∀ o ∈ os', o.tag < 11 + (n + 1))) →
      Calls Tryz.prog 120 #[.pointer (some ⟨K, 0, none⟩)] w3 fun e w' => e = .returned (.tuple #[]) ∧ ∃ T' hs' ws' os', Mid w2 T1 lo K (zB n 0 (n + 1)) w' T' hs' (XB ws' os' []) ws' os' [] [] [] ∧ ws'.length ≤ n + 1 ∧ os'.length + 2 * ws'.length ≤ 2 * (n + 1) ∧ (∀ x ∈ ws', x.id < n + 1) ∧ (∀ o ∈ os', o.tag < 11 + (n + 1)) := by
    rintro w3 ⟨T', hs', ws', os', fr', M, l1, l2, l3, i1, i2, i3⟩
    obtain ⟨a0, a1, a2, a3, a4, a5, a6, a7, rfl⟩ := hs8 M.rows.nh
    have hno := b1.no
    have hnw := b1.nw
    refine (growTexts_any w2 T1 w3 lo K T' a0 a1 a2 a3 a4 a5 a6 a7 ws' os' fr' n (n + 1) M i3 i2 (by omega) (by omega) hl2 ht2).mono ?_
    rintro e w4 ⟨rfl, T4, hs4, os4, M4, l4, i4⟩
    exact ⟨rfl, T4, hs4, ws', os4, M4, by omega, by omega, i1, i4⟩
  have hD' := done_by K n w1 _ _ (b1.rows.rest 3 (by decide) (by decide)) b1.rows.fz (by omega)
    (marks_by K _ _ (by rw [e2]; exact markTexts_any w2 lo K T1 hO hT hW hN hF hM hD hR ws1 os n (n + 1) b2 (by omega) ht2) (by
      rintro w' ⟨T', hs', ws', os', fr', M, -⟩
      exact idle_of M.rows) (by rw [e2]; exact idle_of b2.rows))
    (fun w3 h3 => grows_by K w3 _ (hG w3 h3) (by
      rintro w' ⟨T', hs', ws', os', M, -⟩
      exact ⟨idle_of M.rows, M.rows.fz⟩) (by
      obtain ⟨T', hs', ws', os', fr', M, -⟩ := h3
      exact idle_of M.rows) (by
      obtain ⟨T', hs', ws', os', fr', M, -⟩ := h3
      exact M.rows.fz))
    (by
      rintro w' ⟨T', hs', ws', os', M, -⟩
      exact ⟨M.rows.rest 2 (by decide) (by decide), M.rows.fz⟩)
  refine hD'.mono ?_
  rintro e w' ⟨rfl, w4, ⟨T', hs', ws', os', M, l1, l2, i1, i2⟩, rfl⟩
  refine ⟨rfl, ?_⟩
  have M5 := M.put 2 (by decide) (by decide) (.int .i64 ((n + 1 : Nat) : Int))
  generalize e5 : w4.setCell ⟨K, 2, none⟩ (.int .i64 ((n + 1 : Nat) : Int)) = w5 at *
  have s1 := f1.size
  have s2 := f2.size
  have s5 := M5.frm.size
  have ad : ∀ b, b < w.heap.size → ¬ B b → v.ownBlock ≠ some b → T b = 0 ∧ adopt T v 10 b = 0 ∧ T1 b = 0 ∧ T' b = 0 := fun b h1 h2 h3 => by
    have h4 : T b = 0 := by rw [hB b] at h2; omega
    have h5 : T1 b = 0 := by rw [t1 b h1 h3]; exact h4
    exact ⟨h4, by rw [adopt_other h3]; exact h4, h5, (M5.zero b (by omega)).2 h5⟩
  refine ⟨fun b => tidy w5 (cap T' w5.heap.size) b ≠ 0, ⟨tidy w5 (cap T' w5.heap.size), hs', ws', os', tidy_st ⟨?_, ?_, i1, i2, l1, l2⟩, fun b => Iff.rfl, fun b hb => (tidy_ne hb).2⟩, ?_, ?_⟩
  · refine (M5.rows.ext (T' := cap T' w5.heap.size) fun b hb => cap_old hb).zext ?_
    intro o h1 h2
    simp only [zB]
    by_cases h3 : o = 2
    · subst h3; simp
    · simp [h3]
  · exact M5.kp.frm (Frm.refl _ (fun _ => False) _) (fun _ _ h => h) fun b hb => cap_old hb
  · skip
    have q3 : Below lo w2 w5 := M5.frm.below fun x hx => ⟨by omega, by rw [b1.rows.low x hx]; simp⟩
    exact (q1.trans q2).trans q3
  · intro b h1 h2 h3
    obtain ⟨h4, h5, h6, h7⟩ := ad b h1 h2 h3
    refine ⟨?_, ?_⟩
    · rw [M5.frm.block b (by omega) (by rw [h6]; simp), f2.block b (by omega) (by rw [h6]; omega), f1.block b h1 (by rw [h5]; simp)]
    · show ¬ (tidy w5 (cap T' w5.heap.size) b ≠ 0)
      rw [tidy_zero (by rw [cap_old (by omega), h7])]; simp
def bookObj : Obj := .cells #[Value.bool false, Value.bool false, Value.int .i64 0, Value.int .i64 0, Value.slice none 0 0, Value.slice none 0 0, Value.slice none 0 0, Value.slice none 0 0, Value.slice none 0 0, Value.slice none 0 0, Value.slice none 0 0, Value.slice none 0 0, Value.int .i64 0, Value.slice none 0 0, Value.slice none 0 0, Value.slice none 0 0, Value.slice none 0 0, Value.slice none 0 0, Value.slice none 0 0, Value.slice none 0 0, Value.slice none 0 0, Value.int .i64 0, Value.slice none 0 0, Value.slice none 0 0, Value.slice none 0 0, Value.slice none 0 0, Value.slice none 0 0, Value.slice none 0 0, Value.slice none 0 0, Value.slice none 0 0, Value.int .i64 0, Value.slice none 0 0, Value.slice none 0 0, Value.slice none 0 0, Value.slice none 0 0, Value.slice none 0 0, Value.slice none 0 0, Value.slice none 0 0, Value.slice none 0 0, Value.int .i64 0, Value.slice none 0 0, Value.slice none 0 0, Value.slice none 0 0, Value.slice none 0 0, Value.slice none 0 0, Value.slice none 0 0, Value.slice none 0 0, Value.slice none 0 0, Value.int .i64 0, Value.slice none 0 0, Value.slice none 0 0, Value.slice none 0 0, Value.slice none 0 0, Value.slice none 0 0, Value.slice none 0 0, Value.slice none 0 0, Value.slice none 0 0, Value.int .i64 0, Value.slice none 0 0, Value.slice none 0 0, Value.slice none 0 0, Value.slice none 0 0, Value.slice none 0 0, Value.slice none 0 0, Value.slice none 0 0, Value.slice none 0 0, Value.int .i64 0, Value.slice none 0 0, Value.slice none 0 0, Value.slice none 0 0, Value.slice none 0 0, Value.slice none 0 0, Value.slice none 0 0, Value.slice none 0 0, Value.slice none 0 0, Value.int .i64 0, Value.slice none 0 0, Value.slice none 0 0, Value.slice none 0 0, Value.slice none 0 0, Value.slice none 0 0, Value.slice none 0 0, Value.slice none 0 0, Value.slice none 0 0, Value.int .i64 0, Value.slice none 0 0, Value.slice none 0 0, Value.slice none 0 0, Value.slice none 0 0, Value.slice none 0 0, Value.slice none 0 0, Value.slice none 0 0, Value.slice none 0 0, Value.int .i64 0, Value.slice none 0 0, Value.slice none 0 0, Value.slice none 0 0, Value.slice none 0 0, Value.slice none 0 0, Value.slice none 0 0, Value.slice none 0 0, Value.slice none 0 0, Value.int .i64 0, Value.slice none 0 0, Value.slice none 0 0, Value.slice none 0 0, Value.slice none 0 0, Value.slice none 0 0, Value.slice none 0 0, Value.slice none 0 0, Value.slice none 0 0, Value.int .i64 0, Value.slice none 0 0, Value.slice none 0 0, Value.slice none 0 0, Value.slice none 0 0, Value.slice none 0 0, Value.slice none 0 0, Value.slice none 0 0, Value.slice none 0 0, Value.int .i64 0, Value.slice none 0 0, Value.slice none 0 0, Value.slice none 0 0, Value.slice none 0 0, Value.slice none 0 0, Value.slice none 0 0, Value.slice none 0 0, Value.slice none 0 0, Value.int .i64 0, Value.slice none 0 0, Value.slice none 0 0, Value.slice none 0 0, Value.slice none 0 0, Value.slice none 0 0, Value.slice none 0 0, Value.slice none 0 0, Value.slice none 0 0, Value.int .i64 0, Value.slice none 0 0, Value.slice none 0 0, Value.slice none 0 0, Value.slice none 0 0, Value.slice none 0 0, Value.slice none 0 0, Value.slice none 0 0, Value.slice none 0 0, Value.int .i64 0] 55
def bookCell (i : Nat) : Value := if 22 ≤ i ∧ i < 30 then .slice none 0 0 else zB 0 0 0 i
theorem bookObj_eq : bookObj = .cells ((List.range 148).map bookCell).toArray 55 := by kernel_rfl
theorem book_new (w : World) (lo : Nat) (hlo : lo ≤ w.heap.size) : BookOk (w.alloc bookObj) lo w.heap.size 0 (fun b => b = w.heap.size) := by
  have h : (w.alloc bookObj).heap[w.heap.size]? = some bookObj := heap_alloc_new w bookObj
  have hc : ∀ i, i < 148 → (w.alloc bookObj).cell? ⟨w.heap.size, i, none⟩ = some (bookCell i) := fun i hi => by
    rw [bookObj_eq] at h ⊢
    simp only [World.cell?, h]
    show ((List.range 148).map bookCell).toArray[i]? = _
    rw [List.getElem?_toArray, List.getElem?_map, List.getElem?_range hi]
    rfl
  have hz : ∀ j, j < 8 → [nil0, nil0, nil0, nil0, nil0, nil0, nil0, nil0].getD j nil0 = nil0 := fun j hj => by
    match j, hj with
    | 0, _ | 1, _ | 2, _ | 3, _ | 4, _ | 5, _ | 6, _ | 7, _ => rfl
  have hx : ∀ j, (XB [] [] []).getD j [] = [] := fun j => by
    match j with
    | 0 | 1 | 2 | 3 | 4 | 5 | 6 | 7 => rfl
    | n + 8 => rfl
  refine ⟨fun b => if b = w.heap.size then 1 else 0, [nil0, nil0, nil0, nil0, nil0, nil0, nil0, nil0], [], [], ⟨⟨hlo, by simp, fun b hb => by rw [if_neg (by omega)], by simp, fun o => ?_, rfl, rfl, fun j hj => ?_, fun j hj => ?_, fun j hj b he => ?_, fun o h1 h2 => ?_⟩, ⟨by simp, by simp, by simp, by simp, by simp, by simp, by simp, by simp⟩, by simp, by simp, by simp, by simp⟩, fun b => ?_, fun b hb => ?_⟩
  · simp only [World.frozen?, h]
    simp [bookObj]
  · rw [hz j hj, hc (22 + j) (by omega), bookCell, if_pos (by omega)]
  · rw [hz j hj, hx j]
    exact World.ownsRow_nil _ _ _ _
  · rw [hz j hj] at he
    simp [Value.ownBlock] at he
  · rw [hc o h1, bookCell, if_neg (by omega)]
  · by_cases e : b = w.heap.size <;> simp [e]
  · obtain rfl : b = w.heap.size := by
      by_cases e : b = w.heap.size
      · exact e
      · exact absurd (if_neg e) hb
    exact ⟨_, _, _, h.trans (congrArg some bookObj_eq)⟩
def bookCells : Array Value := ((List.range 148).map bookCell).toArray
theorem built41 : Tryz.prog.built 55 [] = some bookCells := by kernel_rfl
theorem wpList_book {ops : Array Oper} {rest : List Oper} {o1 o2 : Oper} {a : Act} {w : World} {Q : Exit → Act → World → Prop} (h1 : o1.guard = none) (h2 : o2.guard = none) (ho1 : o1.op = .build 55 #[]) (x : Operand) (ho2 : o2.op = .box 55 x)
    (hx : (a.put o1.dst (.agg bookCells)).eval x = .agg bookCells)
    (h : wpList Tryz.prog ops Q rest ((a.put o1.dst (.agg bookCells)).put o2.dst (.pointer (some ⟨w.heap.size, 0, none⟩))) (w.alloc bookObj)) : wpList Tryz.prog ops Q (o1 :: o2 :: rest) a w := by
  have em : (Array.map (fun (p : Nat × Operand) => (p.1, a.eval p.2)) #[]).toList = [] := by simp
  refine wpList_build h1 55 #[] ho1 (by rw [em, built41]; simp only [Option.isSome_some]) ?_
  rw [em, built41, Option.getD_some]
  refine wpList_plain h2 fun K hK => ?_
  unfold Oper.wp execOp
  have ec : (Value.agg bookCells).cells = bookCells := rfl
  simp only [ho2, hx, Instr.box, newVar, Sem.run_bind, Sem.run_pure, ec]
  rw [bookObj_eq] at h
  have hr : (newRow 55 bookCells).run Tryz.prog w = .ok ⟨w.heap.size, 0, none⟩ (w.alloc (.cells bookCells 55)) := by simp [newRow]
  rw [hr]
  exact hK _ _ h
end Go.Proofs.YtbjjbgaomoihaaaGreatDoor.Bk
