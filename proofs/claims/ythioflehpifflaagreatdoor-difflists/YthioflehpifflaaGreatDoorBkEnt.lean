/-
  THE BOOK's Bytes: a list is noted.
-/
import Derived.Test.YthioflehpifflaaGreatDoorBkLaws
import Derived.Deep.DeepCutAuto
import Derived.Deep.RegionLaw
namespace Go.Proofs.YthioflehpifflaaGreatDoor
open Go.RowKit Bk

/-- What the eight rows hold. -/
def XB (ws : List (Lst Ru)) (os : List (Bk.Ot Ru)) (fr : List (Lst Ru)) : List (List Value) :=
  [os.map (·.v), os.map (·.tv), ws.map (·.v), ws.map (·.nv), fr.map (·.v), ws.map (fun x => .int .i64 x.mark), ws.map (fun x => .int .i64 x.due), fr.map (fun x => .int .i64 x.mark)]

/-- The Book at K between two calls. -/
structure BookSt (w : World) (lo K : Nat) (T : Nat → Nat) (hs : List Value) (ws : List (Lst Ru)) (os : List (Bk.Ot Ru)) (turn deep seen : Nat) : Prop where
  rows : Bk.Rows 40 tyB w lo K T hs (XB ws os []) (zB turn deep seen)
  kp : Kp rcs 55 w lo T ws os [] [] []
  ids : ∀ x ∈ ws, x.id < seen
  tags : ∀ o ∈ os, o.tag < 11 + seen
  nw : ws.length ≤ seen
  no : os.length + 2 * ws.length ≤ 2 * seen

set_option maxHeartbeats 1600000 in
set_option maxRecDepth 100000 in
theorem bookChanges_by (w : World) (lo K : Nat) (T : Nat → Nat) (hs : List Value) (ws : List (Lst Ru)) (os : List (Bk.Ot Ru)) (turn seen : Nat) (v : Value) (c : List Ru) (mark : Nat) (Q : World → Prop)
    (bk : BookSt w lo K T hs ws os turn 0 seen) (hv : OwnsR w lo v c) (hf : ∀ b, v.ownBlock = some b → T b = 0) (hc : c.length ≤ 1000000) (hm : mark ≤ 100000000) (hturn : turn ≤ 300000) (hseen : seen ≤ 300000)
    (hD : ∀ (w1 : World) (T1 : Nat → Nat) (hs1 : List Value) (ws1 : List (Lst Ru)), BookSt w1 lo K T1 hs1 ws1 os turn 1 (seen + 1) → Frm (adopt T v 10) (fun t => t ≠ 0) w w1 → (∀ b, b < w.heap.size → v.ownBlock ≠ some b → T1 b = T b) →
      Calls Tryz.prog 57 #[.pointer (some ⟨K, 0, none⟩)] w1 fun e w' => e = .returned (.tuple #[]) ∧ Q w') :
    Calls Tryz.prog 19 #[.pointer (some ⟨K, 0, none⟩), v, .int .i64 mark] w fun e w' => e = .returned (.tuple #[]) ∧ Q w' := by
  obtain ⟨hO, hT, hW, hN, hF, hM, hDu, hR, rfl⟩ : ∃ a b c d e f g h, hs = [a, b, c, d, e, f, g, h] := by
    have := bk.rows.nh
    match hs, this with
    | [a, b, c, d, e, f, g, h], _ => exact ⟨a, b, c, d, e, f, g, h, rfl⟩
  obtain ⟨pv, cv, rfl⟩ := hv.form
  have HD : Hid (∀ (w1 : World) (T1 : Nat → Nat) (hs1 : List Value) (ws1 : List (Lst Ru)), BookSt w1 lo K T1 hs1 ws1 os turn 1 (seen + 1) → Frm (adopt T (.slice pv c.length cv) 10) (fun t => t ≠ 0) w w1 → (∀ b, b < w.heap.size → (Value.slice pv c.length cv).ownBlock ≠ some b → T1 b = T b) →
      Calls Tryz.prog 57 #[.pointer (some ⟨K, 0, none⟩)] w1 fun e w' => e = .returned (.tuple #[]) ∧ Q w') := hD
  clear hD
  have HB : Hid (BookSt w lo K T [hO, hT, hW, hN, hF, hM, hDu, hR] ws os turn 0 seen) := bk
  have HV : Hid (OwnsR w lo (.slice pv c.length cv) c) := hv
  have HF : Hid (∀ b, (Value.slice pv c.length cv).ownBlock = some b → T b = 0) := hf
  have c3 : w.cell? ⟨K, 3, none⟩ = some (.int .i64 0) := bk.rows.rest 3 (by decide) (by decide)
  have fK : ∀ o, w.frozen? ⟨K, o, none⟩ = false := bk.rows.fz
  clear bk hv hf
  obtain ⟨w1, e1⟩ : ∃ w1, w.setCell ⟨K, 3, none⟩ (.int .i64 1) = w1 := ⟨_, rfl⟩
  -- the list is taken in
  let x : Lst Ru := ⟨.slice pv c.length cv, c, nil0, mark, 0, seen⟩
  have LA : Kp rcs 55 w lo (adopt T (.slice pv c.length cv) (11 + seen)) ws os [x] [] [] :=
    HB.out.kp.adopt (x := x) (by have := HV.out; unfold OwnsR at this; exact this) HF.out hc hm (fun y hy => by have := HB.out.ids y hy; show y.id ≠ seen; omega) (fun y hy => by have := HB.out.tags y hy; show y.tag ≠ 11 + seen; omega)
  have RA : Bk.Rows 40 tyB w lo K (adopt T (.slice pv c.length cv) (11 + seen)) [hO, hT, hW, hN, hF, hM, hDu, hR] (XB ws os []) (zB turn 0 seen) := by
    have r := HB.out.rows
    have ne : ∀ b, T b ≠ 0 → (Value.slice pv c.length cv).ownBlock ≠ some b := fun b hb e => hb (HF.out b e)
    exact r.retag (by rw [adopt_other (ne K (by rw [r.tK]; omega))]; exact r.tK) (fun b hb => by
      by_cases e : (Value.slice pv c.length cv).ownBlock = some b
      · have := (World.ownsRow.lt HV.out b e).1; omega
      · rw [adopt_other e]; exact r.low b hb) (fun j hj b _ he => by
      have := r.tag j hj b he
      rw [adopt_other (ne b (by omega))]; exact this)
  obtain ⟨R1, L1, F1⟩ := put2 RA LA 3 (by decide) (by decide) (.int .i64 1)
  rw [e1] at R1 L1 F1
  have R1' : Bk.Rows 40 tyB w1 lo K (adopt T (.slice pv c.length cv) (11 + seen)) [hO, hT, hW, hN, hF, hM, hDu, hR] (XB ws os []) (zB turn 1 seen) := R1.zext (by
    intro o h1 h2
    simp only [zB]
    split
    · rename_i h; subst h; simp
    · split <;> first | rfl | (split <;> first | rfl | (split <;> first | rfl | omega)))
  have HR1 : Hid (Bk.Rows 40 tyB w1 lo K (adopt T (.slice pv c.length cv) (11 + seen)) [hO, hT, hW, hN, hF, hM, hDu, hR] (XB ws os []) (zB turn 1 seen)) := R1'
  have HL1 : Hid (Kp rcs 55 w1 lo (adopt T (.slice pv c.length cv) (11 + seen)) ws os [x] [] []) := L1
  have HF1 : Hid (Frm (adopt T (.slice pv c.length cv) (11 + seen)) (fun t => t = 1) w w1) := F1
  clear R1 R1' L1 F1 RA LA
  have d6 : w1.cell? ⟨K, 42, none⟩ = some hW := HR1.out.cell 2 (by decide)
  have fK1 : ∀ o, w1.frozen? ⟨K, o, none⟩ = false := HR1.out.fz
  have hWl : ws.length ≤ 1000000 := by have := HB.out.nw; omega
  obtain ⟨pW, kW, eW⟩ := row_form (HR1.out.row 2 (by decide))
  simp only [XB, List.getD_cons_succ, List.getD_cons_zero, List.length_map] at eW
  subst eW
  go_enter Tryz.func19, Tryz.ntmps19
  go_wp2_with (at_builtin; refine append_rowL rfl _ _ rfl HR1.out 2 42 ws.length (by decide) rfl (by simp [XB]) hWl ((Below.refl _ _).alloc (Nat.le_refl _) _) (.slice pv c.length cv) rfl rfl _ rfl ?c1 ?_)
  case c1 => simp
  intro p2 c2 w2 G2
  obtain ⟨w3, e3⟩ : ∃ w3, w2.setCell ⟨K, 42, none⟩ (.slice p2 (ws.length + 1) c2) = w3 := ⟨_, rfl⟩
  obtain ⟨T3, eT3⟩ : ∃ T3, upr (up (adopt T (.slice pv c.length cv) (11 + seen)) (w1.heap.size + 1) 4) w3.heap.size 10 = T3 := ⟨_, rfl⟩
  have R3 := G2.rows
  have L3 := G2.kp HL1.out
  have F3 := G2.frm
  have q2 := G2.cell
  have q2f := G2.fz
  have es : (w1.alloc (.cells #[.slice pv c.length cv] 22)).heap.size = w1.heap.size + 1 := by simp
  rw [e3] at R3 L3 F3
  rw [es] at R3 L3
  have HR3 : Hid (Bk.Rows 40 tyB w3 lo K T3 [hO, hT, .slice p2 (ws.length + 1) c2, hN, hF, hM, hDu, hR] [os.map (·.v), os.map (·.tv), (ws ++ [x]).map (·.v), ws.map (·.nv), [], ws.map (fun x => .int .i64 x.mark), ws.map (fun x => .int .i64 x.due), []] (zB turn 1 seen)) := by
    subst eT3
    have := R3.ext (T' := upr (up (adopt T (.slice pv c.length cv) (11 + seen)) (w1.heap.size + 1) 4) w3.heap.size 10) fun b hb => upr_old hb
    simp only [XB, List.map_append, List.map_cons, List.map_nil] at this ⊢
    exact this
  have HL3 : Hid (Kp rcs 55 w3 lo T3 ws os [x] [] []) := by
    subst eT3
    exact L3.frm (Frm.refl _ (fun _ => False) _) (fun _ _ h => h) fun b hb => upr_old hb
  have HF3 : Hid (Frm (adopt T (.slice pv c.length cv) (11 + seen)) (fun t => t = 1 ∨ t = 4) w1 w3) := F3
  have HT3 : Hid (∀ b, b < w1.heap.size → T3 b = adopt T (.slice pv c.length cv) (11 + seen) b) := fun b hb => by subst eT3; rw [upr_old (Nat.lt_of_lt_of_le hb F3.size)]; exact up_old (by omega)
  have HN3 : Hid (∀ b, w3.heap.size ≤ b → T3 b = 10) := fun b hb => by subst eT3; exact upr_new hb
  clear R3 L3 F3 G2 es eT3 d6 c3 fK fK1 e1
  have d7 : w3.cell? ⟨K, 43, none⟩ = some hN := HR3.out.cell 3 (by decide)
  have f3 : ∀ o, w3.frozen? ⟨K, o, none⟩ = false := HR3.out.fz
  obtain ⟨pN, kN, eN⟩ := row_form (HR3.out.row 3 (by decide))
  simp only [List.getD_cons_succ, List.getD_cons_zero, List.length_map] at eN
  subst eN
  have HX3 : Hid (HasQ w3 (.slice pv c.length cv) c) := by
    have h := (HL3.out.fresh x (by simp)).1
    exact OwnsR.hasq (lo := lo) h
  have hK3 : K < w3.heap.size := HR3.out.lt
  go_upto_region 2 with fail
  go_cut [2] (fun s2 wx => s2 = .int .i64 mark ∧ Hid (∃ p6 c6 T6 nv, Bk.Rows 40 tyB wx lo K T6 [hO, hT, .slice p2 (ws.length + 1) c2, .slice p6 (ws.length + 1) c6, hF, hM, hDu, hR] [os.map (·.v), os.map (·.tv), (ws ++ [x]).map (·.v), ws.map (·.nv) ++ [nv], [], ws.map (fun x => .int .i64 x.mark), ws.map (fun x => .int .i64 x.due), []] (zB turn 1 seen) ∧ Kp rcs 55 wx lo T6 ws os [x] [] [] ∧ OwnsR wx lo nv c ∧ Tg wx T6 nv 10 ∧ Frm T3 (fun t => t = 1 ∨ t = 5) w3 wx ∧ (∀ b, b < w3.heap.size → T6 b = T3 b)))
  case first =>
    go_region_law (first
      | (refine step_copyB rfl _ _ rfl w3.heap.size _ _ c rfl rfl (by exact owns_lit0 w3.drew) (HX3.out.below (((Below.refl _ w3).drew).alloc (Nat.le_refl _) _)) (by omega) (by simp) ?_
         intro p5 k5 w5 ho5 hb5
         have b5 : Below w3.heap.size w3 w5 := (((Below.refl _ w3).drew).alloc (Nat.le_refl _) _).trans hb5
         have d75 : w5.cell? ⟨K, 43, none⟩ = some (.slice pN ws.length kN) := cellB (b5.block K hK3) d7
         have d75a : ∀ o, (w5.alloc o).cell? ⟨K, 43, none⟩ = some (.slice pN ws.length kN) := fun o => cellB (Below.heap_alloc w5 o K (by have := b5.size; omega)) d75
         have HB5 : Hid (Below w3.heap.size w3 w5) := b5
         have HO5 : Hid (OwnsR w5 w3.heap.size (.slice p5 c.length k5) c) := ho5
         clear hb5 b5 ho5)
      | (refine step_rowL rfl _ _ rfl HR3.out 3 43 ws.length (by decide) rfl (by simp) hWl (HB5.out.alloc HB5.out.size _) (.slice p5 c.length k5) rfl rfl ⟨w5.heap.size, 0, none⟩ rfl (by simp) ?_
         intro p6 c6 w6 G6
         have d76 : w6.cell? ⟨K, 43, none⟩ = some (.slice pN ws.length kN) := G6.cell
         have q6f := G6.fz
         have HG6 : Hid (Got w3 lo K T3 [hO, hT, .slice p2 (ws.length + 1) c2, .slice pN ws.length kN, hF, hM, hDu, hR] [os.map (·.v), os.map (·.tv), (ws ++ [x]).map (·.v), ws.map (·.nv), [], ws.map (fun x => .int .i64 x.mark), ws.map (fun x => .int .i64 x.due), []] (zB turn 1 seen) 3 43 ws.length (.slice p5 c.length k5) (w5.alloc (.cells #[.slice p5 c.length k5] 22)) (.slice p6 (ws.length + 1) c6) w6) := G6
         clear G6))
    all_goals (go_wp2_with fail; go_meet)
    all_goals
      have gc := HG6.out.copy HN3.out (by have := HR3.out.ge; omega) hK3 HO5.out
      exact ⟨rfl, _, _, _, _, HG6.out.rows, HG6.out.kp HL3.out, gc.1, gc.2, HG6.out.frm, fun b hb => up_old (by have := HG6.out.le; omega)⟩
  case rest =>
    obtain ⟨rfl, HC⟩ := hcut
    obtain ⟨p6, c6, T6, nv, hR6, hL6, ho6, ht6, hF6, hT6⟩ := HC.out
    have HR6 : Hid (Bk.Rows 40 tyB wc lo K T6 [hO, hT, .slice p2 (ws.length + 1) c2, .slice p6 (ws.length + 1) c6, hF, hM, hDu, hR] [os.map (·.v), os.map (·.tv), (ws ++ [x]).map (·.v), ws.map (·.nv) ++ [nv], [], ws.map (fun x => .int .i64 x.mark), ws.map (fun x => .int .i64 x.due), []] (zB turn 1 seen)) := hR6
    have HL6 : Hid (Kp rcs 55 wc lo T6 ws os [x] [] []) := hL6
    have HO6 : Hid (OwnsR wc lo nv c ∧ Tg wc T6 nv 10) := ⟨ho6, ht6⟩
    have HF6 : Hid (Frm T3 (fun t => t = 1 ∨ t = 5) w3 wc) := hF6
    have HT6 : Hid (∀ b, b < w3.heap.size → T6 b = T3 b) := hT6
    clear HC hR6 hL6 ho6 ht6 hF6 hT6 d7 f3 HX3 e3 q2 q2f
    have d9 : wc.cell? ⟨K, 45, none⟩ = some hM := HR6.out.cell 5 (by decide)
    have fc : ∀ o, wc.frozen? ⟨K, o, none⟩ = false := HR6.out.fz
    obtain ⟨pM, kM, eM⟩ := row_form (HR6.out.row 5 (by decide))
    simp only [List.getD_cons_succ, List.getD_cons_zero, List.length_map] at eM
    subst eM
    go_wp2_with (at_builtin; refine append_rowI rfl _ _ rfl HR6.out 5 45 ws.length (by decide) (by decide) rfl (by simp) hWl ((Below.refl _ _).alloc (Nat.le_refl _) _) (.int .i64 mark) rfl rfl _ rfl ?c1 ?_)
    case c1 => simp
    intro p7 c7 w7 G7
    obtain ⟨w8, e8⟩ : ∃ w8, w7.setCell ⟨K, 45, none⟩ (.slice p7 (ws.length + 1) c7) = w8 := ⟨_, rfl⟩
    obtain ⟨T8, eT8⟩ : ∃ T8, up T6 (wc.heap.size + 1) 7 = T8 := ⟨_, rfl⟩
    have R8 := G7.rows
    have L8 := G7.kp HL6.out
    have F8 := G7.frm
    have q7 := G7.cell
    have q7f := G7.fz
    have es : (wc.alloc (.cells #[.int .i64 mark] 3)).heap.size = wc.heap.size + 1 := by simp
    rw [e8] at R8 L8 F8
    rw [es] at R8 L8
    have HR8 : Hid (Bk.Rows 40 tyB w8 lo K T8 [hO, hT, .slice p2 (ws.length + 1) c2, .slice p6 (ws.length + 1) c6, hF, .slice p7 (ws.length + 1) c7, hDu, hR] [os.map (·.v), os.map (·.tv), (ws ++ [x]).map (·.v), ws.map (·.nv) ++ [nv], [], (ws ++ [x]).map (fun x => .int .i64 x.mark), ws.map (fun x => .int .i64 x.due), []] (zB turn 1 seen)) := by
      subst eT8
      simp only [List.map_append, List.map_cons, List.map_nil] at R8 ⊢
      exact R8
    have HL8 : Hid (Kp rcs 55 w8 lo T8 ws os [x] [] []) := by subst eT8; exact L8
    have HF8 : Hid (Frm T6 (fun t => t = 1 ∨ t = 7) wc w8) := F8
    have HT8 : Hid (∀ b, b < wc.heap.size → T8 b = T6 b) := fun b hb => by subst eT8; exact up_old (by omega)
    have HO8 : Hid (OwnsR w8 lo nv c ∧ Tg w8 T8 nv 10) := ⟨rowB HO6.out.1 (HO6.out.2.same F8 (by omega)), HO6.out.2.frm F8 HT8.out⟩
    clear R8 L8 F8 G7 es eT8 d9 fc HO6
    have d10 : w8.cell? ⟨K, 46, none⟩ = some hDu := HR8.out.cell 6 (by decide)
    have d12 : w8.cell? ⟨K, 48, none⟩ = some (.int .i64 seen) := HR8.out.rest 48 (by decide) (by decide)
    have f8 : ∀ o, w8.frozen? ⟨K, o, none⟩ = false := HR8.out.fz
    obtain ⟨pD, kD, eD⟩ := row_form (HR8.out.row 6 (by decide))
    simp only [List.getD_cons_succ, List.getD_cons_zero, List.length_map] at eD
    subst eD
    have hK8 : K < w8.heap.size := HR8.out.lt
    have CD : Hid (∀ wz : World, wz.heap = w8.heap → Calls Tryz.prog 56 #[.pointer (some ⟨K, 0, none⟩), .int .i64 seen] wz fun e w' => e = .returned (.int .i64 (dueOf turn seen)) ∧ w' = wz) := fun wz hz =>
      due_any K turn seen wz (by have := HR8.out.rest 0 (by decide) (by decide); simp only [World.cell?, hz] at this ⊢; exact this) (by have := HR8.out.rest 2 (by decide) (by decide); simp only [World.cell?, hz] at this ⊢; exact this) (by omega) (by omega)
    have hdu : dueOf turn seen ≤ 100000000 := by unfold dueOf; split <;> (try split) <;> omega
    obtain ⟨du, edu⟩ : ∃ du, dueOf turn seen = du := ⟨_, rfl⟩
    rw [edu] at CD hdu
    go_upto_region 4 with fail
    go_cut [2] (fun s2 wx => s2 = .int .i64 mark ∧ Hid (∃ p9 c9 T9, Bk.Rows 40 tyB wx lo K T9 [hO, hT, .slice p2 (ws.length + 1) c2, .slice p6 (ws.length + 1) c6, hF, .slice p7 (ws.length + 1) c7, .slice p9 (ws.length + 1) c9, hR] [os.map (·.v), os.map (·.tv), (ws ++ [x]).map (·.v), ws.map (·.nv) ++ [nv], [], (ws ++ [x]).map (fun x => .int .i64 x.mark), ws.map (fun x => .int .i64 x.due) ++ [.int .i64 du], []] (zB turn 1 seen) ∧ Kp rcs 55 wx lo T9 ws os [x] [] [] ∧ Frm T8 (fun t => t = 1 ∨ t = 8) w8 wx ∧ (∀ b, b < w8.heap.size → T9 b = T8 b)))
    case first =>
      go_region_law (first
        | (rw [if_pos (by rfl)]; go_simp; go_at_call 56; refine (CD.out w8.drew rfl).mono ?_; rintro e wz ⟨rfl, rfl⟩)
        | (refine step_rowI rfl _ _ rfl HR8.out 6 46 ws.length (by decide) (by decide) rfl (by simp) hWl (((Below.refl _ w8).drew).alloc (Nat.le_refl _) _) (.int .i64 du) rfl rfl ⟨w8.heap.size, 0, none⟩ rfl (by simp) ?_
           intro p9 c9 w9 G9
           have d99 : w9.cell? ⟨K, 46, none⟩ = some (.slice pD ws.length kD) := G9.cell
           have q9f := G9.fz
           have HG9 : Hid (Got w8 lo K T8 [hO, hT, .slice p2 (ws.length + 1) c2, .slice p6 (ws.length + 1) c6, hF, .slice p7 (ws.length + 1) c7, .slice pD ws.length kD, hR] [os.map (·.v), os.map (·.tv), (ws ++ [x]).map (·.v), ws.map (·.nv) ++ [nv], [], (ws ++ [x]).map (fun x => .int .i64 x.mark), ws.map (fun x => .int .i64 x.due), []] (zB turn 1 seen) 6 46 ws.length (.int .i64 du) (w8.drew.alloc (.cells #[.int .i64 du] 3)) (.slice p9 (ws.length + 1) c9) w9) := G9
           clear G9))
      all_goals (go_wp2_with fail; go_meet)
      all_goals
        exact ⟨rfl, _, _, _, HG9.out.rows, HG9.out.kp HL8.out, HG9.out.frm, fun b hb => up_old (by have := HG9.out.le; omega)⟩
    case rest =>
      obtain ⟨rfl, HC⟩ := hcut
      obtain ⟨p9, c9, T9, hR9, hL9, hF9, hT9⟩ := HC.out
      obtain ⟨w10, e10⟩ : ∃ w10, wc.setCell ⟨K, 48, none⟩ (.int .i64 ((seen : Int) + 1)) = w10 := ⟨_, rfl⟩
      obtain ⟨R10, L10, F10⟩ := put2 hR9 hL9 48 (by decide) (by decide) (.int .i64 ((seen : Int) + 1))
      rw [e10] at R10 L10 F10
      have f9 : ∀ o, wc.frozen? ⟨K, o, none⟩ = false := hR9.fz
      have d12' : wc.cell? ⟨K, 48, none⟩ = some (.int .i64 seen) := hR9.rest 48 (by decide) (by decide)
      have hx9 : OwnsR w10 lo nv c ∧ Tg w10 T9 nv 10 := by
        obtain ⟨h1, h2⟩ := HO8.out
        have h3 : OwnsR wc lo nv c ∧ Tg wc T9 nv 10 := ⟨rowB h1 (h2.same hF9 (by omega)), h2.frm hF9 hT9⟩
        exact ⟨rowB h3.1 (h3.2.same F10 (by omega)), h3.2.frm F10 (fun _ _ => rfl)⟩
      have BK : BookSt w10 lo K T9 [hO, hT, .slice p2 (ws.length + 1) c2, .slice p6 (ws.length + 1) c6, hF, .slice p7 (ws.length + 1) c7, .slice p9 (ws.length + 1) c9, hR] (ws ++ [{ x with nv := nv, due := du }]) os turn 1 (seen + 1) := by
        refine ⟨?_, L10.note hx9.1 hx9.2 hdu (fun y hy => by have := HB.out.tags y hy; show y.tag ≠ 11 + seen; omega), fun y hy => ?_, fun o ho => by have := HB.out.tags o ho; omega, by have := HB.out.nw; simp; omega, by have := HB.out.no; simp; omega⟩
        · have r := R10.zext (z' := zB turn 1 (seen + 1)) (by
            intro o h1 h2
            simp only [zB]
            by_cases h12 : o = 48
            · subst h12; simp
            · simp [h12])
          simp only [XB, List.map_append, List.map_cons, List.map_nil] at r ⊢
          exact r
        · rcases List.mem_append.1 hy with hy | hy
          · have := HB.out.ids y hy; omega
          · obtain rfl := List.mem_singleton.1 hy
            show seen < seen + 1
            omega
      have T91 : ∀ b, b < w.heap.size → T9 b = adopt T (.slice pv c.length cv) (11 + seen) b := fun b hb => by
        have s1 := HF1.out.size
        have s3 := HF3.out.size
        have s6 := HF6.out.size
        have s8 := HF8.out.size
        rw [hT9 b (by omega), HT8.out b (by omega), HT6.out b (by omega), HT3.out b (by omega)]
      have FR : Frm (adopt T (.slice pv c.length cv) 10) (fun t => t ≠ 0) w w10 := by
        have s1 := HF1.out.size
        have s3 := HF3.out.size
        have s6 := HF6.out.size
        have s8 := HF8.out.size
        have a0 : ∀ b, adopt T (.slice pv c.length cv) (11 + seen) b ≠ 0 → adopt T (.slice pv c.length cv) 10 b ≠ 0 := fun b h => by
          simp only [adopt] at h ⊢
          split <;> simp_all
        have b1 : Frm (adopt T (.slice pv c.length cv) 10) (fun t => t ≠ 0) w w1 := HF1.out.mono fun b hb h => a0 b (by rw [h]; decide)
        have b3 : Frm (adopt T (.slice pv c.length cv) 10) (fun t => t ≠ 0) w w3 := b1.trans HF3.out fun b hb h => a0 b (by omega)
        have b6 := b3.trans HF6.out fun b hb h => a0 b (by rw [HT3.out b (by omega)] at h; omega)
        have b8 := b6.trans HF8.out fun b hb h => a0 b (by rw [HT6.out b (by omega), HT3.out b (by omega)] at h; omega)
        have b9 := b8.trans hF9 fun b hb h => a0 b (by rw [HT8.out b (by omega), HT6.out b (by omega), HT3.out b (by omega)] at h; omega)
        exact b9.trans F10 fun b hb h => a0 b (by rw [T91 b hb] at h; omega)
      have HC10 := HD.out w10 T9 _ _ BK FR (fun b hb hn => by rw [T91 b hb, adopt_other hn])
      have HCC : Hid (Calls Tryz.prog 57 #[.pointer (some ⟨K, 0, none⟩)] w10 fun e w' => e = .returned (.tuple #[]) ∧ Q w') := HC10
      clear HC10 BK FR R10 L10 F10 hx9 hR9 hL9 hF9 hT9 HC
      go_wp2_with fail
      refine HCC.out.mono ?_
      rintro e wz ⟨rfl, hq⟩
      have HQ : Hid (Q wz) := hq
      clear hq
      go_wp2
      go_end0
      exact ⟨rfl, HQ.out⟩
end Go.Proofs.YthioflehpifflaaGreatDoor
