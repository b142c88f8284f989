import Derived.Test.YtbjjbgaomoihaaaGreatDoorBBkMid
set_option maxRecDepth 100000
set_option maxHeartbeats 20000000
namespace Go.Proofs.YtbjjbgaomoihaaaGreatDoor.Bk
open Go.RowKit Bk
def grB (mark m : Nat) : List ByteArray := (List.range m).map fun i => numT (mark + 6 + 5 * i)
theorem grB_next (mark m : Nat) : grB mark (m + 1) = grB mark m ++ [numT (mark + 6 + 5 * m)] := by simp [grB, List.range_succ]
theorem grB_len (mark m : Nat) : (grB mark m).length = m := by simp [grB]
section
variable {w : World} {T : Nat → Nat} {lo K : Nat} {z : Nat → Value} {wr : World} {T' : Nat → Nat} {hs : List Value} {X : List (List Value)} {ws : List (Lst ByteArray)} {os : List (Bk.Ot ByteArray)} {fr : List (Lst ByteArray)}
def GrowAt (w : World) (T : Nat → Nat) (lo K : Nat) (z : Nat → Value) (wi : World) (hs : List Value) (X : List (List Value)) (ws : List (Lst ByteArray)) (os : List (Bk.Ot ByteArray)) (fr : List (Lst ByteArray)) (v : Value) (c : List ByteArray) (mark id : Nat) (g : Value) (m : Nat) : Prop :=
  ∃ T', Mid w T lo K z wi T' hs X ws os fr [] [] ∧ Sd wi lo T' g (c ++ grB mark m) (11 + id) ∧ HasV wi v (c.map Value.string)
theorem GrowAt.grown {v : Value} {c : List ByteArray} {mark id m : Nat} {g : Value} (h : GrowAt w T lo K z wr hs X ws os fr v c mark id g m) {wn : World} (hb : Below wr.heap.size wr wn) : GrowAt w T lo K z wn hs X ws os fr v c mark id g m := by
  obtain ⟨T', M, S, hh⟩ := h
  refine ⟨T', M.up hb, S.up hb, ?_⟩
  rcases hh with h | ⟨a, k, h1, h2, h3, cs, ty, h5⟩
  · exact .inl h
  · refine .inr ⟨a, k, h1, h2, fun i u hi => ?_, cs, ty, (hb.block _ (Array.getElem?_eq_some_iff.1 h5).1).trans h5⟩
    have h4 := h3 i u hi
    rw [hb.cell (World.block_lt_of_cell? wr _ h4)]
    exact h4
theorem GrowAt.next {v : Value} {c : List ByteArray} {mark id m : Nat} {g : Value} (h : GrowAt w T lo K z wr hs X ws os fr v c mark id g m) (hv : v = nil0 ∨ ∃ b k, v = .slice (some ⟨b, 0, none⟩) c.length k)
    (hL : ∀ x ∈ ws ++ [] ++ fr, x.id ≠ id) (hO : ∀ o ∈ os, o.tag = 11 + id → o.v = v ∧ o.c = c) {ob : Obj} {g' : Value} {w' : World}
    (h1 : OwnsT w' lo g' (c ++ grB mark (m + 1))) (h2 : (wr.alloc ob).grownBy w' g.ownBlock) (h3 : g'.ownBlock = g.ownBlock ∨ g'.ownBlock = some (wr.alloc ob).heap.size)
    (h4 : ∀ b, g.ownBlock = some b → (∀ (j : Nat) (u : Value), ((c ++ grB mark m).map Value.string)[j]? = some u → w'.cell? ((⟨b, 0, none⟩ : Addr).add j) = some u) ∧ ∃ cs ty, w'.heap[b]? = some (.cells cs ty (0, 0))) :
    GrowAt w T lo K z w' hs X ws os fr v c mark id g' (m + 1) := by
  obtain ⟨T', M, ⟨ho, ht⟩, hh⟩ := h
  have hsz : (wr.alloc ob).heap.size = wr.heap.size + 1 := by simp
  have hs2 := h2.size
  have F : Frm T' (fun t => t = 11 + id) wr w' := ⟨h2.os, h2.tape, h2.output, by omega, fun b hb hn => (h2.block b (by omega) (fun e => hn ((ht b e.symm).2))).trans (Below.heap_alloc wr ob b hb)⟩
  have hV : HasV w' v (c.map Value.string) := by
    rcases hh with ⟨e1, e2⟩ | ⟨a, k, e1, hk, hc, cs9, ty9, ho9⟩
    · exact .inl ⟨e1, e2⟩
    · obtain rfl | ⟨b, k', e2⟩ := hv
      · cases e1
      · rw [e1] at e2
        injection e2 with e3 e4 e5
        injection e3 with e3
        subst e3
        have hbl : b < wr.heap.size := (Array.getElem?_eq_some_iff.1 ho9).1
        refine .inr ⟨_, k, e1, hk, fun i u hi => ?_, ?_⟩
        rotate_left
        · by_cases hg : g.ownBlock = some b
          · exact (h4 b hg).2
          · exact ⟨cs9, ty9, ((h2.block b (by omega) (fun e => hg e.symm)).trans (Below.heap_alloc wr ob b hbl)).trans ho9⟩
        by_cases hg : g.ownBlock = some b
        · refine (h4 b hg).1 i u ?_
          rw [List.map_append, List.getElem?_append_left (by simpa using (List.getElem?_eq_some_iff.1 hi).1)]
          exact hi
        · have h5 := hc i u hi
          have h6 := World.block_lt_of_cell? wr _ h5
          rw [addBlock] at h6
          rw [World.cell?_of_block (w := wr) (by rw [addBlock]; exact (h2.block b (by show b < _; have : b < wr.heap.size := h6; omega) (fun e => hg e.symm)).trans (Below.heap_alloc wr ob b h6))]
          exact h5
  have hT : ∀ b, b < wr.heap.size → up T' (wr.alloc ob).heap.size (11 + id) b = T' b := fun b hb => up_old (by omega)
  refine ⟨up T' (wr.alloc ob).heap.size (11 + id), ⟨?_, M.kp.frmO F (by omega) (fun x hx e => hL x hx (by omega)) (fun o ho e => ?_) hT, M.frm.trans F fun b hb h => ?_, fun b hb => ?_⟩, ⟨h1, fun b hb => ⟨(World.ownsRow.lt h1 b hb).2, ?_⟩⟩, hV⟩
  · have r := M.rows.frm F (fun t h1 h9 => by omega)
    refine r.retag (by rw [hT K M.rows.lt]; exact r.tK) (fun b hb => ?_) (fun j hj b _ he => ?_)
    · have := M.rows.ge
      have := M.rows.lt
      rw [hT b (by omega)]; exact r.low b hb
    · rw [hT b ((M.rows.row j hj).lt b he).2]; exact r.tag j hj b he
  · obtain ⟨e1, e2⟩ := hO o ho e
    rw [e1, e2]; exact hV
  · intro e
    have := (M.zero b hb).2 e
    omega
  · have := M.frm.size
    rw [hT b (by omega)]; exact M.zero b hb
  · rcases h3 with h | h
    · rw [h] at hb
      rw [hT b (ht b hb).1]
      exact (ht b hb).2
    · rw [hb] at h
      injection h with h
      rw [h]; exact up_new
end
def LayAt (w : World) (T : Nat → Nat) (lo K turn seen : Nat) (ws : List (Lst ByteArray)) (os : List (Bk.Ot ByteArray)) (fr : List (Lst ByteArray)) (k : Nat) (wr : World) : Prop :=
  ∃ T' hO hT hW hN hF hM hD hR os', Mid w T lo K (zB turn 0 seen) wr T' [hO, hT, hW, hN, hF, hM, hD, hR] (XB ws os' fr) ws os' (fr.drop k) [] [] ∧ os'.length ≤ os.length + k ∧ (∀ o ∈ os', o.tag < 11 + seen)
theorem growTexts_any (w0 : World) (T0 : Nat → Nat) (w : World) (lo K : Nat) (T : Nat → Nat) (hO hT hW hN hF hM hD hR : Value) (ws : List (Lst ByteArray)) (os : List (Bk.Ot ByteArray)) (fr : List (Lst ByteArray)) (turn seen : Nat)
    (M : Mid w0 T0 lo K (zB turn 0 seen) w T [hO, hT, hW, hN, hF, hM, hD, hR] (XB ws os fr) ws os fr [] []) (htg : ∀ o ∈ os, o.tag < 11 + seen) (hfi : ∀ x ∈ fr, x.id < seen) (hfl : fr.length ≤ 300000) (hol : os.length ≤ 600000) (hlo0 : lo ≤ w0.heap.size) (htb : Tb lo w0) :
    Calls Tryz.prog 120 #[.pointer (some ⟨K, 0, none⟩)] w fun e w' => e = .returned (.tuple #[]) ∧ ∃ T' hs' os', Mid w0 T0 lo K (zB turn 0 seen) w' T' hs' (XB ws os' []) ws os' [] [] [] ∧ os'.length ≤ os.length + fr.length ∧ (∀ o ∈ os', o.tag < 11 + seen) := by
  have HA : Hid (LayAt w0 T0 lo K turn seen ws os fr 0 w) := ⟨T, hO, hT, hW, hN, hF, hM, hD, hR, os, M, by omega, htg⟩
  have HFI : Hid (∀ x ∈ fr, x.id < seen) := hfi
  have HTB : Hid (Tb lo w0) := htb
  clear htb
  clear M htg hfi
  go_enter Tryz.func120, Tryz.ntmps120
  go_wp2
  go_loopw [2] (fun i wr => ∃ k : Nat, k ≤ fr.length ∧ i = .int .i64 k ∧ Hid (LayAt w0 T0 lo K turn seen ws os fr k wr)) (fun i _ => fr.length - (intOf i).toNat)
  case atStart => exact ⟨0, Nat.zero_le _, rfl, HA⟩
  case round =>
    clear HA
    obtain ⟨k, hk, rfl, HL⟩ := hrel
    obtain ⟨T1, hO1, hT1, hW1, hN1, hF1, hM1, hD1, hR1, os1, m1, l1, i1⟩ := HL.out
    obtain ⟨p0, k0, e0⟩ := row_form (m1.rows.row 0 (by decide))
    obtain ⟨p1, k1, e1⟩ := row_form (m1.rows.row 1 (by decide))
    obtain ⟨p4, k4, e4⟩ := row_form (m1.rows.row 4 (by decide))
    obtain ⟨p7, k7, e7⟩ := row_form (m1.rows.row 7 (by decide))
    simp only [XB, List.getD_cons_succ, List.getD_cons_zero, List.length_map] at e0 e1 e4 e7
    subst e0 e1 e4 e7
    have c8 : wr.cell? ⟨K, 26, none⟩ = some (.slice p4 fr.length k4) := m1.rows.cell 4 (by decide)
    have c11 : wr.cell? ⟨K, 29, none⟩ = some (.slice p7 fr.length k7) := m1.rows.cell 7 (by decide)
    have fK : ∀ o, wr.frozen? ⟨K, o, none⟩ = false := m1.rows.fz
    have hl2 : os1.length ≤ 1000000 := by omega
    by_cases hlt : k < fr.length
    · obtain ⟨x, hx⟩ : ∃ x, fr[k] = x := ⟨_, rfl⟩
      have hdrop : fr.drop k = x :: fr.drop (k + 1) := by rw [← hx]; exact List.drop_eq_getElem_cons hlt
      have hid : x.id < seen := HFI.out x (by rw [← hx]; exact List.getElem_mem hlt)
      have r4 := m1.rows.row 4 (by decide)
      have r7 := m1.rows.row 7 (by decide)
      obtain ⟨gF, kF, eF, qF⟩ := row_at r4 (j := k) (by show k < (fr.map _).length; rw [List.length_map]; exact hlt)
      obtain ⟨gR, kR, eR, qR⟩ := row_at r7 (j := k) (by show k < (fr.map _).length; rw [List.length_map]; exact hlt)
      simp only [XB, List.getD_cons_succ, List.getD_cons_zero, List.length_map, Value.slice.injEq, List.getElem_map, hx] at eF eR qF qR
      obtain ⟨rfl, -, rfl⟩ := eF
      obtain ⟨rfl, -, rfl⟩ := eR
      clear r4 r7 hx
      rw [hdrop] at m1
      obtain ⟨hown, hk1, hL, hO⟩ := m1.kp.top
      obtain ⟨v, c, nv, mark, due, id⟩ := x
      simp only at qF qR hid hL hO
      have hv : v = nil0 ∨ ∃ b k, v = .slice (some ⟨b, 0, none⟩) c.length k := by
        rcases hown.1.2 with ⟨h, _⟩ | ⟨b, kk, _, h, _⟩
        · exact .inl h
        · exact .inr ⟨b, kk, h⟩
      have HV : Hid (v = nil0 ∨ ∃ b k, v = .slice (some ⟨b, 0, none⟩) c.length k) := hv
      have hmk : mark ≤ 100000000 := hown.2.2.2
      have hcl : c.length ≤ 1000000 := hown.2.2.1
      have hc0 : c ++ grB mark 0 = c := by simp [grB]
      have HG : Hid (GrowAt w0 T0 lo K (zB turn 0 seen) wr [.slice p0 os1.length k0, .slice p1 os1.length k1, hW1, hN1, .slice (some ⟨gF, 0, none⟩) fr.length k4, hM1, hD1, .slice (some ⟨gR, 0, none⟩) fr.length k7] (XB ws os1 fr) ws os1 (fr.drop (k + 1)) v c mark id v 0) := ⟨T1, m1.lists hk1, ⟨by rw [hc0]; exact hown.1, hown.2.1⟩, HasV.of_row hown.1⟩
      have HH : Hid (∀ x ∈ ws ++ [] ++ fr.drop (k + 1), x.id ≠ id) := hL
      have HH2 : Hid (∀ o ∈ os1, o.tag = 11 + id → o.v = v ∧ o.c = c) := hO
      have HI : Hid (os1.length ≤ os.length + k ∧ ∀ o ∈ os1, o.tag < 11 + seen) := ⟨l1, i1⟩
      clear m1 l1 i1 hdrop hown hk1 hL hO hv HL hc0
      go_wp2
      go_loopw [4, 5] (fun g i wi => ∃ m : Nat, m ≤ 30 ∧ i = .int .i64 m ∧ Hid (GrowAt w0 T0 lo K (zB turn 0 seen) wi [.slice p0 os1.length k0, .slice p1 os1.length k1, hW1, hN1, .slice (some ⟨gF, 0, none⟩) fr.length k4, hM1, hD1, .slice (some ⟨gR, 0, none⟩) fr.length k7] (XB ws os1 fr) ws os1 (fr.drop (k + 1)) v c mark id g m)) (fun _ i _ => 30 - (intOf i).toNat)
      case atStart => exact ⟨0, by omega, rfl, HG⟩
      case round =>
        clear HG qF qR c8 c11 fK
        obtain ⟨m, hm, rfl, HW⟩ := hrel
        by_cases hmc : m < 30
        · obtain ⟨i0, hi, hz0, hz1, hz2⟩ := info_parts Tryz.info9
          have HO : Hid (OwnsT wr lo u4 (c ++ grB mark m)) := by
            obtain ⟨_, _, h, _⟩ := HW.out
            exact h.1
          have hlo : lo ≤ wr.heap.size := by
            obtain ⟨_, h, _⟩ := HW.out
            have := h.rows.ge
            have := h.rows.lt
            omega
          have hln : (c ++ grB mark m).length = c.length + m := by simp [grB_len]
          have HLN : Hid ((c ++ grB mark m).length = c.length + m) := hln
          clear hln
          have CI : Hid (Calls Tryz.prog 148 #[.int .i64 ((mark : Int) + 6 + 5 * (m : Int))] wr fun e w'' => e = .returned (.string (numT (mark + 6 + 5 * m))) ∧ Below wr.heap.size wr w'') := by
            obtain ⟨_, hM, _⟩ := HW.out
            have h := HTB.out (mark + 6 + 5 * m) wr (by omega) (hM.bel hlo0)
            push_cast at h
            exact h
          go_wp2_with fail
          refine CI.out.mono ?_
          rintro e wn ⟨rfl, hbn⟩
          have HWn : Hid (GrowAt w0 T0 lo K (zB turn 0 seen) wn [.slice p0 os1.length k0, .slice p1 os1.length k1, hW1, hN1, .slice (some ⟨gF, 0, none⟩) fr.length k4, hM1, hD1, .slice (some ⟨gR, 0, none⟩) fr.length k7] (XB ws os1 fr) ws os1 (fr.drop (k + 1)) v c mark id u4 m) := HW.out.grown hbn
          have HOn : Hid (OwnsT wn lo u4 (c ++ grB mark m)) := by
            obtain ⟨_, _, h, _⟩ := HWn.out
            exact h.1
          have hlon : lo ≤ wn.heap.size := Nat.le_trans hlo hbn.size
          clear HO CI HW hbn hlo
          go_wp2_with (at_builtin; refine wpList_append_kept rfl _ _ 56 rfl lo 9 i0 (.string ⟨#[]⟩) 1 16 Tryz.underlying56 hi hz0 hz1 hz2 rfl (by decide) _ (c ++ grB mark m).length ((c ++ grB mark m).map Value.string) rfl (World.ownsRow.alloc HOn.out _) ⟨wn.heap.size, 0, none⟩ 1 1 [.string (numT (mark + 6 + 5 * m))] rfl rfl ?d1 ?d2 ?d3 ?d4 ?d5 ?_)
          case d1 => exact one_new
          case d2 => intro u hu; simp at hu; subst hu; rfl
          case d3 => have := HLN.out; unfold maxLen; omega
          case d4 => have := HLN.out; omega
          case d5 => simp; omega
          intro g' w' h1 h2 h3 h4
          have HN : Hid (GrowAt w0 T0 lo K (zB turn 0 seen) w' [.slice p0 os1.length k0, .slice p1 os1.length k1, hW1, hN1, .slice (some ⟨gF, 0, none⟩) fr.length k4, hM1, hD1, .slice (some ⟨gR, 0, none⟩) fr.length k7] (XB ws os1 fr) ws os1 (fr.drop (k + 1)) v c mark id g' (m + 1)) := by
            refine HWn.out.next HV.out HH.out HH2.out ?_ h2 (by simpa using h3) (fun b hb => ⟨fun j u hj => by rw [add0]; have := (h4 b hb).1 j u (by simpa using hj); simpa [add0] using this, (h4 b hb).2⟩)
            rw [grB_next]
            unfold OwnsT
            simpa [Nat.add_assoc] using h1
          clear h1 h2 h3 h4 HOn HWn
          go_wp2
          go_roundw
          case rel => exact ⟨m + 1, by omega, by go_num, HN⟩
          case measure => simp [intOf]; omega
        · obtain rfl : m = 30 := by omega
          obtain ⟨cc, ecc⟩ : ∃ cc, c ++ grB mark 30 = cc := ⟨_, rfl⟩
          have hcc : cc.length ≤ 1000030 := by rw [← ecc, List.length_append, grB_len]; omega
          obtain ⟨T2, m2, s2, -⟩ := HW.out
          rw [ecc] at s2
          obtain ⟨pg, kg, eg⟩ := row_form s2.1
          subst eg
          have M3 : Hid (Mid w0 T0 lo K (zB turn 0 seen) wr T2 [.slice p0 os1.length k0, .slice p1 os1.length k1, hW1, hN1, .slice (some ⟨gF, 0, none⟩) fr.length k4, hM1, hD1, .slice (some ⟨gR, 0, none⟩) fr.length k7] [os1.map (·.v), os1.map (·.tv), ws.map (·.v), ws.map (·.nv), fr.map (·.v), ws.map (fun x => .int .i64 x.mark), ws.map (fun x => .int .i64 x.due), fr.map (fun x => .int .i64 x.mark)] ws os1 (fr.drop (k + 1)) [] []) := m2
          have S3 : Hid (Sd wr lo T2 (.slice pg cc.length kg) cc (11 + id)) := s2
          clear m2 s2 ecc HW
          have fwr : ∀ o, wr.frozen? ⟨K, o, none⟩ = false := M3.out.rows.fz
          have cwr : wr.cell? ⟨K, 22, none⟩ = some (.slice p0 os1.length k0) := M3.out.rows.cell 0 (by decide)
          have zwr : K < wr.heap.size := M3.out.rows.lt
          go_wp2_with (at_builtin; refine append_rowL rfl _ _ rfl M3.out.rows 0 22 os1.length (by decide) rfl (by simp) hl2 ((Below.refl _ _).alloc (Nat.le_refl _) _) (.slice pg cc.length kg) rfl rfl _ rfl ?cq21 ?_)
          try (case cq21 => simp)
          intro p21 k21 wx21 G21
          obtain ⟨w21, e21⟩ : ∃ w21, wx21.setCell ⟨K, 22, none⟩ (.slice p21 (os1.length + 1) k21) = w21 := ⟨_, rfl⟩
          obtain ⟨T21, m21', S21_0'⟩ : ∃ T21, Mid w0 T0 lo K (zB turn 0 seen) w21 T21 [.slice p21 (os1.length + 1) k21, .slice p1 os1.length k1, hW1, hN1, .slice (some ⟨gF, 0, none⟩) fr.length k4, hM1, hD1, .slice (some ⟨gR, 0, none⟩) fr.length k7] [os1.map (·.v) ++ [.slice pg cc.length kg], os1.map (·.tv), ws.map (·.v), ws.map (·.nv), fr.map (·.v), ws.map (fun x => .int .i64 x.mark), ws.map (fun x => .int .i64 x.due), fr.map (fun x => .int .i64 x.mark)] ws os1 (fr.drop (k + 1)) [] [] ∧ Sd w21 lo T21 (.slice pg cc.length kg) (cc) (11 + id) := ⟨_, by rw [← e21]; exact ⟨M3.out.step G21, G21.side S3.out (by omega)⟩⟩
          have m21 : Hid (Mid w0 T0 lo K (zB turn 0 seen) w21 T21 [.slice p21 (os1.length + 1) k21, .slice p1 os1.length k1, hW1, hN1, .slice (some ⟨gF, 0, none⟩) fr.length k4, hM1, hD1, .slice (some ⟨gR, 0, none⟩) fr.length k7] [os1.map (·.v) ++ [.slice pg cc.length kg], os1.map (·.tv), ws.map (·.v), ws.map (·.nv), fr.map (·.v), ws.map (fun x => .int .i64 x.mark), ws.map (fun x => .int .i64 x.due), fr.map (fun x => .int .i64 x.mark)] ws os1 (fr.drop (k + 1)) [] []) := m21'
          have S21_0 : Hid (Sd w21 lo T21 (.slice pg cc.length kg) (cc) (11 + id)) := S21_0'
          have q21 : wx21.cell? ⟨K, 22, none⟩ = some (.slice p0 os1.length k0) := G21.cell
          have g21 := G21.fz
          clear G21 m21' S21_0'
          have fw21 : ∀ o, w21.frozen? ⟨K, o, none⟩ = false := m21.out.rows.fz
          have cw21 : w21.cell? ⟨K, 23, none⟩ = some (.slice p1 os1.length k1) := m21.out.rows.cell 1 (by decide)
          have zw21 : K < w21.heap.size := m21.out.rows.lt
          obtain ⟨Ta, eTa⟩ : ∃ Ta, upr T21 w21.heap.size 10 = Ta := ⟨_, rfl⟩
          have Na : Hid (∀ b, w21.heap.size ≤ b → Ta b = 10) := fun b hb => by rw [← eTa]; exact upr_new hb
          have ma : Hid (Mid w0 T0 lo K (zB turn 0 seen) w21 Ta [.slice p21 (os1.length + 1) k21, .slice p1 os1.length k1, hW1, hN1, .slice (some ⟨gF, 0, none⟩) fr.length k4, hM1, hD1, .slice (some ⟨gR, 0, none⟩) fr.length k7] [os1.map (·.v) ++ [.slice pg cc.length kg], os1.map (·.tv), ws.map (·.v), ws.map (·.nv), fr.map (·.v), ws.map (fun x => .int .i64 x.mark), ws.map (fun x => .int .i64 x.due), fr.map (fun x => .int .i64 x.mark)] ws os1 (fr.drop (k + 1)) [] []) := by rw [← eTa]; exact m21.out.up10
          have Sa : Hid (Sd w21 lo Ta (.slice pg cc.length kg) (cc) (11 + id)) := by rw [← eTa]; exact S21_0.out.up10
          have Xa : Hid (HasT w21 (.slice pg cc.length kg) (cc)) := Sa.out.1.has
          clear eTa
          go_upto_region 10 with fail
          go_region_law (first
            | (refine step_copyB rfl _ _ rfl w21.heap.size _ _ (cc) rfl rfl (by exact owns_lit0 w21.drew) (Xa.out.below (((Below.refl _ w21).drew).alloc (Nat.le_refl _) _)) (by omega) (by simp) ?_
               intro pa ka wa ho5 hb5
               have b5 : Below w21.heap.size w21 wa := (((Below.refl _ w21).drew).alloc (Nat.le_refl _) _).trans hb5
               have d75 : wa.cell? ⟨K, 23, none⟩ = some (.slice p1 os1.length k1) := cellB (b5.block K zw21) cw21
               have d75a : ∀ o, (wa.alloc o).cell? ⟨K, 23, none⟩ = some (.slice p1 os1.length k1) := fun o => cellB (Below.heap_alloc wa o K (by have := b5.size; omega)) d75
               have HB5 : Hid (Below w21.heap.size w21 wa) := b5
               have HO5 : Hid (OwnsT wa w21.heap.size (.slice pa (cc).length ka) (cc)) := ho5
               clear hb5 b5 ho5)
            | (refine step_rowL rfl _ _ rfl ma.out.rows 1 23 os1.length (by decide) rfl (by simp) hl2 (HB5.out.alloc HB5.out.size _) (.slice pa (cc).length ka) rfl rfl ⟨wa.heap.size, 0, none⟩ rfl (by simp) ?_
               intro pb kb wb G6
               have d76 : wb.cell? ⟨K, 23, none⟩ = some (.slice p1 os1.length k1) := G6.cell
               have q6f := G6.fz
               have HG6 : Hid (Got w21 lo K Ta [.slice p21 (os1.length + 1) k21, .slice p1 os1.length k1, hW1, hN1, .slice (some ⟨gF, 0, none⟩) fr.length k4, hM1, hD1, .slice (some ⟨gR, 0, none⟩) fr.length k7] [os1.map (·.v) ++ [.slice pg cc.length kg], os1.map (·.tv), ws.map (·.v), ws.map (·.nv), fr.map (·.v), ws.map (fun x => .int .i64 x.mark), ws.map (fun x => .int .i64 x.due), fr.map (fun x => .int .i64 x.mark)] (zB turn 0 seen) 1 23 os1.length (.slice pa (cc).length ka) (wa.alloc (.cells #[.slice pa (cc).length ka] 56)) (.slice pb (os1.length + 1) kb) wb) := G6
               clear G6))
          all_goals
            have gc := HG6.out.copy Na.out (by have := ma.out.rows.ge; omega) zw21 HO5.out
            have gs := HG6.out.side Sa.out (by omega)
            have gm := ma.out.step HG6.out
            have FIN : Hid (LayAt w0 T0 lo K turn seen ws os fr (k + 1) (wb.setCell ⟨K, 23, none⟩ (.slice pb (os1.length + 1) kb))) := by
              obtain ⟨l1, i1⟩ := HI.out
              have ex : XB ws (os1 ++ [⟨.slice pg cc.length kg, .slice pa cc.length ka, cc, 11 + id⟩]) fr = [os1.map (·.v) ++ [.slice pg cc.length kg], os1.map (·.tv) ++ [.slice pa cc.length ka], ws.map (·.v), ws.map (·.nv), fr.map (·.v), ws.map (fun x => .int .i64 x.mark), ws.map (fun x => .int .i64 x.due), fr.map (fun x => .int .i64 x.mark)] := by simp only [XB, List.map_append, List.map_cons, List.map_nil]
              have mm : Mid w0 T0 lo K (zB turn 0 seen) (wb.setCell ⟨K, 23, none⟩ (.slice pb (os1.length + 1) kb)) (up Ta (wa.alloc (.cells #[.slice pa (cc).length ka] 56)).heap.size (2 + 1)) [.slice p21 (os1.length + 1) k21, .slice pb (os1.length + 1) kb, hW1, hN1, .slice (some ⟨gF, 0, none⟩) fr.length k4, hM1, hD1, .slice (some ⟨gR, 0, none⟩) fr.length k7] (XB ws (os1 ++ [⟨.slice pg cc.length kg, .slice pa cc.length ka, cc, 11 + id⟩]) fr) ws (os1 ++ [⟨.slice pg cc.length kg, .slice pa cc.length ka, cc, 11 + id⟩]) (fr.drop (k + 1)) [] [] := by
                rw [ex]; exact gm.lists (gm.kp.more (fun y hy => by have := HH.out y hy; show 11 + id ≠ _; omega) ⟨HasV.of_row gs.1, HasV.of_row gc.1, gs.2, gc.2, by show 10 ≤ 11 + id; omega, by show cc.length ≤ _; omega⟩)
              refine ⟨(up Ta (wa.alloc (.cells #[.slice pa (cc).length ka] 56)).heap.size (2 + 1)), .slice p21 (os1.length + 1) k21, .slice pb (os1.length + 1) kb, hW1, hN1, .slice (some ⟨gF, 0, none⟩) fr.length k4, hM1, hD1, .slice (some ⟨gR, 0, none⟩) fr.length k7, os1 ++ [⟨.slice pg cc.length kg, .slice pa cc.length ka, cc, 11 + id⟩], mm, by simp; omega, fun o ho => ?_⟩
              rcases List.mem_append.1 ho with ho | ho
              · exact i1 o ho
              · obtain rfl := List.mem_singleton.1 ho
                show 11 + id < 11 + seen
                omega
            clear gc gs gm HG6 HO5 HB5
            go_wp2
            go_roundw
            case rel => exact ⟨k + 1, by omega, by go_num, FIN⟩
            case measure => simp [intOf]; omega
    · obtain rfl : k = fr.length := by omega
      obtain ⟨w9, e9⟩ : ∃ w9, (wr.setCell ⟨K, 26, none⟩ (.slice none 0 0)).setCell ⟨K, 29, none⟩ (.slice none 0 0) = w9 := ⟨_, rfl⟩
      rw [List.drop_length] at m1
      have FIN : ∃ T' hs' os', Mid w0 T0 lo K (zB turn 0 seen) w9 T' hs' (XB ws os' []) ws os' [] [] [] ∧ os'.length ≤ os.length + fr.length ∧ (∀ o ∈ os', o.tag < 11 + seen) :=
        ⟨T1, _, os1, by rw [← e9]; exact (m1.clear (j := 4) (o := 26) (by decide) rfl).clear (j := 7) (o := 29) (by decide) rfl, l1, i1⟩
      have HFN : Hid _ := FIN
      clear FIN m1 HL l1 i1
      go_wp2
      go_end0
      exact ⟨rfl, HFN.out⟩
end Go.Proofs.YtbjjbgaomoihaaaGreatDoor.Bk
