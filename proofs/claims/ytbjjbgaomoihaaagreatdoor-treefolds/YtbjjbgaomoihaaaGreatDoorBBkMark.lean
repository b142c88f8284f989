import Derived.Test.YtbjjbgaomoihaaaGreatDoorBBkMid
set_option maxRecDepth 100000
set_option maxHeartbeats 20000000
namespace Go.Proofs.YtbjjbgaomoihaaaGreatDoor.Bk
open Go.RowKit Bk
structure MarkAt (w : World) (T : Nat → Nat) (lo K turn seen : Nat) (ws : List (Lst ByteArray)) (os : List (Bk.Ot ByteArray)) (olds : List (Value × TypeId × List Value)) (k : Nat) (wr : World) : Prop where
  mid : ∃ T' hO hT hW hN hF hM hD hR ws' os' fr', Mid w T lo K (zB turn 0 seen) wr T' [hO, hT, hW, hN, hF, hM, hD, hR] (XB ws' os' fr') ws' os' fr' (ws.drop k) olds ∧
    ws'.length ≤ k ∧ os'.length ≤ os.length + k ∧ fr'.length ≤ k ∧ fr'.length + ws'.length ≤ k ∧ os'.length + ws'.length ≤ os.length + k ∧ (∀ x ∈ ws', x.id < seen) ∧ (∀ x ∈ fr', x.id < seen) ∧ (∀ o ∈ os', o.tag < 11 + seen)
theorem markTexts_any (w : World) (lo K : Nat) (T : Nat → Nat) (hO hT hW hN hF hM hD hR : Value) (ws : List (Lst ByteArray)) (os : List (Bk.Ot ByteArray)) (turn seen : Nat)
    (bk : BookSt w lo K T [hO, hT, hW, hN, hF, hM, hD, hR] ws os turn 0 seen) (hseen : seen ≤ 300000) (htb : Tb lo w) :
    Calls Tryz.prog 104 #[.pointer (some ⟨K, 0, none⟩)] w fun e w' => e = .returned (.tuple #[]) ∧ ∃ T' hs' ws' os' fr', Mid w T lo K (zB turn 0 seen) w' T' hs' (XB ws' os' fr') ws' os' fr' [] [] ∧
      fr'.length + ws'.length ≤ ws.length ∧ os'.length + ws'.length ≤ os.length + ws.length ∧ fr'.length ≤ ws.length ∧ (∀ x ∈ ws', x.id < seen) ∧ (∀ x ∈ fr', x.id < seen) ∧ (∀ o ∈ os', o.tag < 11 + seen) := by
  have HB : Hid (BookSt w lo K T [hO, hT, hW, hN, hF, hM, hD, hR] ws os turn 0 seen) := bk
  have HTB : Hid (Tb lo w) := htb
  have hlo : lo ≤ w.heap.size := by have := bk.rows.ge; have := bk.rows.lt; omega
  clear htb
  obtain ⟨pW, kW, eW⟩ := row_form (bk.rows.row 2 (by decide))
  obtain ⟨pN, kN, eN⟩ := row_form (bk.rows.row 3 (by decide))
  obtain ⟨pM, kM, eM⟩ := row_form (bk.rows.row 5 (by decide))
  obtain ⟨pD, kD, eD⟩ := row_form (bk.rows.row 6 (by decide))
  simp only [XB, List.getD_cons_succ, List.getD_cons_zero, List.length_map] at eW eN eM eD
  subst eW eN eM eD
  have c6 : w.cell? ⟨K, 24, none⟩ = some (.slice pW ws.length kW) := bk.rows.cell 2 (by decide)
  have c7 : w.cell? ⟨K, 25, none⟩ = some (.slice pN ws.length kN) := bk.rows.cell 3 (by decide)
  have c9 : w.cell? ⟨K, 27, none⟩ = some (.slice pM ws.length kM) := bk.rows.cell 5 (by decide)
  have c10 : w.cell? ⟨K, 28, none⟩ = some (.slice pD ws.length kD) := bk.rows.cell 6 (by decide)
  have fK : ∀ o, w.frozen? ⟨K, o, none⟩ = false := bk.rows.fz
  have hwl : ws.length ≤ 300000 := by have := bk.nw; omega
  clear bk
  by_cases h0 : ws.length = 0
  · have hb : ((ws.length : Int) == 0) = true := by simp [h0]
    have FIN : ∃ T' hs' ws' os' fr', Mid w T lo K (zB turn 0 seen) w T' hs' (XB ws' os' fr') ws' os' fr' [] [] ∧
      fr'.length + ws'.length ≤ ws.length ∧ os'.length + ws'.length ≤ os.length + ws.length ∧ fr'.length ≤ ws.length ∧ (∀ x ∈ ws', x.id < seen) ∧ (∀ x ∈ fr', x.id < seen) ∧ (∀ o ∈ os', o.tag < 11 + seen) :=
      ⟨T, _, ws, os, [], ⟨HB.out.rows, HB.out.kp, Frm.refl _ _ _, fun _ _ => Iff.rfl⟩, by simp, Nat.le_refl _, Nat.zero_le _, HB.out.ids, by simp, HB.out.tags⟩
    have HFN : Hid _ := FIN
    clear FIN
    go_enter Tryz.func104, Tryz.ntmps104
    go_wp2
    (try simp only [Exit.inBlock, Exit.then])
    refine bodyPost_ret (results_none rfl _ _ _) rfl ?_
    exact ⟨rfl, HFN.out⟩
  · have r0 : ∀ j v xs, j < 8 → [hO, hT, .slice pW ws.length kW, .slice pN ws.length kN, hF, .slice pM ws.length kM, .slice pD ws.length kD, hR].getD j nil0 = v → (XB ws os []).getD j [] = xs → 0 < xs.length → ∃ g, v.ownBlock = some g ∧ ∃ n c, v = .slice (some ⟨g, 0, none⟩) n c := fun j v xs hj hv hx hl => by
      have r := HB.out.rows.row j hj
      rw [hv, hx] at r
      obtain ⟨g, c, e, _⟩ := row_at r hl
      exact ⟨g, by rw [e]; rfl, _, _, e⟩
    obtain ⟨gW, -, n1, k1, e1⟩ := r0 2 _ _ (by decide) rfl rfl (by show 0 < (ws.map _).length; rw [List.length_map]; omega)
    obtain ⟨gN, -, n2, k2, e2⟩ := r0 3 _ _ (by decide) rfl rfl (by show 0 < (ws.map _).length; rw [List.length_map]; omega)
    obtain ⟨gM, -, n3, k3, e3⟩ := r0 5 _ _ (by decide) rfl rfl (by show 0 < (ws.map _).length; rw [List.length_map]; omega)
    obtain ⟨gD, -, n4, k4, e4⟩ := r0 6 _ _ (by decide) rfl rfl (by show 0 < (ws.map _).length; rw [List.length_map]; omega)
    simp only [List.getD_cons_succ, List.getD_cons_zero, Value.slice.injEq] at e1 e2 e3 e4
    obtain ⟨rfl, rfl, rfl⟩ := e1
    obtain ⟨rfl, rfl, rfl⟩ := e2
    obtain ⟨rfl, rfl, rfl⟩ := e3
    obtain ⟨rfl, rfl, rfl⟩ := e4
    clear r0
    have hb : ((ws.length : Int) == 0) = false := beq_false_of_ne (by omega)
    have HM := Mid.start HB.out
    obtain ⟨olds, eo⟩ : ∃ olds, [((Value.slice (some ⟨gW, 0, none⟩) ws.length kW), (56 : TypeId), ws.map (·.v)), (.slice (some ⟨gN, 0, none⟩) ws.length kN, 56, ws.map (·.nv)), (.slice (some ⟨gM, 0, none⟩) ws.length kM, 3, ws.map (fun x => .int .i64 x.mark)), (.slice (some ⟨gD, 0, none⟩) ws.length kD, 3, ws.map (fun x => .int .i64 x.due))] = olds := ⟨_, rfl⟩
    rw [eo] at HM
    have HE : Hid ([((Value.slice (some ⟨gW, 0, none⟩) ws.length kW), (56 : TypeId), ws.map (·.v)), (.slice (some ⟨gN, 0, none⟩) ws.length kN, 56, ws.map (·.nv)), (.slice (some ⟨gM, 0, none⟩) ws.length kM, 3, ws.map (fun x => .int .i64 x.mark)), (.slice (some ⟨gD, 0, none⟩) ws.length kD, 3, ws.map (fun x => .int .i64 x.due))] = olds) := eo
    clear eo
    obtain ⟨w0, e0⟩ : ∃ w0, (((w.setCell ⟨K, 24, none⟩ (.slice none 0 0)).setCell ⟨K, 25, none⟩ (.slice none 0 0)).setCell ⟨K, 27, none⟩ (.slice none 0 0)).setCell ⟨K, 28, none⟩ (.slice none 0 0) = w0 := ⟨_, rfl⟩
    have hA : Hid (MarkAt w T lo K turn seen ws os olds 0 w0) := by
      show MarkAt _ _ _ _ _ _ _ _ _ _ _
      have e0' : (((w.setCell ⟨K, 24, none⟩ nil0).setCell ⟨K, 25, none⟩ nil0).setCell ⟨K, 27, none⟩ nil0).setCell ⟨K, 28, none⟩ nil0 = w0 := e0
      rw [e0'] at HM
      exact ⟨⟨_, hO, hT, nil0, nil0, hF, nil0, nil0, hR, [], os, [], by simpa using HM, by simp, by simp, by simp, by simp, by simp, by simp, by simp, HB.out.tags⟩⟩
    clear HM
    go_enter Tryz.func104, Tryz.ntmps104
    go_wp2
    go_loopw [6] (fun i wr => ∃ k : Nat, k ≤ ws.length ∧ i = .int .i64 k ∧ Hid (MarkAt w T lo K turn seen ws os olds k wr)) (fun i _ => ws.length - (intOf i).toNat)
    case atStart => exact ⟨0, Nat.zero_le _, rfl, hA⟩
    case round =>
      obtain ⟨k, hk, rfl, HM⟩ := hrel
      by_cases hlt : k < ws.length
      · obtain ⟨x, hx⟩ : ∃ x, ws[k] = x := ⟨_, rfl⟩
        have hxk : ws[k]? = some x := by rw [← hx]; exact List.getElem?_eq_getElem hlt
        have hdrop : ws.drop k = x :: ws.drop (k + 1) := by rw [← hx]; exact List.drop_eq_getElem_cons hlt
        obtain ⟨T1, hO1, hT1, hW1, hN1, hF1, hM1, hD1, hR1, ws1, os1, fr1, m1, l1, l2, l3, l4, l5, i1, i2, i3⟩ := HM.out.mid
        rw [hdrop] at m1
        have ec : ∀ v e xs, (v, e, xs) ∈ olds → ∀ g n c u, v = .slice (some ⟨g, 0, none⟩) n c → xs[k]? = some u → wr.cell? ⟨g, k, none⟩ = some u := fun v e xs h g n c u hv hu => by
          have r := (m1.kp.elder _ h).1
          subst hv
          have := World.ownsRow.cells r (g := g) rfl k u hu
          rw [add0] at this
          exact this
        have qW : wr.cell? ⟨gW, k, none⟩ = some x.v := ec (.slice (some ⟨gW, 0, none⟩) ws.length kW) 56 (ws.map (·.v)) (by rw [← HE.out]; simp) gW _ _ _ rfl (by rw [List.getElem?_map, hxk]; rfl)
        have qN : wr.cell? ⟨gN, k, none⟩ = some x.nv := ec (.slice (some ⟨gN, 0, none⟩) ws.length kN) 56 (ws.map (·.nv)) (by rw [← HE.out]; simp) gN _ _ _ rfl (by rw [List.getElem?_map, hxk]; rfl)
        have qM : wr.cell? ⟨gM, k, none⟩ = some (.int .i64 x.mark) := ec (.slice (some ⟨gM, 0, none⟩) ws.length kM) 3 (ws.map (fun x => .int .i64 x.mark)) (by rw [← HE.out]; simp) gM _ _ _ rfl (by rw [List.getElem?_map, hxk]; rfl)
        have qD : wr.cell? ⟨gD, k, none⟩ = some (.int .i64 x.due) := ec (.slice (some ⟨gD, 0, none⟩) ws.length kD) 3 (ws.map (fun x => .int .i64 x.due)) (by rw [← HE.out]; simp) gD _ _ _ rfl (by rw [List.getElem?_map, hxk]; rfl)
        have hid : x.id < seen := HB.out.ids x (by rw [← hx]; exact List.getElem_mem hlt)
        have hok := m1.kp.head.1
        obtain ⟨v, c, nv, mark, due, id⟩ := x
        obtain ⟨px, cx, ex⟩ := row_form hok.1.1
        obtain ⟨pn, cn, en⟩ := row_form hok.2.1
        simp only at ex en qW qN qM qD hid
        subst ex en
        have hmk : mark ≤ 100000000 := hok.1.2.2.2
        have hdu : due ≤ 100000000 := hok.2.2.2
        have hcl : c.length ≤ 1000000 := hok.1.2.2.1
        obtain ⟨y, ey⟩ : ∃ y : Lst ByteArray, y = ⟨.slice px c.length cx, c, .slice pn c.length cn, mark, due, id⟩ := ⟨_, rfl⟩
        rw [← ey] at m1 hok
        have HY : Hid (y = ⟨.slice px c.length cx, c, .slice pn c.length cn, mark, due, id⟩) := ey
        have HOK : Hid (y.ok Value.string 9 wr lo T1) := hok
        have M1 : Hid (Mid w T lo K (zB turn 0 seen) wr T1 [hO1, hT1, hW1, hN1, hF1, hM1, hD1, hR1] (XB ws1 os1 fr1) ws1 os1 fr1 (y :: ws.drop (k + 1)) olds) := m1
        have HI : Hid (ws1.length ≤ k ∧ os1.length ≤ os.length + k ∧ fr1.length ≤ k ∧ fr1.length + ws1.length ≤ k ∧ os1.length + ws1.length ≤ os.length + k ∧ (∀ x ∈ ws1, x.id < seen) ∧ (∀ x ∈ fr1, x.id < seen) ∧ (∀ o ∈ os1, o.tag < 11 + seen)) := ⟨l1, l2, l3, l4, l5, i1, i2, i3⟩
        have hl1 : ws1.length ≤ 1000000 := by omega
        have hl2 : os1.length ≤ 1000000 := by have := HB.out.no; omega
        have hl3 : fr1.length ≤ 1000000 := by omega
        have d2 : wr.cell? ⟨K, 2, none⟩ = some (.int .i64 turn) := m1.rows.rest 2 (by decide) (by decide)
        have d6 : wr.cell? ⟨K, 24, none⟩ = some hW1 := m1.rows.cell 2 (by decide)
        have d4 : wr.cell? ⟨K, 22, none⟩ = some hO1 := m1.rows.cell 0 (by decide)
        have fr0 : ∀ o, wr.frozen? ⟨K, o, none⟩ = false := m1.rows.fz
        obtain ⟨p0, k0, e0'⟩ := row_form (m1.rows.row 0 (by decide))
        obtain ⟨p1, k1, e1⟩ := row_form (m1.rows.row 1 (by decide))
        obtain ⟨p2, k2, e2⟩ := row_form (m1.rows.row 2 (by decide))
        obtain ⟨p3, k3, e3⟩ := row_form (m1.rows.row 3 (by decide))
        obtain ⟨p4, k4, e4⟩ := row_form (m1.rows.row 4 (by decide))
        obtain ⟨p5, k5, e5⟩ := row_form (m1.rows.row 5 (by decide))
        obtain ⟨p6, k6, e6⟩ := row_form (m1.rows.row 6 (by decide))
        obtain ⟨p7, k7, e7⟩ := row_form (m1.rows.row 7 (by decide))
        simp only [XB, List.getD_cons_succ, List.getD_cons_zero, List.length_map] at e0' e1 e2 e3 e4 e5 e6 e7
        subst e0' e1 e2 e3 e4 e5 e6 e7
        have EN : Hid (((Value.slice (some ⟨gN, 0, none⟩) ws.length kN), (56 : TypeId), ws.map (fun x : Lst ByteArray => x.nv)) ∈ olds ∧ (ws.map (fun x : Lst ByteArray => x.nv))[k]? = some (.slice pn c.length cn)) := ⟨by rw [← HE.out]; simp, by rw [List.getElem?_map, hxk]; rfl⟩
        have ED : Hid (((Value.slice (some ⟨gD, 0, none⟩) ws.length kD), (3 : TypeId), ws.map (fun x : Lst ByteArray => Value.int .i64 x.due)) ∈ olds ∧ (ws.map (fun x : Lst ByteArray => Value.int .i64 x.due))[k]? = some (.int .i64 due)) := ⟨by rw [← HE.out]; simp, by rw [List.getElem?_map, hxk]; rfl⟩
        clear m1 l1 l2 l3 l4 l5 i1 i2 i3 ec hok ey hdrop hxk hx HM c6 c7 c9 c10 fK hA e0
        obtain ⟨wd, ewd⟩ : ∃ wd, wr.drew = wd := ⟨_, rfl⟩
        have M2 : Hid (Mid w T lo K (zB turn 0 seen) wd T1 [.slice p0 os1.length k0, .slice p1 os1.length k1, .slice p2 ws1.length k2, .slice p3 ws1.length k3, .slice p4 fr1.length k4, .slice p5 ws1.length k5, .slice p6 ws1.length k6, .slice p7 fr1.length k7] [os1.map (·.v), os1.map (·.tv), ws1.map (·.v), ws1.map (·.nv), fr1.map (·.v), ws1.map (fun x => .int .i64 x.mark), ws1.map (fun x => .int .i64 x.due), fr1.map (fun x => .int .i64 x.mark)] ws1 os1 fr1 (y :: ws.drop (k + 1)) olds) := by
          rw [← ewd]; exact M1.out.drew
        have cd : ∀ b o u, wr.cell? ⟨b, o, none⟩ = some u → wd.cell? ⟨b, o, none⟩ = some u := fun b o u h => by rw [← ewd]; exact h
        have t2 := cd _ _ _ d2
        have t6 := cd _ _ _ d6
        have t4 := cd _ _ _ d4
        have tN := cd _ _ _ qN
        have tD := cd _ _ _ qD
        have fd : ∀ o, wd.frozen? ⟨K, o, none⟩ = false := M2.out.rows.fz
        clear cd
        by_cases hdue : turn < due
        · go_wp2_with fail
          go_region
          clear ewd d2 d6 d4 qN qD qW qM fr0 M1 t2 t4
          go_wp2_with (at_builtin; refine append_rowL rfl _ _ rfl M2.out.rows 2 24 ws1.length (by decide) rfl (by simp) hl1 ((Below.refl _ _).alloc (Nat.le_refl _) _) (.slice px c.length cx) rfl rfl _ rfl ?cq11 ?_)
          try (case cq11 => simp)
          intro p11 k11 wx11 G11
          obtain ⟨w11, e11⟩ : ∃ w11, wx11.setCell ⟨K, 24, none⟩ (.slice p11 (ws1.length + 1) k11) = w11 := ⟨_, rfl⟩
          obtain ⟨T11, m11'⟩ : ∃ T11, Mid w T lo K (zB turn 0 seen) w11 T11 [.slice p0 os1.length k0, .slice p1 os1.length k1, .slice p11 (ws1.length + 1) k11, .slice p3 ws1.length k3, .slice p4 fr1.length k4, .slice p5 ws1.length k5, .slice p6 ws1.length k6, .slice p7 fr1.length k7] [os1.map (·.v), os1.map (·.tv), ws1.map (·.v) ++ [.slice px c.length cx], ws1.map (·.nv), fr1.map (·.v), ws1.map (fun x => .int .i64 x.mark), ws1.map (fun x => .int .i64 x.due), fr1.map (fun x => .int .i64 x.mark)] ws1 os1 fr1 (y :: ws.drop (k + 1)) olds := ⟨_, by rw [← e11]; exact M2.out.step G11⟩
          have m11 : Hid (Mid w T lo K (zB turn 0 seen) w11 T11 [.slice p0 os1.length k0, .slice p1 os1.length k1, .slice p11 (ws1.length + 1) k11, .slice p3 ws1.length k3, .slice p4 fr1.length k4, .slice p5 ws1.length k5, .slice p6 ws1.length k6, .slice p7 fr1.length k7] [os1.map (·.v), os1.map (·.tv), ws1.map (·.v) ++ [.slice px c.length cx], ws1.map (·.nv), fr1.map (·.v), ws1.map (fun x => .int .i64 x.mark), ws1.map (fun x => .int .i64 x.due), fr1.map (fun x => .int .i64 x.mark)] ws1 os1 fr1 (y :: ws.drop (k + 1)) olds) := m11'
          have q11 : wx11.cell? ⟨K, 24, none⟩ = some (.slice p2 ws1.length k2) := G11.cell
          have g11 := G11.fz
          clear G11 m11' 
          have fw11 : ∀ o, w11.frozen? ⟨K, o, none⟩ = false := m11.out.rows.fz
          have cw11 : w11.cell? ⟨K, 25, none⟩ = some (.slice p3 ws1.length k3) := m11.out.rows.cell 3 (by decide)
          have zw11 : K < w11.heap.size := m11.out.rows.lt
          have sw11 : w11.cell? ⟨gN, k, none⟩ = some (.slice pn c.length cn) := m11.out.old EN.out.1 EN.out.2
          go_upto_region 13 with fail
          go_cut [8] (fun s8 wx => s8 = .int .i64 mark ∧ Hid (∃ p kq T', Mid w T lo K (zB turn 0 seen) wx T' [.slice p0 os1.length k0, .slice p1 os1.length k1, .slice p11 (ws1.length + 1) k11, .slice p (ws1.length + 1) kq, .slice p4 fr1.length k4, .slice p5 ws1.length k5, .slice p6 ws1.length k6, .slice p7 fr1.length k7] [os1.map (·.v), os1.map (·.tv), ws1.map (·.v) ++ [.slice px c.length cx], ws1.map (·.nv) ++ [.slice pn c.length cn], fr1.map (·.v), ws1.map (fun x => .int .i64 x.mark), ws1.map (fun x => .int .i64 x.due), fr1.map (fun x => .int .i64 x.mark)] ws1 os1 fr1 (y :: ws.drop (k + 1)) olds))
          case first =>
            have hg0 : ∀ o, (w11.drew.alloc o).cell? ⟨K, 25, none⟩ = some (.slice p3 ws1.length k3) := fun o => cellB (Below.heap_alloc w11.drew o K zw11) cw11
            go_region_law (refine step_rowL rfl _ _ rfl m11.out.rows 3 25 ws1.length (by decide) rfl (by simp) hl1 (((Below.refl _ w11).drew).alloc (Nat.le_refl _) _) (.slice pn c.length cn) rfl rfl ⟨w11.heap.size, 0, none⟩ rfl (by simp) ?_; intro p12 k12 wx12 G12; have q12 : wx12.cell? ⟨K, 25, none⟩ = some (.slice p3 ws1.length k3) := G12.cell; have g12 := G12.fz; have HG12 : Hid (Got w11 lo K T11 [.slice p0 os1.length k0, .slice p1 os1.length k1, .slice p11 (ws1.length + 1) k11, .slice p3 ws1.length k3, .slice p4 fr1.length k4, .slice p5 ws1.length k5, .slice p6 ws1.length k6, .slice p7 fr1.length k7] [os1.map (·.v), os1.map (·.tv), ws1.map (·.v) ++ [.slice px c.length cx], ws1.map (·.nv), fr1.map (·.v), ws1.map (fun x => .int .i64 x.mark), ws1.map (fun x => .int .i64 x.due), fr1.map (fun x => .int .i64 x.mark)] (zB turn 0 seen) 3 25 ws1.length (.slice pn c.length cn) (w11.drew.alloc (.cells #[.slice pn c.length cn] 56)) (.slice p12 (ws1.length + 1) k12) wx12) := G12; clear G12)
            all_goals (go_wp2_with fail; go_meet)
            all_goals exact ⟨rfl, _, _, _, m11.out.step HG12.out⟩
          case rest =>
            obtain ⟨rfl, HC⟩ := hcut
            obtain ⟨w12, ew⟩ : ∃ w12, w12 = wc := ⟨_, rfl⟩
            subst ew
            obtain ⟨p12, k12, T12, mm⟩ := HC.out
            have m12 : Hid (Mid w T lo K (zB turn 0 seen) w12 T12 [.slice p0 os1.length k0, .slice p1 os1.length k1, .slice p11 (ws1.length + 1) k11, .slice p12 (ws1.length + 1) k12, .slice p4 fr1.length k4, .slice p5 ws1.length k5, .slice p6 ws1.length k6, .slice p7 fr1.length k7] [os1.map (·.v), os1.map (·.tv), ws1.map (·.v) ++ [.slice px c.length cx], ws1.map (·.nv) ++ [.slice pn c.length cn], fr1.map (·.v), ws1.map (fun x => .int .i64 x.mark), ws1.map (fun x => .int .i64 x.due), fr1.map (fun x => .int .i64 x.mark)] ws1 os1 fr1 (y :: ws.drop (k + 1)) olds) := mm
            clear HC mm cw11 sw11 fw11
            have fw12 : ∀ o, w12.frozen? ⟨K, o, none⟩ = false := m12.out.rows.fz
            have cw12 : w12.cell? ⟨K, 27, none⟩ = some (.slice p5 ws1.length k5) := m12.out.rows.cell 5 (by decide)
            have zw12 : K < w12.heap.size := m12.out.rows.lt
            go_wp2_with (at_builtin; refine append_rowI rfl _ _ rfl m12.out.rows 5 27 ws1.length (by decide) (by decide) rfl (by simp) hl1 ((Below.refl _ _).alloc (Nat.le_refl _) _) (.int .i64 mark) rfl rfl _ rfl ?cq13 ?_)
            try (case cq13 => simp)
            intro p13 k13 wx13 G13
            obtain ⟨w13, e13⟩ : ∃ w13, wx13.setCell ⟨K, 27, none⟩ (.slice p13 (ws1.length + 1) k13) = w13 := ⟨_, rfl⟩
            obtain ⟨T13, m13'⟩ : ∃ T13, Mid w T lo K (zB turn 0 seen) w13 T13 [.slice p0 os1.length k0, .slice p1 os1.length k1, .slice p11 (ws1.length + 1) k11, .slice p12 (ws1.length + 1) k12, .slice p4 fr1.length k4, .slice p13 (ws1.length + 1) k13, .slice p6 ws1.length k6, .slice p7 fr1.length k7] [os1.map (·.v), os1.map (·.tv), ws1.map (·.v) ++ [.slice px c.length cx], ws1.map (·.nv) ++ [.slice pn c.length cn], fr1.map (·.v), ws1.map (fun x => .int .i64 x.mark) ++ [.int .i64 mark], ws1.map (fun x => .int .i64 x.due), fr1.map (fun x => .int .i64 x.mark)] ws1 os1 fr1 (y :: ws.drop (k + 1)) olds := ⟨_, by rw [← e13]; exact m12.out.step G13⟩
            have m13 : Hid (Mid w T lo K (zB turn 0 seen) w13 T13 [.slice p0 os1.length k0, .slice p1 os1.length k1, .slice p11 (ws1.length + 1) k11, .slice p12 (ws1.length + 1) k12, .slice p4 fr1.length k4, .slice p13 (ws1.length + 1) k13, .slice p6 ws1.length k6, .slice p7 fr1.length k7] [os1.map (·.v), os1.map (·.tv), ws1.map (·.v) ++ [.slice px c.length cx], ws1.map (·.nv) ++ [.slice pn c.length cn], fr1.map (·.v), ws1.map (fun x => .int .i64 x.mark) ++ [.int .i64 mark], ws1.map (fun x => .int .i64 x.due), fr1.map (fun x => .int .i64 x.mark)] ws1 os1 fr1 (y :: ws.drop (k + 1)) olds) := m13'
            have q13 : wx13.cell? ⟨K, 27, none⟩ = some (.slice p5 ws1.length k5) := G13.cell
            have g13 := G13.fz
            clear G13 m13' 
            have fw13 : ∀ o, w13.frozen? ⟨K, o, none⟩ = false := m13.out.rows.fz
            have cw13 : w13.cell? ⟨K, 28, none⟩ = some (.slice p6 ws1.length k6) := m13.out.rows.cell 6 (by decide)
            have zw13 : K < w13.heap.size := m13.out.rows.lt
            have sw13 : w13.cell? ⟨gD, k, none⟩ = some (.int .i64 due) := m13.out.old ED.out.1 ED.out.2
            go_upto_region 15 with fail
            go_cut [8] (fun s8 wx => s8 = .int .i64 mark ∧ Hid (∃ p kq T', Mid w T lo K (zB turn 0 seen) wx T' [.slice p0 os1.length k0, .slice p1 os1.length k1, .slice p11 (ws1.length + 1) k11, .slice p12 (ws1.length + 1) k12, .slice p4 fr1.length k4, .slice p13 (ws1.length + 1) k13, .slice p (ws1.length + 1) kq, .slice p7 fr1.length k7] [os1.map (·.v), os1.map (·.tv), ws1.map (·.v) ++ [.slice px c.length cx], ws1.map (·.nv) ++ [.slice pn c.length cn], fr1.map (·.v), ws1.map (fun x => .int .i64 x.mark) ++ [.int .i64 mark], ws1.map (fun x => .int .i64 x.due) ++ [.int .i64 due], fr1.map (fun x => .int .i64 x.mark)] ws1 os1 fr1 (y :: ws.drop (k + 1)) olds))
            case first =>
              have hg0 : ∀ o, (w13.drew.alloc o).cell? ⟨K, 28, none⟩ = some (.slice p6 ws1.length k6) := fun o => cellB (Below.heap_alloc w13.drew o K zw13) cw13
              go_region_law (refine step_rowI rfl _ _ rfl m13.out.rows 6 28 ws1.length (by decide) (by decide) rfl (by simp) hl1 (((Below.refl _ w13).drew).alloc (Nat.le_refl _) _) (.int .i64 due) rfl rfl ⟨w13.heap.size, 0, none⟩ rfl (by simp) ?_; intro p14 k14 wx14 G14; have q14 : wx14.cell? ⟨K, 28, none⟩ = some (.slice p6 ws1.length k6) := G14.cell; have g14 := G14.fz; have HG14 : Hid (Got w13 lo K T13 [.slice p0 os1.length k0, .slice p1 os1.length k1, .slice p11 (ws1.length + 1) k11, .slice p12 (ws1.length + 1) k12, .slice p4 fr1.length k4, .slice p13 (ws1.length + 1) k13, .slice p6 ws1.length k6, .slice p7 fr1.length k7] [os1.map (·.v), os1.map (·.tv), ws1.map (·.v) ++ [.slice px c.length cx], ws1.map (·.nv) ++ [.slice pn c.length cn], fr1.map (·.v), ws1.map (fun x => .int .i64 x.mark) ++ [.int .i64 mark], ws1.map (fun x => .int .i64 x.due), fr1.map (fun x => .int .i64 x.mark)] (zB turn 0 seen) 6 28 ws1.length (.int .i64 due) (w13.drew.alloc (.cells #[.int .i64 due] 3)) (.slice p14 (ws1.length + 1) k14) wx14) := G14; clear G14)
              all_goals (go_wp2_with fail; go_meet)
              all_goals exact ⟨rfl, _, _, _, m13.out.step HG14.out⟩
            case rest =>
              obtain ⟨rfl, HC⟩ := hcut
              obtain ⟨w14, ew⟩ : ∃ w14, w14 = wc := ⟨_, rfl⟩
              subst ew
              obtain ⟨p14, k14, T14, mm⟩ := HC.out
              have m14 : Hid (Mid w T lo K (zB turn 0 seen) w14 T14 [.slice p0 os1.length k0, .slice p1 os1.length k1, .slice p11 (ws1.length + 1) k11, .slice p12 (ws1.length + 1) k12, .slice p4 fr1.length k4, .slice p13 (ws1.length + 1) k13, .slice p14 (ws1.length + 1) k14, .slice p7 fr1.length k7] [os1.map (·.v), os1.map (·.tv), ws1.map (·.v) ++ [.slice px c.length cx], ws1.map (·.nv) ++ [.slice pn c.length cn], fr1.map (·.v), ws1.map (fun x => .int .i64 x.mark) ++ [.int .i64 mark], ws1.map (fun x => .int .i64 x.due) ++ [.int .i64 due], fr1.map (fun x => .int .i64 x.mark)] ws1 os1 fr1 (y :: ws.drop (k + 1)) olds) := mm
              clear HC mm cw13 sw13 fw13
              have FIN : Hid (MarkAt w T lo K turn seen ws os olds (k + 1) w14) := by
                obtain ⟨l1, l2, l3, l4, l5, i1, i2, i3⟩ := HI.out
                have ex : XB (ws1 ++ [y]) (os1) (fr1) = [os1.map (·.v), os1.map (·.tv), ws1.map (·.v) ++ [.slice px c.length cx], ws1.map (·.nv) ++ [.slice pn c.length cn], fr1.map (·.v), ws1.map (fun x => .int .i64 x.mark) ++ [.int .i64 mark], ws1.map (fun x => .int .i64 x.due) ++ [.int .i64 due], fr1.map (fun x => .int .i64 x.mark)] := by
                  rw [HY.out]
                  simp only [XB, List.map_append, List.map_cons, List.map_nil]
                have mm : Mid w T lo K (zB turn 0 seen) w14 T14 [.slice p0 os1.length k0, .slice p1 os1.length k1, .slice p11 (ws1.length + 1) k11, .slice p12 (ws1.length + 1) k12, .slice p4 fr1.length k4, .slice p13 (ws1.length + 1) k13, .slice p14 (ws1.length + 1) k14, .slice p7 fr1.length k7] (XB (ws1 ++ [y]) (os1) (fr1)) (ws1 ++ [y]) (os1) (fr1) (ws.drop (k + 1)) olds := by
                  rw [ex]; exact m14.out.lists m14.out.kp.wait
                refine ⟨⟨T14, .slice p0 os1.length k0, .slice p1 os1.length k1, .slice p11 (ws1.length + 1) k11, .slice p12 (ws1.length + 1) k12, .slice p4 fr1.length k4, .slice p13 (ws1.length + 1) k13, .slice p14 (ws1.length + 1) k14, .slice p7 fr1.length k7, ws1 ++ [y], os1, fr1, mm, by simp; omega, by omega, by omega, by simp; omega, by simp; omega, ?_, i2, i3⟩⟩
                intro x hx
                rcases List.mem_append.1 hx with hx | hx
                · exact i1 x hx
                · obtain rfl := List.mem_singleton.1 hx
                  rw [HY.out]; exact hid
              clear m14
              go_wp2
              go_roundw
              case rel => exact ⟨k + 1, by omega, by go_num, FIN⟩
              case measure => simp [intOf]; omega
        · have b1 : wd.cell? ⟨K, 1, none⟩ = some (.bool false) := M2.out.rows.rest 1 (by decide) (by decide)
          have b0 : wd.cell? ⟨K, 0, none⟩ = some (.bool false) := M2.out.rows.rest 0 (by decide) (by decide)
          have es1 : wd.setCell ⟨K, 1, none⟩ (.bool false) = wd := set_same b1
          have SV : Hid (Sd wd lo T1 (.slice px c.length cx) c (11 + id) ∧ HasT wd (.slice pn c.length cn) c) := by
            have h := M2.out.kp.head.1
            rw [HY.out] at h
            exact ⟨⟨h.1.1, h.1.2.1⟩, OwnsT.has (lo := lo) h.2.1⟩
          have CS : Hid (Calls Tryz.prog 73 #[.slice px c.length cx, .slice pn c.length cn] wd fun e w' => e = .returned (.bool true) ∧ w' = wd) := by
            exact sameTexts_eq (.slice px c.length cx) (.slice pn c.length cn) c wd SV.out.1.1.has SV.out.2 (by omega)
          go_wp2_with fail
          go_region
          clear ewd d2 d6 d4 qN qD qW qM fr0 M1 t2
          go_wp2_with (go_at_call 73; refine CS.out.mono ?_; rintro e wz ⟨rfl, hz⟩; have hz' := hz.symm; clear hz; subst hz')
          have HH : Hid (∀ z ∈ ws1 ++ ws.drop (k + 1) ++ fr1, z.id ≠ id) := by
            have h := M2.out.kp.head.2.2.1
            rw [HY.out] at h
            exact h
          have HH2 : Hid (∀ o ∈ os1, o.tag ≠ 11 + id) := by
            have h := M2.out.kp.head.2.2.2
            rw [HY.out] at h
            exact h
          have HW0 : Hid (WriteAt w T lo K turn seen wd T1 [.slice p0 os1.length k0, .slice p1 os1.length k1, .slice p2 ws1.length k2, .slice p3 ws1.length k3, .slice p4 fr1.length k4, .slice p5 ws1.length k5, .slice p6 ws1.length k6, .slice p7 fr1.length k7] [os1.map (·.v), os1.map (·.tv), ws1.map (·.v), ws1.map (·.nv), fr1.map (·.v), ws1.map (fun x => .int .i64 x.mark), ws1.map (fun x => .int .i64 x.due), fr1.map (fun x => .int .i64 x.mark)] ws1 os1 fr1 (ws.drop (k + 1)) olds (.slice px c.length cx) c mark id 0) := ⟨M2.out.lists M2.out.kp.head.2.1, by simpa [wrB] using SV.out.1⟩
          clear b1 b0 es1 SV CS t6 t4 tN tD fd
          go_loopw [9] (fun i wi => ∃ m : Nat, m ≤ c.length ∧ i = .int .i64 m ∧ Hid (WriteAt w T lo K turn seen wi T1 [.slice p0 os1.length k0, .slice p1 os1.length k1, .slice p2 ws1.length k2, .slice p3 ws1.length k3, .slice p4 fr1.length k4, .slice p5 ws1.length k5, .slice p6 ws1.length k6, .slice p7 fr1.length k7] [os1.map (·.v), os1.map (·.tv), ws1.map (·.v), ws1.map (·.nv), fr1.map (·.v), ws1.map (fun x => .int .i64 x.mark), ws1.map (fun x => .int .i64 x.due), fr1.map (fun x => .int .i64 x.mark)] ws1 os1 fr1 (ws.drop (k + 1)) olds (.slice px c.length cx) c mark id m)) (fun i _ => c.length - (intOf i).toNat)
          case atStart => exact ⟨0, Nat.zero_le _, rfl, HW0⟩
          case round =>
            clear HW0
            obtain ⟨m, hm, rfl, HW⟩ := hrel
            by_cases hmc : m < c.length
            · obtain ⟨g, e, hcell, hfz⟩ := HW.out.cell hmc
              subst e
              have CI : Hid (∀ wz, Below wr.heap.size wr wz → Calls Tryz.prog 148 #[.int .i64 ((mark : Int) + 3 * (m : Int))] wz fun e w'' => e = .returned (.string (markB mark m)) ∧ Below wz.heap.size wz w'') := fun wz hz => by
                have hr := HW.out.1.rows
                have h := HTB.out (mark + 3 * m) wz (by omega) ((HW.out.1.bel hlo).trans (hz.mono (by have := hr.ge; have := hr.lt; omega)))
                push_cast at h
                exact h
              have HU : Hid (∀ wz, Below wr.heap.size wr wz → ∃ b, wz.cell? ⟨g, m, none⟩ = some (.string b) ∧ wz.frozen? ⟨g, m, none⟩ = false ∧ WriteAt w T lo K turn seen (wz.setCell ⟨g, m, none⟩ (.string (markB mark m))) T1 [.slice p0 os1.length k0, .slice p1 os1.length k1, .slice p2 ws1.length k2, .slice p3 ws1.length k3, .slice p4 fr1.length k4, .slice p5 ws1.length k5, .slice p6 ws1.length k6, .slice p7 fr1.length k7] [os1.map (·.v), os1.map (·.tv), ws1.map (·.v), ws1.map (·.nv), fr1.map (·.v), ws1.map (fun x => .int .i64 x.mark), ws1.map (fun x => .int .i64 x.due), fr1.map (fun x => .int .i64 x.mark)] ws1 os1 fr1 (ws.drop (k + 1)) olds (.slice (some ⟨g, 0, none⟩) c.length cx) c mark id (m + 1)) := fun wz hz => by
                have hW := HW.out.up hz
                obtain ⟨g', e', ⟨b', hb'⟩, hf'⟩ := hW.cell hmc
                injection e' with e'
                injection e' with e'
                subst e'
                exact ⟨b', hb', hf', hW.next hmc HH.out HH2.out⟩
              obtain ⟨b0, hb0⟩ := hcell
              go_wp2_with fail
              refine (CI.out wr (Below.refl _ _)).mono ?_
              rintro e wn ⟨rfl, hbn⟩
              obtain ⟨b1, hb1, hf1, hn1⟩ := HU.out wn hbn
              have HN : Hid _ := hn1
              clear hn1 HU CI HW hbn hb0 hfz
              go_wp2
              exact ⟨⟨m + 1, by omega, by go_num, HN⟩, by simp [intOf]; omega⟩
            · obtain ⟨c', ec'⟩ : ∃ c', wrB c mark c.length = c' := ⟨_, rfl⟩
              have hcl' : c'.length ≤ 1000000 := by rw [← ec', wrB_len (Nat.le_refl _)]; exact hcl
              obtain rfl : m = c.length := by omega
              obtain ⟨mm, ss⟩ := HW.out
              rw [ec'] at ss
              have M3 : Hid (Mid w T lo K (zB turn 0 seen) wr T1 [.slice p0 os1.length k0, .slice p1 os1.length k1, .slice p2 ws1.length k2, .slice p3 ws1.length k3, .slice p4 fr1.length k4, .slice p5 ws1.length k5, .slice p6 ws1.length k6, .slice p7 fr1.length k7] [os1.map (·.v), os1.map (·.tv), ws1.map (·.v), ws1.map (·.nv), fr1.map (·.v), ws1.map (fun x => .int .i64 x.mark), ws1.map (fun x => .int .i64 x.due), fr1.map (fun x => .int .i64 x.mark)] ws1 os1 fr1 (ws.drop (k + 1)) olds) := mm
              have S3 : Hid (Sd wr lo T1 (.slice px c.length cx) c' (11 + id)) := ss
              clear mm ss ec' HW
              have fwr : ∀ o, wr.frozen? ⟨K, o, none⟩ = false := M3.out.rows.fz
              have cwr : wr.cell? ⟨K, 22, none⟩ = some (.slice p0 os1.length k0) := M3.out.rows.cell 0 (by decide)
              have zwr : K < wr.heap.size := M3.out.rows.lt
              go_wp2_with (at_builtin; refine append_rowL rfl _ _ rfl M3.out.rows 0 22 os1.length (by decide) rfl (by simp) hl2 ((Below.refl _ _).alloc (Nat.le_refl _) _) (.slice px c.length cx) rfl rfl _ rfl ?cq15 ?_)
              try (case cq15 => simp)
              intro p15 k15 wx15 G15
              obtain ⟨w15, e15⟩ : ∃ w15, wx15.setCell ⟨K, 22, none⟩ (.slice p15 (os1.length + 1) k15) = w15 := ⟨_, rfl⟩
              obtain ⟨T15, m15', S15_0'⟩ : ∃ T15, Mid w T lo K (zB turn 0 seen) w15 T15 [.slice p15 (os1.length + 1) k15, .slice p1 os1.length k1, .slice p2 ws1.length k2, .slice p3 ws1.length k3, .slice p4 fr1.length k4, .slice p5 ws1.length k5, .slice p6 ws1.length k6, .slice p7 fr1.length k7] [os1.map (·.v) ++ [.slice px c.length cx], os1.map (·.tv), ws1.map (·.v), ws1.map (·.nv), fr1.map (·.v), ws1.map (fun x => .int .i64 x.mark), ws1.map (fun x => .int .i64 x.due), fr1.map (fun x => .int .i64 x.mark)] ws1 os1 fr1 (ws.drop (k + 1)) olds ∧ Sd w15 lo T15 (.slice px c.length cx) (c') (11 + id) := ⟨_, by rw [← e15]; exact ⟨M3.out.step G15, G15.side S3.out (by omega)⟩⟩
              have m15 : Hid (Mid w T lo K (zB turn 0 seen) w15 T15 [.slice p15 (os1.length + 1) k15, .slice p1 os1.length k1, .slice p2 ws1.length k2, .slice p3 ws1.length k3, .slice p4 fr1.length k4, .slice p5 ws1.length k5, .slice p6 ws1.length k6, .slice p7 fr1.length k7] [os1.map (·.v) ++ [.slice px c.length cx], os1.map (·.tv), ws1.map (·.v), ws1.map (·.nv), fr1.map (·.v), ws1.map (fun x => .int .i64 x.mark), ws1.map (fun x => .int .i64 x.due), fr1.map (fun x => .int .i64 x.mark)] ws1 os1 fr1 (ws.drop (k + 1)) olds) := m15'
              have S15_0 : Hid (Sd w15 lo T15 (.slice px c.length cx) (c') (11 + id)) := S15_0'
              have q15 : wx15.cell? ⟨K, 22, none⟩ = some (.slice p0 os1.length k0) := G15.cell
              have g15 := G15.fz
              clear G15 m15' S15_0'
              have fw15 : ∀ o, w15.frozen? ⟨K, o, none⟩ = false := m15.out.rows.fz
              have cw15 : w15.cell? ⟨K, 23, none⟩ = some (.slice p1 os1.length k1) := m15.out.rows.cell 1 (by decide)
              have zw15 : K < w15.heap.size := m15.out.rows.lt
              obtain ⟨T16a, eT16a⟩ : ∃ T16a, upr T15 w15.heap.size 10 = T16a := ⟨_, rfl⟩
              have N16 : Hid (∀ b, w15.heap.size ≤ b → T16a b = 10) := fun b hb => by rw [← eT16a]; exact upr_new hb
              have m16a : Hid (Mid w T lo K (zB turn 0 seen) w15 T16a [.slice p15 (os1.length + 1) k15, .slice p1 os1.length k1, .slice p2 ws1.length k2, .slice p3 ws1.length k3, .slice p4 fr1.length k4, .slice p5 ws1.length k5, .slice p6 ws1.length k6, .slice p7 fr1.length k7] [os1.map (·.v) ++ [.slice px c.length cx], os1.map (·.tv), ws1.map (·.v), ws1.map (·.nv), fr1.map (·.v), ws1.map (fun x => .int .i64 x.mark), ws1.map (fun x => .int .i64 x.due), fr1.map (fun x => .int .i64 x.mark)] ws1 os1 fr1 (ws.drop (k + 1)) olds) := by rw [← eT16a]; exact m15.out.up10
              have S16a_0 : Hid (Sd w15 lo T16a (.slice px c.length cx) (c') (11 + id)) := by rw [← eT16a]; exact S15_0.out.up10
              have X16 : Hid (HasT w15 (.slice px c.length cx) (c')) := S16a_0.out.1.has
              clear eT16a
              go_upto_region 22 with fail
              go_cut [8] (fun s8 wx => s8 = .int .i64 mark ∧ Hid (∃ p kq T' tv, Mid w T lo K (zB turn 0 seen) wx T' [.slice p15 (os1.length + 1) k15, .slice p (os1.length + 1) kq, .slice p2 ws1.length k2, .slice p3 ws1.length k3, .slice p4 fr1.length k4, .slice p5 ws1.length k5, .slice p6 ws1.length k6, .slice p7 fr1.length k7] [os1.map (·.v) ++ [.slice px c.length cx], os1.map (·.tv) ++ [tv], ws1.map (·.v), ws1.map (·.nv), fr1.map (·.v), ws1.map (fun x => .int .i64 x.mark), ws1.map (fun x => .int .i64 x.due), fr1.map (fun x => .int .i64 x.mark)] ws1 os1 fr1 (ws.drop (k + 1)) olds ∧ Sd wx lo T' (.slice px c.length cx) (c') (11 + id) ∧ Sd wx lo T' (tv) (c') (10)))
              case first =>
                go_region_law (first
                  | (refine step_copyB rfl _ _ rfl w15.heap.size _ _ (c') rfl rfl (by exact owns_lit0 w15.drew) (X16.out.below (((Below.refl _ w15).drew).alloc (Nat.le_refl _) _)) (by omega) (by simp) ?_
                     intro pa ka wa ho5 hb5
                     have b5 : Below w15.heap.size w15 wa := (((Below.refl _ w15).drew).alloc (Nat.le_refl _) _).trans hb5
                     have d75 : wa.cell? ⟨K, 23, none⟩ = some (.slice p1 os1.length k1) := cellB (b5.block K zw15) cw15
                     have d75a : ∀ o, (wa.alloc o).cell? ⟨K, 23, none⟩ = some (.slice p1 os1.length k1) := fun o => cellB (Below.heap_alloc wa o K (by have := b5.size; omega)) d75
                     have HB5 : Hid (Below w15.heap.size w15 wa) := b5
                     have HO5 : Hid (OwnsT wa w15.heap.size (.slice pa (c').length ka) (c')) := ho5
                     clear hb5 b5 ho5)
                  | (refine step_rowL rfl _ _ rfl m16a.out.rows 1 23 os1.length (by decide) rfl (by simp) hl2 (HB5.out.alloc HB5.out.size _) (.slice pa (c').length ka) rfl rfl ⟨wa.heap.size, 0, none⟩ rfl (by simp) ?_
                     intro pb kb wb G6
                     have d76 : wb.cell? ⟨K, 23, none⟩ = some (.slice p1 os1.length k1) := G6.cell
                     have q6f := G6.fz
                     have HG6 : Hid (Got w15 lo K T16a [.slice p15 (os1.length + 1) k15, .slice p1 os1.length k1, .slice p2 ws1.length k2, .slice p3 ws1.length k3, .slice p4 fr1.length k4, .slice p5 ws1.length k5, .slice p6 ws1.length k6, .slice p7 fr1.length k7] [os1.map (·.v) ++ [.slice px c.length cx], os1.map (·.tv), ws1.map (·.v), ws1.map (·.nv), fr1.map (·.v), ws1.map (fun x => .int .i64 x.mark), ws1.map (fun x => .int .i64 x.due), fr1.map (fun x => .int .i64 x.mark)] (zB turn 0 seen) 1 23 os1.length (.slice pa (c').length ka) (wa.alloc (.cells #[.slice pa (c').length ka] 56)) (.slice pb (os1.length + 1) kb) wb) := G6
                     clear G6))
                all_goals (go_wp2_with fail; go_meet)
                all_goals
                  have gc := HG6.out.copy N16.out (by have := m16a.out.rows.ge; omega) zw15 HO5.out
                  exact ⟨rfl, _, _, _, _, m16a.out.step HG6.out, HG6.out.side S16a_0.out (by omega), gc.1, gc.2⟩
              case rest =>
                obtain ⟨rfl, HC⟩ := hcut
                obtain ⟨w16, ew⟩ : ∃ w16, w16 = wc := ⟨_, rfl⟩
                subst ew
                obtain ⟨p16, k16, T16, tv16, mm, ss0, ss1⟩ := HC.out
                have m16 : Hid (Mid w T lo K (zB turn 0 seen) w16 T16 [.slice p15 (os1.length + 1) k15, .slice p16 (os1.length + 1) k16, .slice p2 ws1.length k2, .slice p3 ws1.length k3, .slice p4 fr1.length k4, .slice p5 ws1.length k5, .slice p6 ws1.length k6, .slice p7 fr1.length k7] [os1.map (·.v) ++ [.slice px c.length cx], os1.map (·.tv) ++ [tv16], ws1.map (·.v), ws1.map (·.nv), fr1.map (·.v), ws1.map (fun x => .int .i64 x.mark), ws1.map (fun x => .int .i64 x.due), fr1.map (fun x => .int .i64 x.mark)] ws1 os1 fr1 (ws.drop (k + 1)) olds) := mm
                have S16_0 : Hid (Sd w16 lo T16 (.slice px c.length cx) (c') (11 + id)) := ss0
                have S16_1 : Hid (Sd w16 lo T16 (tv16) (c') (10)) := ss1
                clear HC mm ss0 ss1 cw15 fw15
                have fw16 : ∀ o, w16.frozen? ⟨K, o, none⟩ = false := m16.out.rows.fz
                have cw16 : w16.cell? ⟨K, 26, none⟩ = some (.slice p4 fr1.length k4) := m16.out.rows.cell 4 (by decide)
                have zw16 : K < w16.heap.size := m16.out.rows.lt
                go_wp2_with (at_builtin; refine append_rowL rfl _ _ rfl m16.out.rows 4 26 fr1.length (by decide) rfl (by simp) hl3 ((Below.refl _ _).alloc (Nat.le_refl _) _) (.slice px c.length cx) rfl rfl _ rfl ?cq17 ?_)
                try (case cq17 => simp)
                intro p17 k17 wx17 G17
                obtain ⟨w17, e17⟩ : ∃ w17, wx17.setCell ⟨K, 26, none⟩ (.slice p17 (fr1.length + 1) k17) = w17 := ⟨_, rfl⟩
                obtain ⟨T17, m17', S17_0', S17_1'⟩ : ∃ T17, Mid w T lo K (zB turn 0 seen) w17 T17 [.slice p15 (os1.length + 1) k15, .slice p16 (os1.length + 1) k16, .slice p2 ws1.length k2, .slice p3 ws1.length k3, .slice p17 (fr1.length + 1) k17, .slice p5 ws1.length k5, .slice p6 ws1.length k6, .slice p7 fr1.length k7] [os1.map (·.v) ++ [.slice px c.length cx], os1.map (·.tv) ++ [tv16], ws1.map (·.v), ws1.map (·.nv), fr1.map (·.v) ++ [.slice px c.length cx], ws1.map (fun x => .int .i64 x.mark), ws1.map (fun x => .int .i64 x.due), fr1.map (fun x => .int .i64 x.mark)] ws1 os1 fr1 (ws.drop (k + 1)) olds ∧ Sd w17 lo T17 (.slice px c.length cx) (c') (11 + id) ∧ Sd w17 lo T17 (tv16) (c') (10) := ⟨_, by rw [← e17]; exact ⟨m16.out.step G17, G17.side S16_0.out (by omega), G17.side S16_1.out (by omega)⟩⟩
                have m17 : Hid (Mid w T lo K (zB turn 0 seen) w17 T17 [.slice p15 (os1.length + 1) k15, .slice p16 (os1.length + 1) k16, .slice p2 ws1.length k2, .slice p3 ws1.length k3, .slice p17 (fr1.length + 1) k17, .slice p5 ws1.length k5, .slice p6 ws1.length k6, .slice p7 fr1.length k7] [os1.map (·.v) ++ [.slice px c.length cx], os1.map (·.tv) ++ [tv16], ws1.map (·.v), ws1.map (·.nv), fr1.map (·.v) ++ [.slice px c.length cx], ws1.map (fun x => .int .i64 x.mark), ws1.map (fun x => .int .i64 x.due), fr1.map (fun x => .int .i64 x.mark)] ws1 os1 fr1 (ws.drop (k + 1)) olds) := m17'
                have S17_0 : Hid (Sd w17 lo T17 (.slice px c.length cx) (c') (11 + id)) := S17_0'
                have S17_1 : Hid (Sd w17 lo T17 (tv16) (c') (10)) := S17_1'
                have q17 : wx17.cell? ⟨K, 26, none⟩ = some (.slice p4 fr1.length k4) := G17.cell
                have g17 := G17.fz
                clear G17 m17' S17_0' S17_1'
                have fw17 : ∀ o, w17.frozen? ⟨K, o, none⟩ = false := m17.out.rows.fz
                have cw17 : w17.cell? ⟨K, 29, none⟩ = some (.slice p7 fr1.length k7) := m17.out.rows.cell 7 (by decide)
                have zw17 : K < w17.heap.size := m17.out.rows.lt
                go_wp2_with (at_builtin; refine append_rowI rfl _ _ rfl m17.out.rows 7 29 fr1.length (by decide) (by decide) rfl (by simp) hl3 ((Below.refl _ _).alloc (Nat.le_refl _) _) (.int .i64 mark) rfl rfl _ rfl ?cq18 ?_)
                try (case cq18 => simp)
                intro p18 k18 wx18 G18
                obtain ⟨w18, e18⟩ : ∃ w18, wx18.setCell ⟨K, 29, none⟩ (.slice p18 (fr1.length + 1) k18) = w18 := ⟨_, rfl⟩
                obtain ⟨T18, m18', S18_0', S18_1'⟩ : ∃ T18, Mid w T lo K (zB turn 0 seen) w18 T18 [.slice p15 (os1.length + 1) k15, .slice p16 (os1.length + 1) k16, .slice p2 ws1.length k2, .slice p3 ws1.length k3, .slice p17 (fr1.length + 1) k17, .slice p5 ws1.length k5, .slice p6 ws1.length k6, .slice p18 (fr1.length + 1) k18] [os1.map (·.v) ++ [.slice px c.length cx], os1.map (·.tv) ++ [tv16], ws1.map (·.v), ws1.map (·.nv), fr1.map (·.v) ++ [.slice px c.length cx], ws1.map (fun x => .int .i64 x.mark), ws1.map (fun x => .int .i64 x.due), fr1.map (fun x => .int .i64 x.mark) ++ [.int .i64 mark]] ws1 os1 fr1 (ws.drop (k + 1)) olds ∧ Sd w18 lo T18 (.slice px c.length cx) (c') (11 + id) ∧ Sd w18 lo T18 (tv16) (c') (10) := ⟨_, by rw [← e18]; exact ⟨m17.out.step G18, G18.side S17_0.out (by omega), G18.side S17_1.out (by omega)⟩⟩
                have m18 : Hid (Mid w T lo K (zB turn 0 seen) w18 T18 [.slice p15 (os1.length + 1) k15, .slice p16 (os1.length + 1) k16, .slice p2 ws1.length k2, .slice p3 ws1.length k3, .slice p17 (fr1.length + 1) k17, .slice p5 ws1.length k5, .slice p6 ws1.length k6, .slice p18 (fr1.length + 1) k18] [os1.map (·.v) ++ [.slice px c.length cx], os1.map (·.tv) ++ [tv16], ws1.map (·.v), ws1.map (·.nv), fr1.map (·.v) ++ [.slice px c.length cx], ws1.map (fun x => .int .i64 x.mark), ws1.map (fun x => .int .i64 x.due), fr1.map (fun x => .int .i64 x.mark) ++ [.int .i64 mark]] ws1 os1 fr1 (ws.drop (k + 1)) olds) := m18'
                have S18_0 : Hid (Sd w18 lo T18 (.slice px c.length cx) (c') (11 + id)) := S18_0'
                have S18_1 : Hid (Sd w18 lo T18 (tv16) (c') (10)) := S18_1'
                have q18 : wx18.cell? ⟨K, 29, none⟩ = some (.slice p7 fr1.length k7) := G18.cell
                have g18 := G18.fz
                clear G18 m18' S18_0' S18_1'
                have FIN : Hid (MarkAt w T lo K turn seen ws os olds (k + 1) w18) := by
                  obtain ⟨l1, l2, l3, l4, l5, i1, i2, i3⟩ := HI.out
                  have ex : XB (ws1) (os1 ++ [⟨.slice px c.length cx, tv16, c', 11 + id⟩]) (fr1 ++ [⟨.slice px c.length cx, c', .slice pn c.length cn, mark, due, id⟩]) = [os1.map (·.v) ++ [.slice px c.length cx], os1.map (·.tv) ++ [tv16], ws1.map (·.v), ws1.map (·.nv), fr1.map (·.v) ++ [.slice px c.length cx], ws1.map (fun x => .int .i64 x.mark), ws1.map (fun x => .int .i64 x.due), fr1.map (fun x => .int .i64 x.mark) ++ [.int .i64 mark]] := by
                    simp only [XB, List.map_append, List.map_cons, List.map_nil]
                  have mm : Mid w T lo K (zB turn 0 seen) w18 T18 [.slice p15 (os1.length + 1) k15, .slice p16 (os1.length + 1) k16, .slice p2 ws1.length k2, .slice p3 ws1.length k3, .slice p17 (fr1.length + 1) k17, .slice p5 ws1.length k5, .slice p6 ws1.length k6, .slice p18 (fr1.length + 1) k18] (XB (ws1) (os1 ++ [⟨.slice px c.length cx, tv16, c', 11 + id⟩]) (fr1 ++ [⟨.slice px c.length cx, c', .slice pn c.length cn, mark, due, id⟩])) (ws1) (os1 ++ [⟨.slice px c.length cx, tv16, c', 11 + id⟩]) (fr1 ++ [⟨.slice px c.length cx, c', .slice pn c.length cn, mark, due, id⟩]) (ws.drop (k + 1)) olds := by
                    rw [ex]; exact m18.out.lists (m18.out.kp.due (x := ⟨.slice px c.length cx, c, .slice pn c.length cn, mark, due, id⟩) HH.out HH2.out ⟨S18_0.out.1, S18_0.out.2, hcl', hmk⟩ S18_1.out.1 S18_1.out.2)
                  refine ⟨⟨T18, .slice p15 (os1.length + 1) k15, .slice p16 (os1.length + 1) k16, .slice p2 ws1.length k2, .slice p3 ws1.length k3, .slice p17 (fr1.length + 1) k17, .slice p5 ws1.length k5, .slice p6 ws1.length k6, .slice p18 (fr1.length + 1) k18, ws1, os1 ++ [⟨.slice px c.length cx, tv16, c', 11 + id⟩], fr1 ++ [⟨.slice px c.length cx, c', .slice pn c.length cn, mark, due, id⟩], mm, by omega, by simp; omega, by simp; omega, by simp; omega, by simp; omega, i1, ?_, ?_⟩⟩
                  · intro x hx
                    rcases List.mem_append.1 hx with hx | hx
                    · exact i2 x hx
                    · obtain rfl := List.mem_singleton.1 hx
                      exact hid
                  · intro o ho
                    rcases List.mem_append.1 ho with ho | ho
                    · exact i3 o ho
                    · obtain rfl := List.mem_singleton.1 ho
                      show 11 + id < 11 + seen
                      omega
                clear m18 S18_0 S18_1
                go_wp2
                go_roundw
                case rel => exact ⟨k + 1, by omega, by go_num, FIN⟩
                case measure => simp [intOf]; omega
      · obtain rfl : k = ws.length := by omega
        have FIN : ∃ T' hs' ws' os' fr', Mid w T lo K (zB turn 0 seen) wr T' hs' (XB ws' os' fr') ws' os' fr' [] [] ∧
            fr'.length + ws'.length ≤ ws.length ∧ os'.length + ws'.length ≤ os.length + ws.length ∧ fr'.length ≤ ws.length ∧ (∀ x ∈ ws', x.id < seen) ∧ (∀ x ∈ fr', x.id < seen) ∧ (∀ o ∈ os', o.tag < 11 + seen) := by
          obtain ⟨T1, hO1, hT1, hW1, hN1, hF1, hM1, hD1, hR1, ws1, os1, fr1, m1, l1, l2, l3, l4, l5, i1, i2, i3⟩ := HM.out.mid
          rw [List.drop_length] at m1
          exact ⟨T1, _, ws1, os1, fr1, m1.lists m1.kp.drop_olds, by omega, by omega, by omega, i1, i2, i3⟩
        have HFN : Hid _ := FIN
        clear FIN HM
        go_wp2
        go_end0
        exact ⟨rfl, HFN.out⟩
end Go.Proofs.YtbjjbgaomoihaaaGreatDoor.Bk
