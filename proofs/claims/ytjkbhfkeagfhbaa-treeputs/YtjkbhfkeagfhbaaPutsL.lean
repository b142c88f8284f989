/-
  What TreePuts asks, in plain Lean; Drop, equal and returns by contract.
-/
import Derived.Test.YtjkbhfkeagfhbaaTDrop
import Derived.Test.YtjkbhfkeagfhbaaElse
import Derived.Test.YtjkbhfkeagfhbaaAlike
namespace Go.Proofs.Ytjkbhfkeagfhbaa
open Go.RowKit

theorem wayE_of {t u : T3} {s : ByteArray} (h : wayE t s = 0) (hv : cutN s ≠ [] → (dn u (cutN s).dropLast).map (·.1) = (dn t (cutN s).dropLast).map (·.1)) : wayE u s = 0 := by
  unfold wayE at h ⊢
  split at h
  · rename_i h1; exact absurd h h1
  · rename_i h1
    rw [if_neg h1]
    split at h
    · rename_i h2; rw [if_pos h2]
    · rename_i h2
      rw [if_neg h2]
      have hv := hv h2
      cases hd : dn t (cutN s).dropLast with
      | none => rw [hd] at h; cases h
      | some x =>
        rw [hd] at h hv
        cases hu : dn u (cutN s).dropLast with
        | none => rw [hu] at hv; cases hv
        | some y =>
          rw [hu] at hv
          injection hv with hv
          have hv : y.1 = x.1 := hv
          simp only at h ⊢
          rw [hv]
          exact h
theorem not_pre {L : List ByteArray} (h : L ≠ []) : ¬ L <+: L.dropLast := fun q => by
  have h1 := q.length_le
  have h2 := List.length_pos_iff.2 h
  simp at h1
  omega
theorem pre_dropLast {L M : List ByteArray} (h : L <+: M.dropLast) : L <+: M := h.trans (List.dropLast_prefix M)
theorem F.get_depth {nm : ByteArray} {y : T3} : ∀ {f : F}, f.get nm = some y → y.2.2.depth + 1 ≤ f.depth
  | .nil, h => by cases h
  | .cons n v m k r, h => by
    rw [F.get] at h
    split at h
    · injection h with h
      subst h
      simp only [F.depth]; omega
    · have := F.get_depth h
      simp only [F.depth]; omega
theorem dn_depth : ∀ {t : T3} {L : List ByteArray} {s : T3}, dn t L = some s → L.length + s.2.2.depth ≤ t.2.2.depth
  | t, [], s, h => by injection h with h; subst h; simp
  | t, nm :: L, s, h => by
    rw [dn] at h
    cases hg : t.2.2.get nm with
    | none => rw [hg] at h; cases h
    | some y =>
      rw [hg] at h
      have h1 := dn_depth (t := y) h
      have h2 := F.get_depth hg
      simp only [List.length_cons]
      omega
theorem dn_dropT : ∀ {t : T3} {L : List ByteArray} {s : T3}, t.2.2.rises → L ≠ [] → dn t L = some s → (dn (dropT t L) L.dropLast).map (·.1) = (dn t L.dropLast).map (·.1)
  | t, [], _, _, h, _ => absurd rfl h
  | t, [nm], s, _, _, _ => by
    show (dn (dropT t [nm]) []).map (·.1) = (dn t []).map (·.1)
    rw [dn, dn]
    show some (dropT t [nm]).1 = some t.1
    rw [dropT_val.1]
  | t, nm :: b :: L, s, ht, _, h => by
    rw [dn] at h
    cases hg : t.2.2.get nm with
    | none => rw [hg] at h; cases h
    | some y =>
      rw [hg] at h
      rw [List.dropLast_cons_of_ne_nil (by simp), dn, dn, dropT_get ht hg, if_pos rfl, hg]
      exact dn_dropT (F.rises_get ht hg).1 (by simp) h
/-- a tree stands there -/
def T1 (w : World) (p : Nat) (t : T3) : Prop := AtTF (fun _ => True) w p t.1 t.2.1 t.2.2
theorem T1.grow {w w' : World} {p : Nat} {t : T3} (h : T1 w p t) (hg : G w w') : T1 w' p t := AtTF.grow h hg
set_option maxRecDepth 100000 in
set_option maxHeartbeats 1000000 in
theorem drop_done (p : Nat) (t : T3) (s : ByteArray) (w : World) (ht : T1 w p t) (hr : t.2.2.rises) (hs : s.size ≤ 1048576) (hw : wayE t s = 0) (hc : cutN s ≠ []) (z : T3) (hd : dn t (cutN s) = some z) (hz : t.2.2.size ≤ 300000) :
    Calls Try.prog 55 #[.pointer (some ⟨p, 0, none⟩), .string s] w fun e w' => ∃ p', e = .returned (.tuple #[.pointer (some ⟨p', 0, none⟩), .int .i64 0]) ∧ T1 w' p' (dropT t (cutN s)) ∧ G w w' := by
  have C1 := way_any p t s w ht hr hs
  rw [hw] at C1
  have HT := hid (⟨ht, hr, hd, hc, hz, names_ok (wayE_ok hw).1⟩ : _ ∧ _ ∧ _ ∧ _ ∧ _ ∧ _)
  obtain ⟨n0, hn0⟩ : ∃ n, (cutN s).length = n + 1 := ⟨(cutN s).length - 1, by have := List.length_pos_iff.2 hc; omega⟩
  clear ht hr hw hc hz hd
  go_enter Try.func55, Try.ntmps55
  go_wp2_with fail
  refine C1.mono ?_
  rintro e w1 ⟨an, n, cn, rfl, hn, hg1⟩
  obtain ⟨rfl, hn2, hn3⟩ := hn (by simp)
  have CD := down_any p t _ _ w1 (AtTF.grow HT.out.1 hg1) HT.out.2.1 hn2 (by omega)
  rw [HT.out.2.2.1] at CD
  have CT := tdrop_any (cutN s) (fun _ => True) w1 (some ⟨p, 0, none⟩) t an cn (fun _ _ => trivial) (fun _ => ⟨p, rfl, AtTF.grow HT.out.1 hg1, HT.out.2.1, by have := HT.out.2.2.2.2.1; omega⟩) ⟨z, HT.out.2.2.1⟩ hn2 hn3 (fun x hx => by have := HT.out.2.2.2.2.2 x hx; omega)
  have HG1 := hid hg1
  rw [hn0] at CD CT ⊢
  clear hn hn2 hg1 C1
  go_wp2_with fail
  refine CD.mono ?_
  rintro e w2 ⟨⟨u, rfl, p2, rfl, _⟩, e2⟩
  subst e2
  go_wp2_with fail
  refine CT.mono ?_
  rintro e w3 ⟨a3, rfl, _, h3, hg3⟩
  obtain ⟨p3, e3, h33⟩ := h3 HT.out.2.2.2.1
  subst e3
  have H3 := hid (⟨h33, HG1.out.trans hg3⟩ : _ ∧ _)
  clear CD CT h3 h33 hg3
  go_wp2_with fail
  go_ret2
  exact ⟨p3, rfl, H3.out.1, H3.out.2⟩
set_option maxRecDepth 100000 in
set_option maxHeartbeats 1000000 in
theorem eq20 (p q : Nat) (t : T3) (w : World) (hp : T1 w p t) (hq : T1 w q t) (hs : t.2.2.size ≤ 100000) :
    Calls Try.prog 20 #[.pointer (some ⟨p, 0, none⟩), .pointer (some ⟨q, 0, none⟩)] w fun e w' => e = .returned (.bool true) ∧ G w w' := by
  obtain ⟨k, h1, h2, _⟩ := hp
  obtain ⟨j, g1, g2, _⟩ := hq
  have CP := fun W (hW : G w W) => treeNode_any _ k (Nat.lt_succ_self _) p t.1 t.2.1 W (h1.grow hW) (by rw [h2]; exact hs)
  have CQ := fun W (hW : G w W) => treeNode_any _ j (Nat.lt_succ_self _) q t.1 t.2.1 W (g1.grow hW) (by rw [g2]; exact hs)
  rw [h2] at CP
  rw [g2] at CQ
  have HP := hid CP
  have HQ := hid CQ
  clear CP CQ h1 h2 g1 g2
  go_enter Try.func20, Try.ntmps20
  go_wp2_with fail
  refine (HP.out w (G.refl w)).mono ?_
  rintro e w2 ⟨c2, rfl, hn2, hg2⟩
  have H2 := hid (⟨hn2.has, hg2⟩ : _ ∧ _)
  clear hn2 hg2
  go_wp2_with fail
  refine (HQ.out w2 H2.out.2).mono ?_
  rintro e w3 ⟨c3, rfl, hn3, hg3⟩
  have hl : t.2.2.okL := by unfold F.okL; omega
  have C := sameNode_any ⟨#[]⟩ ⟨#[]⟩ t.1 t.1 t.2.1 t.2.1 t.2.2 t.2.2 c2 c3 w3 (H2.out.1.below hg3) hn3.has hl hl
  rw [decide_eq_true ⟨rfl, rfl, rfl, rfl⟩] at C
  have H3 := hid (H2.out.2.trans hg3)
  clear hn3 hg3 H2
  go_wp2_with fail
  refine C.mono ?_
  rintro e w4 ⟨rfl, hg4⟩
  have H4 := hid (H3.out.trans hg4)
  clear C hg4 H3
  go_wp2_with fail
  go_ret
  exact ⟨rfl, H4.out⟩
/-- Put that is done -/
theorem put_done (p ps : Nat) (t s x : T3) (q : ByteArray) (w : World) (ht : T1 w p t) (hs : T1 w ps s) (hr : t.2.2.rises) (hq : q.size ≤ 1048576) (hb : t.2.2.size + s.2.2.size ≤ 300000) (hE : putE t s q = 0) (hx : putT t (cutN q) s = x) :
    Calls Try.prog 18 #[.pointer (some ⟨p, 0, none⟩), .string q, .pointer (some ⟨ps, 0, none⟩)] w fun e w' => ∃ p', e = .returned (.tuple #[.pointer (some ⟨p', 0, none⟩), .int .i64 0]) ∧ T1 w' p' x ∧ G w w' := by
  refine (put_any p ps t s q w ht hs hr hq hb (fun _ _ => trivial)).mono ?_
  rintro e w' ⟨u, rfl, hg, _, h⟩
  obtain ⟨p', e2, h2⟩ := h hE
  rw [hE, ← hx, e2]
  exact ⟨p', rfl, h2, hg⟩
theorem putE_ok {t s : T3} {q : ByteArray} (h : putE t s q = 0) : wayE t q = 0 ∧ (cutN q).length + s.2.2.depth ≤ 64 := by
  unfold putE at h
  split at h
  · rename_i h1; exact absurd h h1
  · rename_i h1
    split at h
    · cases h
    · exact ⟨Classical.not_not.1 h1, by omega⟩
theorem putE_of {t s : T3} {q : ByteArray} (h1 : wayE t q = 0) (h2 : (cutN q).length + s.2.2.depth ≤ 64) : putE t s q = 0 := by
  unfold putE
  rw [if_neg (fun h => h h1), if_neg (by omega)]
set_option maxRecDepth 100000 in
set_option maxHeartbeats 2000000 in
/-- returns: Drop behind a Put -/
theorem returns_any (pt px : Nat) (t a : T3) (p : ByteArray) (w : World) (ht : T1 w pt t) (hx : T1 w px (putT t (cutN p) a)) (hF : Fine t) (hA : Fine a) (hp : p.size ≤ 1048576) (hE : putE t a p = 0) (hL : cutN p ≠ []) (hs : t.2.2.size ≤ 20000) (hs2 : a.2.2.size ≤ 20000) :
    Calls Try.prog 22 #[.pointer (some ⟨pt, 0, none⟩), .pointer (some ⟨px, 0, none⟩), .string p] w fun e w' => e = .returned (.bool true) ∧ G w w' := by
  obtain ⟨hw, hdp⟩ := putE_ok hE
  obtain ⟨hsp, hwt⟩ := wayE_ok hw
  have hrx := putT_rises (L := cutN p) hF.rises hA.rises
  have hxs : (putT t (cutN p) a).2.2.size ≤ 41000 := by
    have h1 := putT_size (s := a) hF.rises hwt
    have h2 := names_few hsp
    omega
  have hwx : wayE (putT t (cutN p) a) p = 0 := wayE_of hw fun _ => dn_apart hF.rises hA.rises hwt (not_pre hL)
  have hdx : dn (putT t (cutN p) a) (cutN p) = some a := dn_putT hF.rises hA.rises
  have C1 := drop_done px (putT t (cutN p) a) p w hx hrx hp hwx hL a hdx (by omega)
  rw [dropT_putT hL hF.rises hA.rises hwt] at C1
  obtain ⟨y, hy⟩ : ∃ y, dropT t (cutN p) = y := ⟨_, rfl⟩
  have hys : y.2.2.size ≤ 20000 := by have := dropT_size (L := cutN p) hF.rises; rw [hy] at this; omega
  have hyr : y.2.2.rises := by rw [← hy]; exact dropT_rises hF.rises
  rw [hy] at C1
  have HT := hid (⟨ht, hF, hp, hw, hL, hs⟩ : _ ∧ _ ∧ _ ∧ _ ∧ _ ∧ _)
  have HY := hid (⟨hy, hys, hyr⟩ : _ ∧ _ ∧ _)
  clear ht hx hF hA hp hE hs hs2 hw hdp hwt hrx hxs hwx hdx hy hys hyr
  go_enter Try.func22, Try.ntmps22
  go_wp2_with fail
  refine C1.mono ?_
  rintro e w2 ⟨py, rfl, h2, hg2⟩
  have H2 := hid (⟨h2, hg2⟩ : _ ∧ _)
  have C2 := sub_any pt t p w2 (AtTF.grow HT.out.1 hg2) HT.out.2.1.rises HT.out.2.2.1
  clear C1 h2 hg2
  cases hS : subS t p with
  | none =>
    rw [hS] at C2
    have hdn : dn t (cutN p) = none := by unfold subS at hS; rw [if_pos hsp] at hS; exact hS
    have hyt : y = t := by rw [← HY.out.1]; exact dropT_none HT.out.2.2.2.2.1 HT.out.2.1.rises hdn
    subst hyt
    go_wp2_with fail
    refine C2.mono ?_
    rintro e w3 ⟨u, rfl, hu, hg3⟩
    have hu2 : u = .pointer none := hu
    subst hu2
    have H3 := hid (⟨H2.out.1.grow hg3, HT.out.1.grow (H2.out.2.trans hg3), H2.out.2.trans hg3⟩ : _ ∧ _ ∧ _)
    clear C2 hu hg3 H2
    go_wp2_with fail
    refine (eq20 py pt y w3 H3.out.1 H3.out.2.1 (by have := HY.out.2.1; omega)).mono ?_
    rintro e w4 ⟨rfl, hg4⟩
    have H4 := hid (H3.out.2.2.trans hg4)
    clear hg4 H3
    go_wp2_with fail
    go_ret
    exact ⟨rfl, H4.out⟩
  | some s0 =>
    rw [hS] at C2
    have hdn : dn t (cutN p) = some s0 := by unfold subS at hS; rw [if_pos hsp] at hS; exact hS
    have hs0 := dn_rises HT.out.2.1.rises hdn
    have hEy : putE y s0 p = 0 := by
      refine putE_of ?_ ?_
      · refine wayE_of HT.out.2.2.2.1 fun _ => ?_
        rw [← HY.out.1]
        exact dn_dropT HT.out.2.1.rises HT.out.2.2.2.2.1 hdn
      · have h1 := dn_depth hdn
        have h2 := HT.out.2.1.depth
        omega
    have hyt : putT y (cutN p) s0 = t := by rw [← HY.out.1]; exact putT_dropT HT.out.2.1.rises hdn
    have HE := hid (⟨hEy, hyt, hdn, hs0⟩ : _ ∧ _ ∧ _ ∧ _)
    clear hEy hyt hs0 hdn
    go_wp2_with fail
    refine C2.mono ?_
    rintro e w3 ⟨u, rfl, hu, hg3⟩
    obtain ⟨p3, rfl, hp3⟩ := hu
    have H3 := hid (⟨H2.out.1.grow hg3, HT.out.1.grow (H2.out.2.trans hg3), H2.out.2.trans hg3, hp3⟩ : T1 w3 py y ∧ T1 w3 pt t ∧ G w w3 ∧ T1 w3 p3 s0)
    clear C2 hg3 H2 hp3
    go_wp2_with fail
    refine (put_done py p3 y s0 t p w3 H3.out.1 H3.out.2.2.2 HY.out.2.2 HT.out.2.2.1 (by have h1 := HY.out.2.1; have h2 := HE.out.2.2.2.2; have h3 := HT.out.2.2.2.2.2; omega) HE.out.1 HE.out.2.1).mono ?_
    rintro e w4 ⟨p4, rfl, hp4, hg4⟩
    have H4 := hid (⟨H3.out.1.grow hg4, H3.out.2.1.grow hg4, H3.out.2.2.1.trans hg4, hp4⟩ : T1 w4 py y ∧ T1 w4 pt t ∧ G w w4 ∧ T1 w4 p4 t)
    clear hg4 hp4 H3
    have C5 := drop_done pt t p w4 H4.out.2.1 HT.out.2.1.rises HT.out.2.2.1 HT.out.2.2.2.1 HT.out.2.2.2.2.1 s0 HE.out.2.2.1 (by have := HT.out.2.2.2.2.2; omega)
    rw [HY.out.1] at C5
    go_wp2_with fail
    refine C5.mono ?_
    rintro e w5 ⟨p5, rfl, hp5, hg5⟩
    have H5 := hid (⟨H4.out.1.grow hg5, H4.out.2.1.grow hg5, H4.out.2.2.1.trans hg5, H4.out.2.2.2.grow hg5, hp5⟩ : T1 w5 py y ∧ T1 w5 pt t ∧ G w w5 ∧ T1 w5 p4 t ∧ T1 w5 p5 y)
    clear hg5 hp5 H4 C5
    go_wp2_with fail
    refine (eq20 p4 pt t w5 H5.out.2.2.2.1 H5.out.2.1 (by have := HT.out.2.2.2.2.2; omega)).mono ?_
    rintro e w6 ⟨rfl, hg6⟩
    have H6 := hid (⟨H5.out.1.grow hg6, H5.out.2.2.1.trans hg6, H5.out.2.2.2.2.grow hg6⟩ : T1 w6 py y ∧ G w w6 ∧ T1 w6 p5 y)
    clear hg6 H5
    go_wp2_with fail
    refine (eq20 p5 py y w6 H6.out.2.2 H6.out.1 (by have := HY.out.2.1; omega)).mono ?_
    rintro e w7 ⟨rfl, hg7⟩
    have H7 := hid (H6.out.2.1.trans hg7)
    clear hg7 H6
    go_wp2_with fail
    go_ret
    exact ⟨rfl, H7.out⟩
end Go.Proofs.Ytjkbhfkeagfhbaa
