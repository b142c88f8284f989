/-
  TreePuts: the walk.
-/
import Derived.Test.YtjkbhfkeagfhbaaFrame
import Derived.Test.YtjkbhfkeagfhbaaPutsL
namespace Go.Proofs.Ytjkbhfkeagfhbaa
open Go.RowKit

/-- these trees stand -/
def TS (W : World) (l : List (Nat × T3)) : Prop := ∀ z ∈ l, T1 W z.1 z.2
theorem TS.grow {W W' : World} {l : List (Nat × T3)} (h : TS W l) (hg : G W W') : TS W' l := fun z hz => (h z hz).grow hg
theorem TS.cons {W : World} {l : List (Nat × T3)} {p : Nat} {t : T3} (h : T1 W p t) (hl : TS W l) : TS W ((p, t) :: l) := fun z hz => by
  rcases List.mem_cons.1 hz with rfl | hz
  · exact h
  · exact hl z hz
theorem Tre.t1 {W : World} {p : Nat} {t : T3} (h : Tre W p t) : T1 W p t ∧ Fine t ∧ t.2.2.size ≤ 20000 := by
  obtain ⟨k, h1, h2, h3, h4, h5, h6⟩ := h
  exact ⟨AtTF.of h1 h2, Fine.of h5, by have := F.size_le_weight t.2.2; omega⟩
theorem cutN_ne {p : ByteArray} (h : p.size ≠ 0) : cutN p ≠ [] := by
  unfold cutN pieces
  rw [if_neg (fun e => h (by have := tl_len p; rw [e] at this; simpa using this.symm))]
  simp [cuts]
theorem cutN_nil {p : ByteArray} (h : p.size = 0) : cutN p = [] := by
  unfold cutN pieces
  rw [if_pos (List.length_eq_zero_iff.1 (by rw [tl_len]; exact h))]
  rfl
/-- what holds where the first Put is done -/
structure PF (t a : T3) (p : ByteArray) : Prop where
  ft : Fine t
  fa : Fine a
  st : t.2.2.size ≤ 20000
  sa : a.2.2.size ≤ 20000
  e : putE t a p = 0
theorem PF.way {t a : T3} {p : ByteArray} (h : PF t a p) : splitE (tl p) 64 = 0 ∧ wayTo t (cutN p) := wayE_ok (putE_ok h.e).1
theorem PF.rises {t a : T3} {p : ByteArray} (h : PF t a p) : (putT t (cutN p) a).2.2.rises := putT_rises h.ft.rises h.fa.rises
theorem PF.size {t a : T3} {p : ByteArray} (h : PF t a p) : (putT t (cutN p) a).2.2.size ≤ 41000 := by
  have h1 := putT_size (s := a) h.ft.rises h.way.2
  have h2 := names_few h.way.1
  have := h.st
  have := h.sa
  omega
theorem PF.fine {t a : T3} {p : ByteArray} (h : PF t a p) : Fine (putT t (cutN p) a) := by
  have h1 := putT_fine (s := a) h.ft.rises h.ft.names h.fa.names h.way.2 (jn_cutN h.way.1).2.1
  refine ⟨h.rises, h1.1, ?_⟩
  have h2 := h1.2
  have h3 := (putE_ok h.e).2
  have h4 := h.ft.depth
  omega
theorem PF.dn {t a : T3} {p : ByteArray} (h : PF t a p) : subS (putT t (cutN p) a) p = some a := by
  unfold subS
  rw [if_pos h.way.1]
  exact dn_putT h.ft.rises h.fa.rises
theorem PF.apart {t a : T3} {p : ByteArray} (h : PF t a p) (M : List ByteArray) (hM : ¬ cutN p <+: M) : (Go.Proofs.Ytjkbhfkeagfhbaa.dn (putT t (cutN p) a) M).map (·.1) = (Go.Proofs.Ytjkbhfkeagfhbaa.dn t M).map (·.1) := dn_apart h.ft.rises h.fa.rises h.way.2 hM
theorem PF.again {t a : T3} {p : ByteArray} (h : PF t a p) : putE (putT t (cutN p) a) a p = 0 ∧ putT (putT t (cutN p) a) (cutN p) a = putT t (cutN p) a :=
  ⟨putE_of (wayE_of (putE_ok h.e).1 fun hL => h.apart _ (not_pre hL)) (putE_ok h.e).2, putT_putT h.ft.rises h.fa.rises h.fa.rises h.way.2⟩
theorem not_pre_of {p q : ByteArray} (hp : splitE (tl p) 64 = 0) (hq : splitE (tl q) 64 = 0) (h : underB (tl p) (tl q) = false) : ¬ cutN q <+: cutN p := fun e => by
  have := under_jn e
  rw [(jn_cutN hp).1, (jn_cutN hq).1, h] at this
  cases this
/-- two puts in either order -/
theorem PF.two {t a b : T3} {p q : ByteArray} (h : PF t a p) (k : PF t b q) (h1 : underB (tl p) (tl q) = false) (h2 : underB (tl q) (tl p) = false) : putE (putT t (cutN q) b) a p = 0 ∧ putT (putT t (cutN q) b) (cutN p) a = putT (putT t (cutN p) a) (cutN q) b := by
  have n1 := not_pre_of h.way.1 k.way.1 h1
  have n2 := not_pre_of k.way.1 h.way.1 h2
  refine ⟨putE_of (wayE_of (putE_ok h.e).1 fun _ => k.apart _ fun e => n1 (pre_dropLast e)) (putE_ok h.e).2, ?_⟩
  exact putT_comm h.ft.rises k.fa.rises h.fa.rises k.way.2 h.way.2 n1 n2

set_option maxRecDepth 100000 in
set_option maxHeartbeats 8000000 in
theorem puts_walk (c d f : Array Value) (t a b : T3) (p q : ByteArray) (w : World) (hc : InN w c t) (hd : InN w d a) (hf : InN w f b) (hp : p.size ≤ 9223372036854775807) (hq : q.size ≤ 9223372036854775807) :
    Calls Try.prog 4 #[.agg c, .agg d, .agg f, .string p, .string q] w fun e w' => e = .returned (.bool true) ∧ G w w' := by
  have H3 := three_boxes w c d f
  have zc := hc.size
  have zd := hd.size
  have zf := hf.size
  have H0 := hid (⟨H3, hc.grow H3.2.2.2, hd.grow H3.2.2.2, hf.grow H3.2.2.2⟩ : (Var (((w.alloc (.cells c 30)).alloc (.cells d 30)).alloc (.cells f 30)) w.heap.size c ∧ Var (((w.alloc (.cells c 30)).alloc (.cells d 30)).alloc (.cells f 30)) (w.heap.size + 1) d ∧ Var (((w.alloc (.cells c 30)).alloc (.cells d 30)).alloc (.cells f 30)) (w.heap.size + 2) f ∧ G w (((w.alloc (.cells c 30)).alloc (.cells d 30)).alloc (.cells f 30))) ∧ InN (((w.alloc (.cells c 30)).alloc (.cells d 30)).alloc (.cells f 30)) c t ∧ InN (((w.alloc (.cells c 30)).alloc (.cells d 30)).alloc (.cells f 30)) d a ∧ InN (((w.alloc (.cells c 30)).alloc (.cells d 30)).alloc (.cells f 30)) f b)
  clear hc hd hf H3
  go_enter Try.func4, Try.ntmps4
  go_upto_region 1 with fail
  generalize ((w.alloc (.cells c 30)).alloc (.cells d 30)).alloc (.cells f 30) = w1 at *
  generalize w.heap.size = B at *
  go_wp2_with fail
  refine (known_any w1).mono ?_
  rintro e w2 ⟨rfl, hg2⟩
  have HV := hid (⟨H0.out.1.1.grow hg2, H0.out.1.2.1.grow hg2, H0.out.1.2.2.1.grow hg2, H0.out.1.2.2.2.trans hg2, H0.out.2.1.grow hg2, H0.out.2.2.1.grow hg2, H0.out.2.2.2.grow hg2⟩ : Var w2 B c ∧ Var w2 (B + 1) d ∧ Var w2 (B + 2) f ∧ G w w2 ∧ InN w2 c t ∧ InN w2 d a ∧ InN w2 f b)
  clear H0 hg2
  by_cases hp2 : p.size ≤ 20000
  case neg =>
    have hpI : (20000 : Int) < (p.size : Int) := by omega
    go_wp2_with fail
    go_ret
    exact ⟨rfl, HV.out.2.2.2.1⟩
  by_cases hq2 : q.size ≤ 20000
  case neg =>
    have hpI : ¬ (20000 : Int) < (p.size : Int) := by omega
    have hqI : (20000 : Int) < (q.size : Int) := by omega
    go_wp2_with fail
    go_ret
    exact ⟨rfl, HV.out.2.2.2.1⟩
  have hpI : ¬ (20000 : Int) < (p.size : Int) := by omega
  have hqI : ¬ (20000 : Int) < (q.size : Int) := by omega
  go_upto_region 5 with fail
  refine wp_region_G ?_
  replace HV := hid (⟨HV.out.1.grow (G.drew w2), HV.out.2.1.grow (G.drew w2), HV.out.2.2.1.grow (G.drew w2), HV.out.2.2.2.1.trans (G.drew w2), HV.out.2.2.2.2.1.grow (G.drew w2), HV.out.2.2.2.2.2.1.grow (G.drew w2), HV.out.2.2.2.2.2.2.grow (G.drew w2)⟩ : Var w2.drew B c ∧ Var w2.drew (B + 1) d ∧ Var w2.drew (B + 2) f ∧ G w w2.drew ∧ InN w2.drew c t ∧ InN w2.drew d a ∧ InN w2.drew f b)
  generalize w2.drew = wd at *
  refine takeG 0 34 (.agg c) rfl rfl (by kernel_rfl) (by kernel_rfl) (by kernel_rfl) (fun _ _ _ h => h) (by kernel_rfl) (fun wz hz => ?_) ?_
  · exact exec_load30 _ rfl B 0 rfl c zc (HV.out.1.grow hz).lies
  try simp only [Act.put, List.setIfInBounds_toArray, List.set_cons_zero, List.set_cons_succ]
  refine takeG 2 36 (.agg d) rfl rfl (by kernel_rfl) (by kernel_rfl) (by kernel_rfl) (fun _ _ _ h => h) (by kernel_rfl) (fun wz hz => ?_) ?_
  · exact exec_load30 _ rfl (B + 1) 0 rfl d zd (HV.out.2.1.grow hz).lies
  try simp only [Act.put, List.setIfInBounds_toArray, List.set_cons_zero, List.set_cons_succ]
  refine takeG 4 38 (.agg f) rfl rfl (by kernel_rfl) (by kernel_rfl) (by kernel_rfl) (fun _ _ _ h => h) (by kernel_rfl) (fun wz hz => ?_) ?_
  · exact exec_load30 _ rfl (B + 2) 0 rfl f zf (HV.out.2.2.1.grow hz).lies
  try simp only [Act.put, List.setIfInBounds_toArray, List.set_cons_zero, List.set_cons_succ]
  refine readyG [1] (by kernel_rfl) (by simp) (fun w3 hz3 => ?_)
  refine AllG.call 1 35 17 #[.agg c] rfl rfl (by kernel_rfl) (by go_simp) ?_ AllG.nil
  refine ((HV.out.2.2.2.2.1.grow hz3).grown).mono ?_
  rintro e w4 ⟨u1, rfl, hr1, hgA⟩
  have hz4 := hz3.trans hgA
  refine ⟨u1, rfl, hgA, ?_⟩
  try simp only [Act.put, List.setIfInBounds_toArray, List.set_cons_zero, List.set_cons_succ]
  refine readyG [3] (by kernel_rfl) (by simp) (fun w5 hz5 => ?_)
  refine AllG.call 3 37 17 #[.agg d] rfl rfl (by kernel_rfl) (by go_simp) ?_ AllG.nil
  refine ((HV.out.2.2.2.2.2.1.grow (hz4.trans hz5)).grown).mono ?_
  rintro e w6 ⟨u2, rfl, hr2, hgB⟩
  refine ⟨u2, rfl, hgB, ?_⟩
  try simp only [Act.put, List.setIfInBounds_toArray, List.set_cons_zero, List.set_cons_succ]
  have hz6 := (hz4.trans hz5).trans hgB
  have hg4 := hz5.trans hgB
  refine readyG [5] (by kernel_rfl) (by simp) (fun w7 hz7 => ?_)
  refine AllG.call 5 39 17 #[.agg f] rfl rfl (by kernel_rfl) (by go_simp) ?_ AllG.nil
  refine ((HV.out.2.2.2.2.2.2.grow (hz6.trans hz7)).grown).mono ?_
  rintro e w8 ⟨u3, rfl, hr3, hgC⟩
  refine ⟨u3, rfl, hgC, ?_⟩
  try simp only [Act.put, List.setIfInBounds_toArray, List.set_cons_zero, List.set_cons_succ]
  have hg5 := hz7.trans hgC
  refine takeG 6 11 (u1) rfl rfl (by kernel_rfl) (by kernel_rfl) (by kernel_rfl) (fun _ _ _ h => h) (by kernel_rfl) (fun wz hz => ?_) ?_
  · rfl
  try simp only [Act.put, List.setIfInBounds_toArray, List.set_cons_zero, List.set_cons_succ]
  refine takeG 7 12 (u2) rfl rfl (by kernel_rfl) (by kernel_rfl) (by kernel_rfl) (fun _ _ _ h => h) (by kernel_rfl) (fun wz hz => ?_) ?_
  · rfl
  try simp only [Act.put, List.setIfInBounds_toArray, List.set_cons_zero, List.set_cons_succ]
  refine takeG 8 13 (u3) rfl rfl (by kernel_rfl) (by kernel_rfl) (by kernel_rfl) (fun _ _ _ h => h) (by kernel_rfl) (fun wz hz => ?_) ?_
  · rfl
  try simp only [Act.put, List.setIfInBounds_toArray, List.set_cons_zero, List.set_cons_succ]
  refine doneG (by kernel_rfl) (fun w9 hg9 => ?_)
  replace hz3 := hz4
  clear hz4 hz5 hz6 hz7 hgA hgB hgC
  have HG := hid (⟨GR.grow (GR.grow (GR.grow hr1 hg4) hg5) hg9, GR.grow (GR.grow hr2 hg5) hg9, GR.grow hr3 hg9, (((HV.out.2.2.2.1.trans hz3).trans hg4).trans hg5).trans hg9⟩ : GR w9 u1 t ∧ GR w9 u2 a ∧ GR w9 u3 b ∧ G w w9)
  have i1 : u1 = .pointer none ∨ ∃ p, u1 = .pointer (some ⟨p, 0, none⟩) := hr1.imp id fun ⟨p, h, _⟩ => ⟨p, h⟩
  have i2 : u2 = .pointer none ∨ ∃ p, u2 = .pointer (some ⟨p, 0, none⟩) := hr2.imp id fun ⟨p, h, _⟩ => ⟨p, h⟩
  have i3 : u3 = .pointer none ∨ ∃ p, u3 = .pointer (some ⟨p, 0, none⟩) := hr3.imp id fun ⟨p, h, _⟩ => ⟨p, h⟩
  clear hr1 hr2 hr3 hz3 hg4 hg5 hg9 HV
  rcases i1 with rfl | ⟨pt, rfl⟩
  · go_wp2_with fail
    go_ret
    exact ⟨rfl, HG.out.2.2.2⟩
  rcases i2 with rfl | ⟨pa, rfl⟩
  · go_wp2_with fail
    go_ret
    exact ⟨rfl, HG.out.2.2.2⟩
  rcases i3 with rfl | ⟨pb, rfl⟩
  · go_wp2_with fail
    go_ret
    exact ⟨rfl, HG.out.2.2.2⟩
  have HS0 : Hid ((TS w9 [(pt, t), (pa, a), (pb, b)] ∧ G w w9) ∧ (Fine t ∧ t.2.2.size ≤ 20000) ∧ (Fine a ∧ a.2.2.size ≤ 20000) ∧ (Fine b ∧ b.2.2.size ≤ 20000)) := by
    obtain ⟨h1, h2, h3, h4⟩ := HG.out
    have e : ∀ {W : World} {p : Nat} {t : T3}, GR W (.pointer (some ⟨p, 0, none⟩)) t → Tre W p t := fun h => by
      rcases h with h | ⟨p', h, ht⟩
      · cases h
      · cases h; exact ht
    exact ⟨⟨TS.cons (e h1).t1.1 (TS.cons (e h2).t1.1 (TS.cons (e h3).t1.1 fun z hz => by cases hz)), h4⟩, (e h1).t1.2, (e h2).t1.2, (e h3).t1.2⟩
  have HS := hid HS0.out.1
  have HN := hid HS0.out.2
  have HQ : Hid (p.size ≤ 20000 ∧ q.size ≤ 20000) := ⟨hp2, hq2⟩
  clear HG HS0 hp2 hq2 hp hq hpI hqI
  have C8 := put_any pt pa t a p w9 (HS.out.1 (pt, t) (by simp)) (HS.out.1 (pa, a) (by simp)) HN.out.1.1.rises (by have := HQ.out.1; omega) (by have h1 := HN.out.1.2; have h2 := HN.out.2.1.2; omega) (fun _ _ => trivial)
  obtain ⟨E, hE⟩ : ∃ E, putE t a p = E := ⟨_, rfl⟩
  rw [hE] at C8
  have HE := hid hE
  clear hE
  go_wp2_with fail
  refine C8.mono ?_
  rintro e v1 ⟨u, rfl, hg, hno, hyes⟩
  replace HS := hid (⟨HS.out.1.grow hg, HS.out.2.trans hg⟩ : TS v1 [(pt, t), (pa, a), (pb, b)] ∧ G w v1)
  clear C8 hg
  by_cases hE0 : E = 0
  case neg =>
    have hEb : (E != 0) = true := by simpa using hE0
    obtain rfl := hno hE0
    clear hyes hE0
    go_wp2_with fail
    go_ret
    exact ⟨rfl, HS.out.2⟩
  obtain ⟨px, rfl, hx⟩ := hyes hE0
  subst hE0
  have HF : Hid (PF t a p) := ⟨HN.out.1.1, HN.out.2.1.1, HN.out.1.2, HN.out.2.1.2, HE.out⟩
  obtain ⟨x, hxe⟩ : ∃ x, putT t (cutN p) a = x := ⟨_, rfl⟩
  have HX := hid hxe
  rw [hxe] at hx
  replace HS := hid (⟨TS.cons hx HS.out.1, HS.out.2⟩ : TS v1 [(px, x), (pt, t), (pa, a), (pb, b)] ∧ G w v1)
  have HXF : Hid (Fine x ∧ x.2.2.size ≤ 41000) := by rw [← hxe]; exact ⟨HF.out.fine, HF.out.size⟩
  clear hno hyes hx hxe HE
  have C11 := sub_any px x p v1 (HS.out.1 (px, x) (by simp)) HXF.out.1.rises (by have := HQ.out.1; omega)
  rw [show subS x p = some a by rw [← HX.out]; exact HF.out.dn] at C11
  go_wp2_with fail
  refine C11.mono ?_
  rintro e v2 ⟨u, rfl, ⟨ps, rfl, hps⟩, hg⟩
  replace HS := hid (⟨TS.cons hps (HS.out.1.grow hg), HS.out.2.trans hg⟩ : TS v2 [(ps, a), (px, x), (pt, t), (pa, a), (pb, b)] ∧ G w v2)
  clear C11 hps hg
  go_wp2_with fail
  refine (eq20 ps pa a v2 (HS.out.1 (ps, a) (by simp)) (HS.out.1 (pa, a) (by simp)) (by have := HN.out.2.1.2; omega)).mono ?_
  rintro e v3 ⟨rfl, hg⟩
  replace HS := hid (⟨HS.out.1.grow hg, HS.out.2.trans hg⟩ : TS v3 [(ps, a), (px, x), (pt, t), (pa, a), (pb, b)] ∧ G w v3)
  clear hg
  go_wp2_with fail
  refine (elsewhere_any pt px t x p v3 (HS.out.1 (pt, t) (by simp)) (HS.out.1 (px, x) (by simp)) HXF.out.1.rises HN.out.1.1 (by have := HQ.out.1; omega) (els_of HN.out.1.1 HF.out.way.1 fun M hM => by rw [← HX.out]; exact HF.out.apart M hM)).mono ?_
  rintro e v4 ⟨rfl, hg⟩
  replace HS := hid (⟨HS.out.1.grow hg, HS.out.2.trans hg⟩ : TS v4 [(ps, a), (px, x), (pt, t), (pa, a), (pb, b)] ∧ G w v4)
  clear hg
  go_wp2_with fail
  refine (elsewhere_any px pt x t p v4 (HS.out.1 (px, x) (by simp)) (HS.out.1 (pt, t) (by simp)) HN.out.1.1.rises HXF.out.1 (by have := HQ.out.1; omega) (els_of HXF.out.1 HF.out.way.1 fun M hM => by rw [← HX.out]; exact (HF.out.apart M hM).symm)).mono ?_
  rintro e v5 ⟨rfl, hg⟩
  replace HS := hid (⟨HS.out.1.grow hg, HS.out.2.trans hg⟩ : TS v5 [(ps, a), (px, x), (pt, t), (pa, a), (pb, b)] ∧ G w v5)
  clear hg
  go_wp2_with fail
  refine (put_done px ps x a x p v5 (HS.out.1 (px, x) (by simp)) (HS.out.1 (ps, a) (by simp)) HXF.out.1.rises (by have := HQ.out.1; omega) (by have h1 := HXF.out.2; have h2 := HN.out.2.1.2; omega) (by rw [← HX.out]; exact HF.out.again.1) (by rw [← HX.out]; exact HF.out.again.2)).mono ?_
  rintro e v6 ⟨py, rfl, hy, hg⟩
  replace HS := hid (⟨TS.cons hy (HS.out.1.grow hg), HS.out.2.trans hg⟩ : TS v6 [(py, x), (ps, a), (px, x), (pt, t), (pa, a), (pb, b)] ∧ G w v6)
  clear hg hy
  go_wp2_with fail
  refine (eq20 px py x v6 (HS.out.1 (px, x) (by simp)) (HS.out.1 (py, x) (by simp)) (by have := HXF.out.2; omega)).mono ?_
  rintro e v7 ⟨rfl, hg⟩
  replace HS := hid (⟨HS.out.1.grow hg, HS.out.2.trans hg⟩ : TS v7 [(py, x), (ps, a), (px, x), (pt, t), (pa, a), (pb, b)] ∧ G w v7)
  clear hg
  by_cases hps : p.size = 0
  · have e : p.toList = [] := List.length_eq_zero_iff.1 (by have := tl_len p; unfold tl at this; omega)
    have b1 : (p.toList == []) = true := by simp [e]
    have b2 : p.toList.isEmpty = true := by simp [e]
    clear hps
    go_upto_region 19 with fail
    clear e b1 b2
    have C19 := put_any px pb x b q v7 (HS.out.1 (px, x) (by simp)) (HS.out.1 (pb, b) (by simp)) HXF.out.1.rises (by have := HQ.out.2; omega) (by have h1 := HXF.out.2; have h2 := HN.out.2.2.2; omega) (fun _ _ => trivial)
    obtain ⟨e1, he1⟩ : ∃ E, putE x b q = E := ⟨_, rfl⟩
    obtain ⟨e2, he2⟩ : ∃ E, putE t b q = E := ⟨_, rfl⟩
    rw [he1] at C19
    go_wp2_with fail
    refine C19.mono ?_
    rintro e v9 ⟨uz, rfl, hg, hno1, hyes1⟩
    have HZ := hid hyes1
    replace HS := hid (⟨HS.out.1.grow hg, HS.out.2.trans hg⟩ : TS v9 [(py, x), (ps, a), (px, x), (pt, t), (pa, a), (pb, b)] ∧ G w v9)
    clear C19 hg hno1 hyes1
    have C20 := put_any pt pb t b q v9 (HS.out.1 (pt, t) (by simp)) (HS.out.1 (pb, b) (by simp)) HN.out.1.1.rises (by have := HQ.out.2; omega) (by have h1 := HN.out.1.2; have h2 := HN.out.2.2.2; omega) (fun _ _ => trivial)
    rw [he2] at C20
    go_wp2_with fail
    refine C20.mono ?_
    rintro e v10 ⟨uw, rfl, hg, hno2, hyes2⟩
    have HW := hid hyes2
    replace HZ : Hid (e1 = 0 → ∃ p', uz = .pointer (some ⟨p', 0, none⟩) ∧ T1 v10 p' (putT x (cutN q) b)) := fun h => by
      obtain ⟨p', h1, h2⟩ := HZ.out h
      exact ⟨p', h1, T1.grow h2 hg⟩
    replace HS := hid (⟨HS.out.1.grow hg, HS.out.2.trans hg⟩ : TS v10 [(py, x), (ps, a), (px, x), (pt, t), (pa, a), (pb, b)] ∧ G w v10)
    have HEE := hid (⟨he1, he2⟩ : _ ∧ _)
    clear C20 hg hno2 hyes2 he1 he2
    obtain ⟨c1, hc1⟩ : ∃ c1, underB (tl p) (tl q) = c1 := ⟨_, rfl⟩
    obtain ⟨c2, hc2⟩ : ∃ c1, underB (tl q) (tl p) = c1 := ⟨_, rfl⟩
    have C21 := under_any p q v10 (by have := HQ.out.1; omega) (by have := HQ.out.2; omega)
    have C22 := under_any q p v10 (by have := HQ.out.2; omega) (by have := HQ.out.1; omega)
    rw [hc1] at C21
    rw [hc2] at C22
    have HU := hid (⟨hc1, hc2⟩ : _ ∧ _)
    clear hc1 hc2
    go_wp2_with fail
    refine C21.mono ?_
    rintro e v11 ⟨rfl, rfl⟩
    cases c1 with
    | true =>
      go_wp2_with fail
      go_ret
      exact ⟨rfl, HS.out.2⟩
    | false =>
      go_wp2_with fail
      refine C22.mono ?_
      rintro e v12 ⟨rfl, rfl⟩
      cases c2 with
      | true =>
        go_wp2_with fail
        go_ret
        exact ⟨rfl, HS.out.2⟩
      | false =>
        by_cases h1 : e1 = 0
        case neg =>
          have h1b : (e1 != 0) = true := by simpa using h1
          clear h1
          go_wp2_with fail
          go_ret
          exact ⟨rfl, HS.out.2⟩
        by_cases h2 : e2 = 0
        case neg =>
          have h2b : (e2 != 0) = true := by simpa using h2
          subst h1
          clear h2
          go_wp2_with fail
          go_ret
          exact ⟨rfl, HS.out.2⟩
        subst h1
        subst h2
        obtain ⟨pz, rfl, hz⟩ := HZ.out rfl
        obtain ⟨pw, rfl, hw⟩ := HW.out rfl
        have HK : Hid (PF t b q) := ⟨HN.out.1.1, HN.out.2.2.1, HN.out.1.2, HN.out.2.2.2, HEE.out.2⟩
        have HD := hid (⟨hz, hw⟩ : T1 v12 pz (putT x (cutN q) b) ∧ T1 v12 pw (putT t (cutN q) b))
        have HT2 := hid (HF.out.two HK.out HU.out.1 HU.out.2)
        have HSZ : Hid ((putT x (cutN q) b).2.2.size ≤ 100000) := by
          have h0 := HEE.out.1
          have h1 := putT_size (s := b) HXF.out.1.rises (wayE_ok (putE_ok h0).1).2
          have h2 := names_few HK.out.way.1
          have h3 := HXF.out.2
          have h4 := HN.out.2.2.2
          show (putT x (cutN q) b).2.2.size ≤ 100000
          omega
        clear hz hw HZ HW C21 C22
        go_wp2_with fail
        refine (put_done pw pa (putT t (cutN q) b) a (putT x (cutN q) b) p v12 HD.out.2 (HS.out.1 (pa, a) (by simp)) HK.out.rises (by have := HQ.out.1; omega) (by have h1 := HK.out.size; have h2 := HN.out.2.1.2; omega) HT2.out.1 (by rw [← HX.out]; exact HT2.out.2)).mono ?_
        rintro e v13 ⟨p3, rfl, h3, hg⟩
        replace HD := hid (⟨HD.out.1.grow hg, h3⟩ : T1 v13 pz (putT x (cutN q) b) ∧ T1 v13 p3 (putT x (cutN q) b))
        replace HS := hid (HS.out.2.trans hg)
        clear h3 hg
        go_wp2_with fail
        refine (eq20 pz p3 (putT x (cutN q) b) v13 HD.out.1 HD.out.2 HSZ.out).mono ?_
        rintro e v14 ⟨rfl, hg⟩
        replace HS := hid (HS.out.trans hg)
        clear hg
        go_wp2_with fail
        go_ret
        exact ⟨rfl, HS.out⟩
  · have e : ¬ p.toList = [] := fun e => hps (by have := tl_len p; unfold tl at this; rw [e] at this; simpa using this.symm)
    have b1 : (p.toList == []) = false := by simpa using e
    have b2 : p.toList.isEmpty = false := by simpa using e
    have C17 := returns_any pt px t a p v7 (HS.out.1 (pt, t) (by simp)) (by rw [HX.out]; exact HS.out.1 (px, x) (by simp)) HN.out.1.1 HN.out.2.1.1 (by have := HQ.out.1; omega) HF.out.e (cutN_ne hps) HN.out.1.2 HN.out.2.1.2
    clear hps
    go_wp2_with fail
    refine C17.mono ?_
    rintro e2 v8 ⟨rfl, hg⟩
    replace HS := hid (⟨HS.out.1.grow hg, HS.out.2.trans hg⟩ : TS v8 [(py, x), (ps, a), (px, x), (pt, t), (pa, a), (pb, b)] ∧ G w v8)
    clear hg C17
    go_upto_region 19 with fail
    clear e b1 b2
    generalize v8 = v7 at *
    have C19 := put_any px pb x b q v7 (HS.out.1 (px, x) (by simp)) (HS.out.1 (pb, b) (by simp)) HXF.out.1.rises (by have := HQ.out.2; omega) (by have h1 := HXF.out.2; have h2 := HN.out.2.2.2; omega) (fun _ _ => trivial)
    obtain ⟨e1, he1⟩ : ∃ E, putE x b q = E := ⟨_, rfl⟩
    obtain ⟨e2, he2⟩ : ∃ E, putE t b q = E := ⟨_, rfl⟩
    rw [he1] at C19
    go_wp2_with fail
    refine C19.mono ?_
    rintro e v9 ⟨uz, rfl, hg, hno1, hyes1⟩
    have HZ := hid hyes1
    replace HS := hid (⟨HS.out.1.grow hg, HS.out.2.trans hg⟩ : TS v9 [(py, x), (ps, a), (px, x), (pt, t), (pa, a), (pb, b)] ∧ G w v9)
    clear C19 hg hno1 hyes1
    have C20 := put_any pt pb t b q v9 (HS.out.1 (pt, t) (by simp)) (HS.out.1 (pb, b) (by simp)) HN.out.1.1.rises (by have := HQ.out.2; omega) (by have h1 := HN.out.1.2; have h2 := HN.out.2.2.2; omega) (fun _ _ => trivial)
    rw [he2] at C20
    go_wp2_with fail
    refine C20.mono ?_
    rintro e v10 ⟨uw, rfl, hg, hno2, hyes2⟩
    have HW := hid hyes2
    replace HZ : Hid (e1 = 0 → ∃ p', uz = .pointer (some ⟨p', 0, none⟩) ∧ T1 v10 p' (putT x (cutN q) b)) := fun h => by
      obtain ⟨p', h1, h2⟩ := HZ.out h
      exact ⟨p', h1, T1.grow h2 hg⟩
    replace HS := hid (⟨HS.out.1.grow hg, HS.out.2.trans hg⟩ : TS v10 [(py, x), (ps, a), (px, x), (pt, t), (pa, a), (pb, b)] ∧ G w v10)
    have HEE := hid (⟨he1, he2⟩ : _ ∧ _)
    clear C20 hg hno2 hyes2 he1 he2
    obtain ⟨c1, hc1⟩ : ∃ c1, underB (tl p) (tl q) = c1 := ⟨_, rfl⟩
    obtain ⟨c2, hc2⟩ : ∃ c1, underB (tl q) (tl p) = c1 := ⟨_, rfl⟩
    have C21 := under_any p q v10 (by have := HQ.out.1; omega) (by have := HQ.out.2; omega)
    have C22 := under_any q p v10 (by have := HQ.out.2; omega) (by have := HQ.out.1; omega)
    rw [hc1] at C21
    rw [hc2] at C22
    have HU := hid (⟨hc1, hc2⟩ : _ ∧ _)
    clear hc1 hc2
    go_wp2_with fail
    refine C21.mono ?_
    rintro e v11 ⟨rfl, rfl⟩
    cases c1 with
    | true =>
      go_wp2_with fail
      go_ret
      exact ⟨rfl, HS.out.2⟩
    | false =>
      go_wp2_with fail
      refine C22.mono ?_
      rintro e v12 ⟨rfl, rfl⟩
      cases c2 with
      | true =>
        go_wp2_with fail
        go_ret
        exact ⟨rfl, HS.out.2⟩
      | false =>
        by_cases h1 : e1 = 0
        case neg =>
          have h1b : (e1 != 0) = true := by simpa using h1
          clear h1
          go_wp2_with fail
          go_ret
          exact ⟨rfl, HS.out.2⟩
        by_cases h2 : e2 = 0
        case neg =>
          have h2b : (e2 != 0) = true := by simpa using h2
          subst h1
          clear h2
          go_wp2_with fail
          go_ret
          exact ⟨rfl, HS.out.2⟩
        subst h1
        subst h2
        obtain ⟨pz, rfl, hz⟩ := HZ.out rfl
        obtain ⟨pw, rfl, hw⟩ := HW.out rfl
        have HK : Hid (PF t b q) := ⟨HN.out.1.1, HN.out.2.2.1, HN.out.1.2, HN.out.2.2.2, HEE.out.2⟩
        have HD := hid (⟨hz, hw⟩ : T1 v12 pz (putT x (cutN q) b) ∧ T1 v12 pw (putT t (cutN q) b))
        have HT2 := hid (HF.out.two HK.out HU.out.1 HU.out.2)
        have HSZ : Hid ((putT x (cutN q) b).2.2.size ≤ 100000) := by
          have h0 := HEE.out.1
          have h1 := putT_size (s := b) HXF.out.1.rises (wayE_ok (putE_ok h0).1).2
          have h2 := names_few HK.out.way.1
          have h3 := HXF.out.2
          have h4 := HN.out.2.2.2
          show (putT x (cutN q) b).2.2.size ≤ 100000
          omega
        clear hz hw HZ HW C21 C22
        go_wp2_with fail
        refine (put_done pw pa (putT t (cutN q) b) a (putT x (cutN q) b) p v12 HD.out.2 (HS.out.1 (pa, a) (by simp)) HK.out.rises (by have := HQ.out.1; omega) (by have h1 := HK.out.size; have h2 := HN.out.2.1.2; omega) HT2.out.1 (by rw [← HX.out]; exact HT2.out.2)).mono ?_
        rintro e v13 ⟨p3, rfl, h3, hg⟩
        replace HD := hid (⟨HD.out.1.grow hg, h3⟩ : T1 v13 pz (putT x (cutN q) b) ∧ T1 v13 p3 (putT x (cutN q) b))
        replace HS := hid (HS.out.2.trans hg)
        clear h3 hg
        go_wp2_with fail
        refine (eq20 pz p3 (putT x (cutN q) b) v13 HD.out.1 HD.out.2 HSZ.out).mono ?_
        rintro e v14 ⟨rfl, hg⟩
        replace HS := hid (HS.out.trans hg)
        clear hg
        go_wp2_with fail
        go_ret
        exact ⟨rfl, HS.out⟩
end Go.Proofs.Ytjkbhfkeagfhbaa
