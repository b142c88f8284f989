/-
  THE FRAME of the rows.
-/
import Derived.Test.YtjkbhfkeagfhbaaLike
import Derived.Test.YtjkbhfkeagfhbaaGrownP
import Derived.Test.YtjkbhfkeagfhbaaSameB
import Derived.Test.YtjkbhfkeagfhbaaRows
import Derived.Test.YtjkbhfkeagfhbaaData
import Derived.ProofKit
import Derived.OpenShut
import Derived.ShutString
import Derived.ChangeOld
import Derived.Deep.DeepHandedRow
import Derived.LaidHandle
import Derived.LaidLaws
import Derived.MakeChecks
namespace Go.Proofs.Ytjkbhfkeagfhbaa
open Go.RowKit

/-- a tree of checked data stands at p -/
def Tre (w : World) (p : Nat) (t : T3) : Prop := ∃ k : K, AtT w p t.1 t.2.1 k ∧ k.flat = t.2.2 ∧ k.plain w ∧ Tr w p ∧ checkE t.1 t.2.1 t.2.2 = 0 ∧ t.2.2.weight ≤ 20000
theorem Tre.grow {w w' : World} {p : Nat} {t : T3} (h : Tre w p t) (hg : G w w') : Tre w' p t := by
  obtain ⟨k, h1, h2, h3, h4, h5⟩ := h
  exact ⟨k, h1.grow hg, h2, K.plain_grow hg h3, h4.grow hg, h5⟩
theorem Tre.same {w : World} {p q : Nat} {t u : T3} (o : Bool) {b : Bool} (hp : Tre w p t) (hq : Tre w q u) (hb : sameT o t u = b) :
    Calls Try.prog 24 #[.pointer (some ⟨p, 0, none⟩), .pointer (some ⟨q, 0, none⟩), .bool o] w fun e w' => e = .returned (.bool b) ∧ G w w' := by
  obtain ⟨k, h1, h2, h3, h4, h5, h6⟩ := hp
  obtain ⟨j, g1, g2, g3, g4, g5, g6⟩ := hq
  have hs : k.flat.size ≤ 100000 := by rw [h2]; have := F.size_le_weight t.2.2; omega
  have gs : j.flat.size ≤ 100000 := by rw [g2]; have := F.size_le_weight u.2.2; omega
  have hr : k.flat.rises := by rw [h2]; exact rises_of_check h5
  have gr : j.flat.rises := by rw [g2]; exact rises_of_check g5
  have := same_any _ k (Nat.lt_succ_self _) o p t.1 t.2.1 (some ⟨q, 0, none⟩) (some (u.1, u.2.1, j)) w h1 h3 h4 hr hs ⟨q, rfl, g1, g3, g4, gr, gs⟩
  have e : sameK o (t.1, t.2.1, k) (some (u.1, u.2.1, j)) = b := by
    rw [← hb]
    show sameT o (t.1, t.2.1, k.flat) (u.1, u.2.1, j.flat) = sameT o t u
    rw [h2, g2]
  rw [e] at this
  exact this
theorem Tre.bare {w : World} {p : Nat} {t : T3} (h : Tre w p t) :
    Calls Try.prog 26 #[.pointer (some ⟨p, 0, none⟩)] w fun e w' => ∃ c', e = .returned (.agg c') ∧ HasN w' c' ⟨#[]⟩ t.1 Md.zero (t.2.2.mp id noM) ∧ G w w' := by
  obtain ⟨k, h1, h2, h3, h4, h5, h6⟩ := h
  have := bare_any p t.1 t.2.1 k w h1 (by rw [h2]; omega)
  rw [h2] at this
  exact this
theorem Tre.node {w : World} {p : Nat} {t : T3} (h : Tre w p t) :
    Calls Try.prog 28 #[.pointer (some ⟨p, 0, none⟩)] w fun e w' => ∃ c', e = .returned (.agg c') ∧ HasN w' c' ⟨#[]⟩ t.1 t.2.1 t.2.2 ∧ G w w' := by
  obtain ⟨k, h1, h2, h3, h4, h5, h6⟩ := h
  have hs : k.flat.size ≤ 100000 := by rw [h2]; have := F.size_le_weight t.2.2; omega
  refine (treeNode_any _ k (Nat.lt_succ_self _) p t.1 t.2.1 w h1 hs).mono ?_
  rintro e w' ⟨c', rfl, hn, hg⟩
  refine ⟨c', rfl, ?_, hg⟩
  have := hn.has
  rw [h2] at this
  exact this
theorem Tre.okL {w : World} {p : Nat} {t : T3} (h : Tre w p t) : t.2.2.okL := by
  obtain ⟨k, h1, h2, h3, h4, h5, h6⟩ := h
  have := F.size_le_weight t.2.2
  unfold F.okL
  omega
theorem Tre.like {w W : World} {p q : Nat} {t u : T3} {b : Bool} {c d : Array Value} (hp : Tre W p t) (hq : Tre W q u) (hc : HasN w c ⟨#[]⟩ t.1 t.2.1 t.2.2) (hd : HasN w d ⟨#[]⟩ u.1 u.2.1 u.2.2) (hb : sameT true t u = b) :
    Calls Try.prog 27 #[.agg c, .agg d] w fun e w' => e = .returned (.bool b) ∧ G w w' := by
  have hg : goodV u.1 ∧ goodF u.2.2 := by obtain ⟨k, h1, h2, h3, h4, h5, h6⟩ := hq; exact good_of h5
  have := like_any _ t.2.2 (Nat.lt_succ_self _) ⟨#[]⟩ ⟨#[]⟩ t.1 u.1 t.2.1 u.2.1 u.2.2 c d w hc hd hp.okL hq.okL
  rw [likeV_good hg.1, likeF_good hg.2, decide_eq_true rfl, Bool.true_and] at this
  rw [← hb]
  exact this
theorem Tre.equal {w W : World} {p q : Nat} {t u : T3} {b : Bool} {c d : Array Value} (hp : Tre W p t) (hq : Tre W q u) (hc : HasN w c ⟨#[]⟩ t.1 Md.zero (t.2.2.mp id noM)) (hd : HasN w d ⟨#[]⟩ u.1 Md.zero (u.2.2.mp id noM)) (hb : sameT false t u = b) :
    Calls Try.prog 25 #[.agg c, .agg d] w fun e w' => e = .returned (.bool b) ∧ G w w' := by
  have h1 := hp.okL
  have h2 := hq.okL
  have hw1 : (t.2.2.mp id noM).weight ≤ 20000 := by obtain ⟨k, h1, h2, h3, h4, h5, h6⟩ := hp; rw [F.mp_weight]; exact h6
  have hw2 : (u.2.2.mp id noM).weight ≤ 20000 := by obtain ⟨k, h1, h2, h3, h4, h5, h6⟩ := hq; rw [F.mp_weight]; exact h6
  have o1 : (t.2.2.mp id noM).okL := by have := F.size_le_weight (t.2.2.mp id noM); unfold F.okL; omega
  have o2 : (u.2.2.mp id noM).okL := by have := F.size_le_weight (u.2.2.mp id noM); unfold F.okL; omega
  have := equal_any _ (t.2.2.mp id noM) (Nat.lt_succ_self _) ⟨#[]⟩ ⟨#[]⟩ t.1 u.1 Md.zero Md.zero (u.2.2.mp id noM) c d w hc hd o1 o2
  rw [← sameT_bare, hb] at this
  exact this
/-- a tree with no known modes -/
def unkT (t : T3) : T3 := (unkV t.1, t.2.1, t.2.2.mp unkV id)
theorem Tre.unk {w W : World} {p : Nat} {t : T3} {c : Array Value} (hp : Tre W p t) (hc : HasN w c ⟨#[]⟩ t.1 t.2.1 t.2.2) :
    Calls Try.prog 29 #[.agg c] w fun e w' => ∃ c', e = .returned (.agg c') ∧ HasN w' c' ⟨#[]⟩ (unkT t).1 (unkT t).2.1 (unkT t).2.2 ∧ G w w' := by
  have hw : t.2.2.weight ≤ 100000 := by obtain ⟨k, h1, h2, h3, h4, h5, h6⟩ := hp; omega
  refine (UnkOk_any _ t.2.2 (Nat.lt_succ_self _) ⟨#[]⟩ t.1 t.2.1 c w hc hw).mono ?_
  rintro e w' ⟨c', rfl, hn, hg⟩
  exact ⟨c', rfl, hn.has, hg⟩
theorem Tre.of {w W : World} {p : Nat} {t : T3} {c : Array Value} (hp : Tre W p t) (hc : HasN w c ⟨#[]⟩ (unkT t).1 (unkT t).2.1 (unkT t).2.2) :
    Calls Try.prog 10 #[.agg c] w fun e w' => ∃ q, e = .returned (.tuple #[.pointer (some ⟨q, 0, none⟩), .int .i64 0]) ∧ Tre w' q (unkT t) ∧ G w w' := by
  obtain ⟨k, h1, h2, h3, h4, h5, h6⟩ := hp
  have hw : (unkT t).2.2.weight ≤ 20000 := by show (t.2.2.mp unkV id).weight ≤ 20000; rw [F.mp_weight]; exact h6
  have hE : checkE (unkT t).1 (unkT t).2.1 (unkT t).2.2 = 0 := checkE_unk h5
  have := of_anyP c ⟨#[]⟩ (unkT t).1 (unkT t).2.1 (unkT t).2.2 w hc (by omega)
  rw [hE] at this
  refine this.mono ?_
  rintro e w' ⟨u, rfl, hg, hO⟩
  rcases hO with ⟨h0, _⟩ | ⟨_, q, j, rfl, g1, g2, g3, g4⟩
  · exact absurd rfl h0
  · exact ⟨q, rfl, ⟨j, g1, g2, g3, g4, hE, hw⟩, hg⟩
theorem GrownResP.tre {w : World} {u : Value} {v : Vd} {m : Md} {ks : F} (h : GrownResP w u v m ks) : u = .pointer none ∨ ∃ p, u = .pointer (some ⟨p, 0, none⟩) ∧ Tre w p (v, m, ks) := by
  rcases h with h | ⟨p, k, h1, ⟨h2, h3, h4, h5⟩, h6, h7⟩
  · exact .inl h
  · exact .inr ⟨p, h1, k, h2, h3, h4, h5, h6, h7⟩
/-- what the law holds in its hands -/
structure SW (w W : World) (p q r : Nat) (t u x : T3) : Prop where
  t : Tre W p t
  u : Tre W q u
  x : Tre W r x
  g : G w W
theorem SW.grow {w W W' : World} {p q r : Nat} {t u x : T3} (h : SW w W p q r t u x) (hg : G W W') : SW w W' p q r t u x := ⟨h.t.grow hg, h.u.grow hg, h.x.grow hg, h.g.trans hg⟩
end Go.Proofs.Ytjkbhfkeagfhbaa
namespace Go.Proofs.Ytjkbhfkeagfhbaa
open Go.RowKit

theorem three_boxes (w : World) (c d f : Array Value) : Var (((w.alloc (.cells c 30)).alloc (.cells d 30)).alloc (.cells f 30)) w.heap.size c ∧ Var (((w.alloc (.cells c 30)).alloc (.cells d 30)).alloc (.cells f 30)) (w.heap.size + 1) d ∧ Var (((w.alloc (.cells c 30)).alloc (.cells d 30)).alloc (.cells f 30)) (w.heap.size + 2) f ∧ G w (((w.alloc (.cells c 30)).alloc (.cells d 30)).alloc (.cells f 30)) := by
  have h2 := Var.new (w.alloc (.cells c 30)) d
  have h3 := Var.new ((w.alloc (.cells c 30)).alloc (.cells d 30)) f
  rw [World.size_alloc] at h2 h3
  rw [World.size_alloc] at h3
  exact ⟨((Var.new w c).grow (G.alloc _ _)).grow (G.alloc _ _), h2.grow (G.alloc _ _), h3, ((G.alloc _ _).trans (G.alloc _ _)).trans (G.alloc _ _)⟩
/-- raw data that came in, and are not too great for grown -/
structure InN (w : World) (c : Array Value) (t : T3) : Prop where
  h : ∃ nm, HasN w c nm t.1 t.2.1 t.2.2 ∧ nm.size ≤ 9223372036854775807
  ok : t.2.2.ok
  len : t.2.2.len ≤ 9223372036854775807
theorem InN.grow {w w' : World} {c : Array Value} {t : T3} (h : InN w c t) (hg : G w w') : InN w' c t := ⟨by obtain ⟨nm, h1, h2⟩ := h.h; exact ⟨nm, h1.below hg, h2⟩, h.ok, h.len⟩
theorem InN.size {w : World} {c : Array Value} {t : T3} (h : InN w c t) : c.size = 41 := by obtain ⟨nm, ⟨_, rfl, _⟩, _⟩ := h.h; exact nc_size ..
theorem InN.grown {w : World} {c : Array Value} {t : T3} (h : InN w c t) : Calls Try.prog 17 #[.agg c] w fun e w' => ∃ u, e = .returned u ∧ (u = .pointer none ∨ ∃ p, u = .pointer (some ⟨p, 0, none⟩) ∧ Tre w' p t) ∧ G w w' := by
  obtain ⟨nm, h1, h2⟩ := h.h
  refine (grownP_any c nm t.1 t.2.1 t.2.2 w h1 h2 h.ok h.len).mono ?_
  rintro e w' ⟨u, rfl, hr, hg⟩
  exact ⟨u, rfl, hr.tre, hg⟩
/-- what grown answered -/
def GR (w : World) (u : Value) (t : T3) : Prop := u = .pointer none ∨ ∃ p, u = .pointer (some ⟨p, 0, none⟩) ∧ Tre w p t
theorem GR.grow {w w' : World} {u : Value} {t : T3} (h : GR w u t) (hg : G w w') : GR w' u t := h.imp id fun ⟨p, h1, h2⟩ => ⟨p, h1, h2.grow hg⟩

set_option maxRecDepth 100000 in
set_option maxHeartbeats 8000000 in
theorem sames_walk (c d f : Array Value) (t u x : T3) (w : World) (hc : InN w c t) (hd : InN w d u) (hf : InN w f x) :
    Calls Try.prog 5 #[.agg c, .agg d, .agg f] w fun e w' => e = .returned (.bool true) ∧ G w w' := by
  have H3 := three_boxes w c d f
  have zc := hc.size
  have zd := hd.size
  have zf := hf.size
  have H0 := hid (⟨H3, hc.grow H3.2.2.2, hd.grow H3.2.2.2, hf.grow H3.2.2.2⟩ : (Var (((w.alloc (.cells c 30)).alloc (.cells d 30)).alloc (.cells f 30)) w.heap.size c ∧ Var (((w.alloc (.cells c 30)).alloc (.cells d 30)).alloc (.cells f 30)) (w.heap.size + 1) d ∧ Var (((w.alloc (.cells c 30)).alloc (.cells d 30)).alloc (.cells f 30)) (w.heap.size + 2) f ∧ G w (((w.alloc (.cells c 30)).alloc (.cells d 30)).alloc (.cells f 30))) ∧ InN (((w.alloc (.cells c 30)).alloc (.cells d 30)).alloc (.cells f 30)) c t ∧ InN (((w.alloc (.cells c 30)).alloc (.cells d 30)).alloc (.cells f 30)) d u ∧ InN (((w.alloc (.cells c 30)).alloc (.cells d 30)).alloc (.cells f 30)) f x)
  clear hc hd hf H3
  go_enter Try.func5, Try.ntmps5
  go_upto_region 1 with fail
  generalize ((w.alloc (.cells c 30)).alloc (.cells d 30)).alloc (.cells f 30) = w1 at *
  generalize w.heap.size = B at *
  go_wp2_with fail
  refine (known_any w1).mono ?_
  rintro e w2 ⟨rfl, hg2⟩
  have HV := hid (⟨H0.out.1.1.grow hg2, H0.out.1.2.1.grow hg2, H0.out.1.2.2.1.grow hg2, H0.out.1.2.2.2.trans hg2, H0.out.2.1.grow hg2, H0.out.2.2.1.grow hg2, H0.out.2.2.2.grow hg2⟩ : Var w2 B c ∧ Var w2 (B + 1) d ∧ Var w2 (B + 2) f ∧ G w w2 ∧ InN w2 c t ∧ InN w2 d u ∧ InN w2 f x)
  clear H0 hg2
  go_upto_region 3 with fail
  refine wp_region_G ?_
  replace HV := hid (⟨HV.out.1.grow (G.drew w2), HV.out.2.1.grow (G.drew w2), HV.out.2.2.1.grow (G.drew w2), HV.out.2.2.2.1.trans (G.drew w2), HV.out.2.2.2.2.1.grow (G.drew w2), HV.out.2.2.2.2.2.1.grow (G.drew w2), HV.out.2.2.2.2.2.2.grow (G.drew w2)⟩ : Var w2.drew B c ∧ Var w2.drew (B + 1) d ∧ Var w2.drew (B + 2) f ∧ G w w2.drew ∧ InN w2.drew c t ∧ InN w2.drew d u ∧ InN w2.drew f x)
  generalize w2.drew = wd at *
  refine takeG 0 14 (.agg c) rfl rfl (by kernel_rfl) (by kernel_rfl) (by kernel_rfl) (fun _ _ _ h => h) (by kernel_rfl) (fun wz hz => ?_) ?_
  · exact exec_load30 _ rfl B 0 rfl c zc (HV.out.1.grow hz).lies
  try simp only [Act.put, List.setIfInBounds_toArray, List.set_cons_zero, List.set_cons_succ]
  refine takeG 2 16 (.agg d) rfl rfl (by kernel_rfl) (by kernel_rfl) (by kernel_rfl) (fun _ _ _ h => h) (by kernel_rfl) (fun wz hz => ?_) ?_
  · exact exec_load30 _ rfl (B + 1) 0 rfl d zd (HV.out.2.1.grow hz).lies
  try simp only [Act.put, List.setIfInBounds_toArray, List.set_cons_zero, List.set_cons_succ]
  refine takeG 4 18 (.agg f) rfl rfl (by kernel_rfl) (by kernel_rfl) (by kernel_rfl) (fun _ _ _ h => h) (by kernel_rfl) (fun wz hz => ?_) ?_
  · exact exec_load30 _ rfl (B + 2) 0 rfl f zf (HV.out.2.2.1.grow hz).lies
  try simp only [Act.put, List.setIfInBounds_toArray, List.set_cons_zero, List.set_cons_succ]
  refine readyG [1] (by kernel_rfl) (by simp) (fun w3 hz3 => ?_)
  refine AllG.call 1 15 17 #[.agg c] rfl rfl (by kernel_rfl) (by go_simp) ?_ AllG.nil
  refine ((HV.out.2.2.2.2.1.grow hz3).grown).mono ?_
  rintro e w4 ⟨u1, rfl, hr1, hgA⟩
  have hz4 := hz3.trans hgA
  refine ⟨u1, rfl, hgA, ?_⟩
  try simp only [Act.put, List.setIfInBounds_toArray, List.set_cons_zero, List.set_cons_succ]
  refine readyG [3] (by kernel_rfl) (by simp) (fun w5 hz5 => ?_)
  refine AllG.call 3 17 17 #[.agg d] rfl rfl (by kernel_rfl) (by go_simp) ?_ AllG.nil
  refine ((HV.out.2.2.2.2.2.1.grow (hz4.trans hz5)).grown).mono ?_
  rintro e w6 ⟨u2, rfl, hr2, hgB⟩
  refine ⟨u2, rfl, hgB, ?_⟩
  try simp only [Act.put, List.setIfInBounds_toArray, List.set_cons_zero, List.set_cons_succ]
  have hz6 := (hz4.trans hz5).trans hgB
  have hg4 := hz5.trans hgB
  refine readyG [5] (by kernel_rfl) (by simp) (fun w7 hz7 => ?_)
  refine AllG.call 5 19 17 #[.agg f] rfl rfl (by kernel_rfl) (by go_simp) ?_ AllG.nil
  refine ((HV.out.2.2.2.2.2.2.grow (hz6.trans hz7)).grown).mono ?_
  rintro e w8 ⟨u3, rfl, hr3, hgC⟩
  refine ⟨u3, rfl, hgC, ?_⟩
  try simp only [Act.put, List.setIfInBounds_toArray, List.set_cons_zero, List.set_cons_succ]
  have hg5 := hz7.trans hgC
  refine takeG 6 7 (u1) rfl rfl (by kernel_rfl) (by kernel_rfl) (by kernel_rfl) (fun _ _ _ h => h) (by kernel_rfl) (fun wz hz => ?_) ?_
  · rfl
  try simp only [Act.put, List.setIfInBounds_toArray, List.set_cons_zero, List.set_cons_succ]
  refine takeG 7 8 (u2) rfl rfl (by kernel_rfl) (by kernel_rfl) (by kernel_rfl) (fun _ _ _ h => h) (by kernel_rfl) (fun wz hz => ?_) ?_
  · rfl
  try simp only [Act.put, List.setIfInBounds_toArray, List.set_cons_zero, List.set_cons_succ]
  refine takeG 8 9 (u3) rfl rfl (by kernel_rfl) (by kernel_rfl) (by kernel_rfl) (fun _ _ _ h => h) (by kernel_rfl) (fun wz hz => ?_) ?_
  · rfl
  try simp only [Act.put, List.setIfInBounds_toArray, List.set_cons_zero, List.set_cons_succ]
  refine doneG (by kernel_rfl) (fun w9 hg9 => ?_)
  replace hz3 := hz4
  clear hz4 hz5 hz6 hz7 hgA hgB hgC
  have HG := hid (⟨GR.grow (GR.grow (GR.grow hr1 hg4) hg5) hg9, GR.grow (GR.grow hr2 hg5) hg9, GR.grow hr3 hg9, (((HV.out.2.2.2.1.trans hz3).trans hg4).trans hg5).trans hg9⟩ : GR w9 u1 t ∧ GR w9 u2 u ∧ GR w9 u3 x ∧ G w w9)
  have i1 : u1 = .pointer none ∨ ∃ p, u1 = .pointer (some ⟨p, 0, none⟩) := hr1.imp id fun ⟨p, h, _⟩ => ⟨p, h⟩
  have i2 : u2 = .pointer none ∨ ∃ p, u2 = .pointer (some ⟨p, 0, none⟩) := hr2.imp id fun ⟨p, h, _⟩ => ⟨p, h⟩
  have i3 : u3 = .pointer none ∨ ∃ p, u3 = .pointer (some ⟨p, 0, none⟩) := hr3.imp id fun ⟨p, h, _⟩ => ⟨p, h⟩
  clear hr1 hr2 hr3 hz3 hg4 hg5 hg9 HV
  rcases i1 with rfl | ⟨p, rfl⟩
  · go_wp2_with fail
    go_ret
    exact ⟨rfl, HG.out.2.2.2⟩
  rcases i2 with rfl | ⟨q, rfl⟩
  · go_wp2_with fail
    go_ret
    exact ⟨rfl, HG.out.2.2.2⟩
  rcases i3 with rfl | ⟨r, rfl⟩
  · go_wp2_with fail
    go_ret
    exact ⟨rfl, HG.out.2.2.2⟩
  have HS : Hid (SW w w9 p q r t u x) := by
    obtain ⟨h1, h2, h3, h4⟩ := HG.out
    have e : ∀ {W : World} {p : Nat} {t : T3}, GR W (.pointer (some ⟨p, 0, none⟩)) t → Tre W p t := fun h => by
      rcases h with h | ⟨p', h, ht⟩
      · cases h
      · cases h; exact ht
    exact ⟨e h1, e h2, e h3, h4⟩
  clear HG
  obtain ⟨b, hb⟩ : ∃ b, sameT false t u = b := ⟨_, rfl⟩
  obtain ⟨b2, hb2⟩ : ∃ b, sameT false u x = b := ⟨_, rfl⟩
  obtain ⟨r1, hr1⟩ : ∃ b, sameT true t u = b := ⟨_, rfl⟩
  obtain ⟨r2, hr2⟩ : ∃ b, sameT true u t = b := ⟨_, rfl⟩
  obtain ⟨r3, hr3⟩ : ∃ b, sameT false u (unkT t) = b := ⟨_, rfl⟩
  have HB := hid (⟨hb, hb2, hr1, hr2, hr3⟩ : sameT false t u = b ∧ sameT false u x = b2 ∧ sameT true t u = r1 ∧ sameT true u t = r2 ∧ sameT false u (unkT t) = r3)
  clear hb hb2 hr1 hr2 hr3
  have nb : (b != b) = false := by simp
  have n1 : (r1 != r1) = false := by simp
  have n2 : (r2 != r2) = false := by simp
  go_wp2_with fail
  refine (Tre.same false HS.out.t HS.out.u (b := b) HB.out.1).mono ?_
  rintro e v11 ⟨rfl, hg⟩
  replace HS := hid (HS.out.grow hg)
  clear hg
  go_wp2_with fail
  refine HS.out.t.bare.mono ?_
  rintro e v12 ⟨c1, rfl, h1, hg⟩
  replace HS := hid (HS.out.grow hg)
  replace h1 := hid h1
  clear hg
  go_wp2_with fail
  refine HS.out.u.bare.mono ?_
  rintro e v13 ⟨c2, rfl, h2, hg⟩
  replace HS := hid (HS.out.grow hg)
  replace h1 := hid (h1.out.below hg)
  replace h2 := hid h2
  clear hg
  go_wp2_with fail
  refine (Tre.equal HS.out.t HS.out.u h1.out h2.out HB.out.1).mono ?_
  rintro e v14 ⟨rfl, hg⟩
  replace HS := hid (HS.out.grow hg)
  clear hg h1 h2
  go_wp2_with fail
  refine (Tre.same false HS.out.t HS.out.u (b := b) HB.out.1).mono ?_
  rintro e v15 ⟨rfl, hg⟩
  replace HS := hid (HS.out.grow hg)
  clear hg
  go_wp2_with fail
  refine (Tre.same false HS.out.u HS.out.t (b := b) ((sameT_symm u t).trans HB.out.1)).mono ?_
  rintro e v16 ⟨rfl, hg⟩
  replace HS := hid (HS.out.grow hg)
  clear hg
  go_wp2_with fail
  refine (Tre.same false HS.out.t HS.out.t (b := true) (sameT_refl false t)).mono ?_
  rintro e v17 ⟨rfl, hg⟩
  replace HS := hid (HS.out.grow hg)
  clear hg
  go_wp2_with fail
  refine (Tre.same true HS.out.t HS.out.t (b := true) (sameT_refl true t)).mono ?_
  rintro e v18 ⟨rfl, hg⟩
  replace HS := hid (HS.out.grow hg)
  clear hg
  cases b with
  | false =>
    go_wp2_with fail
    refine (Tre.same false HS.out.t HS.out.u (b := false) HB.out.1).mono ?_
    rintro e v19 ⟨rfl, hg⟩
    replace HS := hid (HS.out.grow hg)
    clear hg
    go_wp2_with fail
    refine (Tre.same false HS.out.t HS.out.u (b := false) HB.out.1).mono ?_
    rintro e v20 ⟨rfl, hg⟩
    replace HS := hid (HS.out.grow hg)
    clear hg
    go_wp2_with fail
    refine (Tre.same true HS.out.t HS.out.u (b := r1) HB.out.2.2.1).mono ?_
    rintro e v21 ⟨rfl, hg⟩
    replace HS := hid (HS.out.grow hg)
    clear hg
    go_wp2_with fail
    refine HS.out.t.node.mono ?_
    rintro e v22 ⟨c3, rfl, h3, hg⟩
    replace HS := hid (HS.out.grow hg)
    replace h3 := hid h3
    clear hg
    go_wp2_with fail
    refine HS.out.u.node.mono ?_
    rintro e v23 ⟨c4, rfl, h4, hg⟩
    replace HS := hid (HS.out.grow hg)
    replace h3 := hid (h3.out.below hg)
    replace h4 := hid h4
    clear hg
    go_wp2_with fail
    refine (Tre.like HS.out.t HS.out.u h3.out h4.out HB.out.2.2.1).mono ?_
    rintro e v24 ⟨rfl, hg⟩
    replace HS := hid (HS.out.grow hg)
    clear hg h3 h4
    go_wp2_with fail
    refine (Tre.same true HS.out.u HS.out.t (b := r2) HB.out.2.2.2.1).mono ?_
    rintro e v25 ⟨rfl, hg⟩
    replace HS := hid (HS.out.grow hg)
    clear hg
    go_wp2_with fail
    refine HS.out.u.node.mono ?_
    rintro e v26 ⟨c5, rfl, h5, hg⟩
    replace HS := hid (HS.out.grow hg)
    replace h5 := hid h5
    clear hg
    go_wp2_with fail
    refine HS.out.t.node.mono ?_
    rintro e v27 ⟨c6, rfl, h6, hg⟩
    replace HS := hid (HS.out.grow hg)
    replace h5 := hid (h5.out.below hg)
    replace h6 := hid h6
    clear hg
    go_wp2_with fail
    refine (Tre.like HS.out.u HS.out.t h5.out h6.out HB.out.2.2.2.1).mono ?_
    rintro e v28 ⟨rfl, hg⟩
    replace HS := hid (HS.out.grow hg)
    clear hg h5 h6
    go_wp2_with fail
    refine HS.out.t.node.mono ?_
    rintro e v29 ⟨c7, rfl, h7, hg⟩
    replace HS := hid (HS.out.grow hg)
    replace h7 := hid h7
    clear hg
    go_wp2_with fail
    refine (Tre.unk HS.out.t h7.out).mono ?_
    rintro e v30 ⟨c8, rfl, h8, hg⟩
    replace HS := hid (HS.out.grow hg)
    replace h8 := hid h8
    clear hg h7
    go_wp2_with fail
    refine (Tre.of HS.out.t h8.out).mono ?_
    rintro e v31 ⟨s, rfl, h9, hg⟩
    replace HS := hid (⟨HS.out.t.grow hg, HS.out.u.grow hg, h9, HS.out.g.trans hg⟩ : SW w v31 p q s t u (unkT t))
    clear hg h8 h9
    go_wp2_with fail
    refine (Tre.same true HS.out.t HS.out.x (b := true) (sameT_unk t)).mono ?_
    rintro e v32 ⟨rfl, hg⟩
    replace HS := hid (HS.out.grow hg)
    clear hg
    go_wp2_with fail
    refine (Tre.same false HS.out.u HS.out.t (b := false) ((sameT_symm u t).trans HB.out.1)).mono ?_
    rintro e v33 ⟨rfl, hg⟩
    replace HS := hid (HS.out.grow hg)
    clear hg
    cases r1 with
    | false =>
      go_wp2_with fail
      refine (Tre.same true HS.out.t HS.out.u (b := false) HB.out.2.2.1).mono ?_
      rintro e v34 ⟨rfl, hg⟩
      replace HS := hid (HS.out.grow hg)
      clear hg
      go_wp2_with fail
      go_ret
      exact ⟨rfl, HS.out.g⟩
    | true =>
      go_wp2_with fail
      refine (Tre.same true HS.out.t HS.out.u (b := true) HB.out.2.2.1).mono ?_
      rintro e v35 ⟨rfl, hg⟩
      replace HS := hid (HS.out.grow hg)
      clear hg
      cases r3 with
      | false =>
        go_wp2_with fail
        refine (Tre.same false HS.out.u HS.out.x (b := false) HB.out.2.2.2.2).mono ?_
        rintro e v36 ⟨rfl, hg⟩
        replace HS := hid (HS.out.grow hg)
        clear hg
        go_wp2_with fail
        go_ret
        exact ⟨rfl, HS.out.g⟩
      | true =>
        go_wp2_with fail
        refine (Tre.same false HS.out.u HS.out.x (b := true) HB.out.2.2.2.2).mono ?_
        rintro e v37 ⟨rfl, hg⟩
        replace HS := hid (HS.out.grow hg)
        clear hg
        go_wp2_with fail
        refine (Tre.same true HS.out.t HS.out.x (b := true) (sameT_unk t)).mono ?_
        rintro e v38 ⟨rfl, hg⟩
        replace HS := hid (HS.out.grow hg)
        clear hg
        go_wp2_with fail
        go_ret
        exact ⟨rfl, HS.out.g⟩
  | true =>
    cases b2 with
    | false =>
      go_wp2_with fail
      refine (Tre.same false HS.out.t HS.out.u (b := true) HB.out.1).mono ?_
      rintro e v39 ⟨rfl, hg⟩
      replace HS := hid (HS.out.grow hg)
      clear hg
      go_wp2_with fail
      refine (Tre.same false HS.out.u HS.out.x (b := false) HB.out.2.1).mono ?_
      rintro e v40 ⟨rfl, hg⟩
      replace HS := hid (HS.out.grow hg)
      clear hg
      go_wp2_with fail
      refine (Tre.same false HS.out.t HS.out.u (b := true) HB.out.1).mono ?_
      rintro e v41 ⟨rfl, hg⟩
      replace HS := hid (HS.out.grow hg)
      clear hg
      go_wp2_with fail
      refine (Tre.same true HS.out.t HS.out.u (b := true) (sameT_open HB.out.1)).mono ?_
      rintro e v42 ⟨rfl, hg⟩
      replace HS := hid (HS.out.grow hg)
      clear hg
      go_wp2_with fail
      refine (Tre.same true HS.out.t HS.out.u (b := r1) HB.out.2.2.1).mono ?_
      rintro e v43 ⟨rfl, hg⟩
      replace HS := hid (HS.out.grow hg)
      clear hg
      go_wp2_with fail
      refine HS.out.t.node.mono ?_
      rintro e v44 ⟨c3, rfl, h3, hg⟩
      replace HS := hid (HS.out.grow hg)
      replace h3 := hid h3
      clear hg
      go_wp2_with fail
      refine HS.out.u.node.mono ?_
      rintro e v45 ⟨c4, rfl, h4, hg⟩
      replace HS := hid (HS.out.grow hg)
      replace h3 := hid (h3.out.below hg)
      replace h4 := hid h4
      clear hg
      go_wp2_with fail
      refine (Tre.like HS.out.t HS.out.u h3.out h4.out HB.out.2.2.1).mono ?_
      rintro e v46 ⟨rfl, hg⟩
      replace HS := hid (HS.out.grow hg)
      clear hg h3 h4
      go_wp2_with fail
      refine (Tre.same true HS.out.u HS.out.t (b := r2) HB.out.2.2.2.1).mono ?_
      rintro e v47 ⟨rfl, hg⟩
      replace HS := hid (HS.out.grow hg)
      clear hg
      go_wp2_with fail
      refine HS.out.u.node.mono ?_
      rintro e v48 ⟨c5, rfl, h5, hg⟩
      replace HS := hid (HS.out.grow hg)
      replace h5 := hid h5
      clear hg
      go_wp2_with fail
      refine HS.out.t.node.mono ?_
      rintro e v49 ⟨c6, rfl, h6, hg⟩
      replace HS := hid (HS.out.grow hg)
      replace h5 := hid (h5.out.below hg)
      replace h6 := hid h6
      clear hg
      go_wp2_with fail
      refine (Tre.like HS.out.u HS.out.t h5.out h6.out HB.out.2.2.2.1).mono ?_
      rintro e v50 ⟨rfl, hg⟩
      replace HS := hid (HS.out.grow hg)
      clear hg h5 h6
      go_wp2_with fail
      refine HS.out.t.node.mono ?_
      rintro e v51 ⟨c7, rfl, h7, hg⟩
      replace HS := hid (HS.out.grow hg)
      replace h7 := hid h7
      clear hg
      go_wp2_with fail
      refine (Tre.unk HS.out.t h7.out).mono ?_
      rintro e v52 ⟨c8, rfl, h8, hg⟩
      replace HS := hid (HS.out.grow hg)
      replace h8 := hid h8
      clear hg h7
      go_wp2_with fail
      refine (Tre.of HS.out.t h8.out).mono ?_
      rintro e v53 ⟨s, rfl, h9, hg⟩
      replace HS := hid (⟨HS.out.t.grow hg, HS.out.u.grow hg, h9, HS.out.g.trans hg⟩ : SW w v53 p q s t u (unkT t))
      clear hg h8 h9
      go_wp2_with fail
      refine (Tre.same true HS.out.t HS.out.x (b := true) (sameT_unk t)).mono ?_
      rintro e v54 ⟨rfl, hg⟩
      replace HS := hid (HS.out.grow hg)
      clear hg
      go_wp2_with fail
      refine (Tre.same false HS.out.u HS.out.t (b := true) ((sameT_symm u t).trans HB.out.1)).mono ?_
      rintro e v55 ⟨rfl, hg⟩
      replace HS := hid (HS.out.grow hg)
      clear hg
      go_wp2_with fail
      refine (Tre.same true HS.out.u HS.out.x (b := true) ((sameT_left ((sameT_symm u t).trans HB.out.1)).trans (sameT_unk t))).mono ?_
      rintro e v56 ⟨rfl, hg⟩
      replace HS := hid (HS.out.grow hg)
      clear hg
      cases r1 with
      | false =>
        go_wp2_with fail
        refine (Tre.same true HS.out.t HS.out.u (b := false) HB.out.2.2.1).mono ?_
        rintro e v57 ⟨rfl, hg⟩
        replace HS := hid (HS.out.grow hg)
        clear hg
        go_wp2_with fail
        go_ret
        exact ⟨rfl, HS.out.g⟩
      | true =>
        go_wp2_with fail
        refine (Tre.same true HS.out.t HS.out.u (b := true) HB.out.2.2.1).mono ?_
        rintro e v58 ⟨rfl, hg⟩
        replace HS := hid (HS.out.grow hg)
        clear hg
        cases r3 with
        | false =>
          go_wp2_with fail
          refine (Tre.same false HS.out.u HS.out.x (b := false) HB.out.2.2.2.2).mono ?_
          rintro e v59 ⟨rfl, hg⟩
          replace HS := hid (HS.out.grow hg)
          clear hg
          go_wp2_with fail
          go_ret
          exact ⟨rfl, HS.out.g⟩
        | true =>
          go_wp2_with fail
          refine (Tre.same false HS.out.u HS.out.x (b := true) HB.out.2.2.2.2).mono ?_
          rintro e v60 ⟨rfl, hg⟩
          replace HS := hid (HS.out.grow hg)
          clear hg
          go_wp2_with fail
          refine (Tre.same true HS.out.t HS.out.x (b := true) (sameT_unk t)).mono ?_
          rintro e v61 ⟨rfl, hg⟩
          replace HS := hid (HS.out.grow hg)
          clear hg
          go_wp2_with fail
          go_ret
          exact ⟨rfl, HS.out.g⟩
    | true =>
      go_wp2_with fail
      refine (Tre.same false HS.out.t HS.out.u (b := true) HB.out.1).mono ?_
      rintro e v62 ⟨rfl, hg⟩
      replace HS := hid (HS.out.grow hg)
      clear hg
      go_wp2_with fail
      refine (Tre.same false HS.out.u HS.out.x (b := true) HB.out.2.1).mono ?_
      rintro e v63 ⟨rfl, hg⟩
      replace HS := hid (HS.out.grow hg)
      clear hg
      go_wp2_with fail
      refine (Tre.same false HS.out.t HS.out.x (b := true) (sameT_trans HB.out.1 HB.out.2.1)).mono ?_
      rintro e v64 ⟨rfl, hg⟩
      replace HS := hid (HS.out.grow hg)
      clear hg
      go_wp2_with fail
      refine (Tre.same false HS.out.t HS.out.u (b := true) HB.out.1).mono ?_
      rintro e v65 ⟨rfl, hg⟩
      replace HS := hid (HS.out.grow hg)
      clear hg
      go_wp2_with fail
      refine (Tre.same true HS.out.t HS.out.u (b := true) (sameT_open HB.out.1)).mono ?_
      rintro e v66 ⟨rfl, hg⟩
      replace HS := hid (HS.out.grow hg)
      clear hg
      go_wp2_with fail
      refine (Tre.same true HS.out.t HS.out.u (b := r1) HB.out.2.2.1).mono ?_
      rintro e v67 ⟨rfl, hg⟩
      replace HS := hid (HS.out.grow hg)
      clear hg
      go_wp2_with fail
      refine HS.out.t.node.mono ?_
      rintro e v68 ⟨c3, rfl, h3, hg⟩
      replace HS := hid (HS.out.grow hg)
      replace h3 := hid h3
      clear hg
      go_wp2_with fail
      refine HS.out.u.node.mono ?_
      rintro e v69 ⟨c4, rfl, h4, hg⟩
      replace HS := hid (HS.out.grow hg)
      replace h3 := hid (h3.out.below hg)
      replace h4 := hid h4
      clear hg
      go_wp2_with fail
      refine (Tre.like HS.out.t HS.out.u h3.out h4.out HB.out.2.2.1).mono ?_
      rintro e v70 ⟨rfl, hg⟩
      replace HS := hid (HS.out.grow hg)
      clear hg h3 h4
      go_wp2_with fail
      refine (Tre.same true HS.out.u HS.out.t (b := r2) HB.out.2.2.2.1).mono ?_
      rintro e v71 ⟨rfl, hg⟩
      replace HS := hid (HS.out.grow hg)
      clear hg
      go_wp2_with fail
      refine HS.out.u.node.mono ?_
      rintro e v72 ⟨c5, rfl, h5, hg⟩
      replace HS := hid (HS.out.grow hg)
      replace h5 := hid h5
      clear hg
      go_wp2_with fail
      refine HS.out.t.node.mono ?_
      rintro e v73 ⟨c6, rfl, h6, hg⟩
      replace HS := hid (HS.out.grow hg)
      replace h5 := hid (h5.out.below hg)
      replace h6 := hid h6
      clear hg
      go_wp2_with fail
      refine (Tre.like HS.out.u HS.out.t h5.out h6.out HB.out.2.2.2.1).mono ?_
      rintro e v74 ⟨rfl, hg⟩
      replace HS := hid (HS.out.grow hg)
      clear hg h5 h6
      go_wp2_with fail
      refine HS.out.t.node.mono ?_
      rintro e v75 ⟨c7, rfl, h7, hg⟩
      replace HS := hid (HS.out.grow hg)
      replace h7 := hid h7
      clear hg
      go_wp2_with fail
      refine (Tre.unk HS.out.t h7.out).mono ?_
      rintro e v76 ⟨c8, rfl, h8, hg⟩
      replace HS := hid (HS.out.grow hg)
      replace h8 := hid h8
      clear hg h7
      go_wp2_with fail
      refine (Tre.of HS.out.t h8.out).mono ?_
      rintro e v77 ⟨s, rfl, h9, hg⟩
      replace HS := hid (⟨HS.out.t.grow hg, HS.out.u.grow hg, h9, HS.out.g.trans hg⟩ : SW w v77 p q s t u (unkT t))
      clear hg h8 h9
      go_wp2_with fail
      refine (Tre.same true HS.out.t HS.out.x (b := true) (sameT_unk t)).mono ?_
      rintro e v78 ⟨rfl, hg⟩
      replace HS := hid (HS.out.grow hg)
      clear hg
      go_wp2_with fail
      refine (Tre.same false HS.out.u HS.out.t (b := true) ((sameT_symm u t).trans HB.out.1)).mono ?_
      rintro e v79 ⟨rfl, hg⟩
      replace HS := hid (HS.out.grow hg)
      clear hg
      go_wp2_with fail
      refine (Tre.same true HS.out.u HS.out.x (b := true) ((sameT_left ((sameT_symm u t).trans HB.out.1)).trans (sameT_unk t))).mono ?_
      rintro e v80 ⟨rfl, hg⟩
      replace HS := hid (HS.out.grow hg)
      clear hg
      cases r1 with
      | false =>
        go_wp2_with fail
        refine (Tre.same true HS.out.t HS.out.u (b := false) HB.out.2.2.1).mono ?_
        rintro e v81 ⟨rfl, hg⟩
        replace HS := hid (HS.out.grow hg)
        clear hg
        go_wp2_with fail
        go_ret
        exact ⟨rfl, HS.out.g⟩
      | true =>
        go_wp2_with fail
        refine (Tre.same true HS.out.t HS.out.u (b := true) HB.out.2.2.1).mono ?_
        rintro e v82 ⟨rfl, hg⟩
        replace HS := hid (HS.out.grow hg)
        clear hg
        cases r3 with
        | false =>
          go_wp2_with fail
          refine (Tre.same false HS.out.u HS.out.x (b := false) HB.out.2.2.2.2).mono ?_
          rintro e v83 ⟨rfl, hg⟩
          replace HS := hid (HS.out.grow hg)
          clear hg
          go_wp2_with fail
          go_ret
          exact ⟨rfl, HS.out.g⟩
        | true =>
          go_wp2_with fail
          refine (Tre.same false HS.out.u HS.out.x (b := true) HB.out.2.2.2.2).mono ?_
          rintro e v84 ⟨rfl, hg⟩
          replace HS := hid (HS.out.grow hg)
          clear hg
          go_wp2_with fail
          refine (Tre.same true HS.out.t HS.out.x (b := true) (sameT_unk t)).mono ?_
          rintro e v85 ⟨rfl, hg⟩
          replace HS := hid (HS.out.grow hg)
          clear hg
          go_wp2_with fail
          go_ret
          exact ⟨rfl, HS.out.g⟩
end Go.Proofs.Ytjkbhfkeagfhbaa
namespace Go.Proofs.Ytjkbhfkeagfhbaa
open Go.ChangeShapes Go.WideShapes Go.ChangeAt Go.RowKit
theorem own : ownKnob Try.prog.godebug = none := by kernel_rfl
theorem laidOut : laidOutB Try.prog = true := by kernel_rfl
end Go.Proofs.Ytjkbhfkeagfhbaa
