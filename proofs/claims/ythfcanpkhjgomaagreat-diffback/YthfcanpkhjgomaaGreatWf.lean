import Derived.Test.YthfcanpkhjgomaaGreatVx
import Derived.Test.YthfcanpkhjgomaaGreatDFit
set_option maxRecDepth 100000
set_option maxHeartbeats 8000000
namespace Go.Proofs.YthfcanpkhjgomaaGreat
open Go.RowKit
open Ch
structure LZ (x y : Kid) (n : Nat) : Prop where
 hn : (difs (some x) (some y)).length = n
 hl : siZ (some x) + siZ (some y) ≤ 10000
 hw : siW (some x) + siW (some y) ≤ 1000000
 hT : (difs (some x) (some y)).length ≤ 50000
theorem difs_len {x y : Kid} : (difs (some x) (some y)).length ≤ x.k.flat.size + y.k.flat.size + 2 := by
 have h : ∀ (N : Nat) (L : List By) (f g : F), (DO.wk N L f g).length ≤ f.size + g.size := by
  intro N
  induction N with
  | zero => intro L f g; simp [DO.wk]
  | succ N ih =>
   intro L f g
   have d1 : ∀ (L : List By) (o n : Vd), (DO.df L o n).length ≤ 1 := fun L o n => by unfold DO.df; split <;> simp
   cases f with
   | nil => cases g with
    | nil => simp [DO.wk]
    | cons nm v m k r =>
     simp only [DO.wk, List.length_append, F.size]
     have := d1 (L ++ [tl nm]) DO.vz v
     have := ih (L ++ [tl nm]) .nil k
     have := ih L .nil r
     simp only [F.size] at *
     omega
   | cons nm v m k r => cases g with
    | nil =>
     simp only [DO.wk, List.length_append, F.size]
     have := d1 (L ++ [tl nm]) v DO.vz
     have := ih (L ++ [tl nm]) k .nil
     have := ih L r .nil
     simp only [F.size] at *
     omega
    | cons nm2 v2 m2 k2 r2 =>
     simp only [DO.wk]
     split
     ·simp only [List.length_append, F.size]
      have := d1 (L ++ [tl nm]) v DO.vz
      have := ih (L ++ [tl nm]) k .nil
      have := ih L r (.cons nm2 v2 m2 k2 r2)
      simp only [F.size] at *
      omega
     ·split
      ·simp only [List.length_append, F.size]
       have := d1 (L ++ [tl nm2]) DO.vz v2
       have := ih (L ++ [tl nm2]) .nil k2
       have := ih L (.cons nm v m k r) r2
       simp only [F.size] at *
       omega
      ·simp only [List.length_append, F.size]
       have := d1 (L ++ [tl nm]) v v2
       have := ih (L ++ [tl nm]) k k2
       have := ih L r r2
       omega
 unfold difs dl
 rw [List.length_map, List.length_append]
 have h1 := h ((siF (some x)).size + (siF (some y)).size + 1) [] (siF (some x)) (siF (some y))
 have h2 : (DO.df [] (siV (some x)) (siV (some y))).length ≤ 1 := by unfold DO.df; split <;> simp
 simp only [siF] at *
 omega
theorem lz_of {x y : Kid} (h1 : x.k.flat.weight ≤ 6000) (h2 : y.k.flat.weight ≤ 6000) (hs : x.k.flat.size + y.k.flat.size ≤ 9990) : LZ x y (difs (some x) (some y)).length := by
 have := difs_len (x := x) (y := y)
 exact ⟨rfl, by simp only [siZ]; omega, by simp only [siW, siF]; omega, by omega⟩
theorem run_store_func {P : Program} {w : World} {a : Addr} {m : Mode} (f : Fn) (x y : Array Value) : (store a (.func f x y) m).run P w = stored P w a (.func f x y) m := run_store P w a _ m rfl
attribute [local go_sem] run_store_func
theorem good_small : ∀ f : F, goodN f → 2 * f.size ≤ f.weight
 | .nil, _ => Nat.le_refl _
 | .cons nm v m k r, ⟨h1, h2, h3⟩ => by
  have := good_small k h2
  have := good_small r h3
  have h4 : 1 ≤ nm.size := by
   unfold nameB at h1
   simp only [decide_eq_true_eq] at h1
   have := h1.1
   rwa [tl_len] at this
  simp only [F.size, F.weight]
  omega
theorem gv_same (s : Int) (T : List Cd) (h : ¬ (0 ≤ s ∧ s < (T.length : Int))) : gvR s T = T := by
 unfold gvR
 split
 ·rfl
 ·rw [List.take_of_length_le (by omega)]
end Go.Proofs.YthfcanpkhjgomaaGreat
namespace Go.Proofs.YthfcanpkhjgomaaGreat
open Go.RowKit Ch
def GivOk (t u : T3) (B : Nat) (w : World) : Prop := ∀ W, G w W → Calls Tryz.prog 19 #[.func (.func 58) #[] #[.pointer (some ⟨B, 0, none⟩), .pointer (some ⟨B + 1, 0, none⟩)], .int .i64 (-1)] W fun e W' =>
 ∃ ao cp, e = .returned (.tuple #[.slice ao (difT t u).length cp, .bool true]) ∧ HasA W' (.slice ao (difT t u).length cp) (difT t u) ∧ G W W'
theorem of_given (p pu : Nat) (t u : T3) (w : World) (ht : T1 w p t) (hu : T1 w pu u) (gt : Good t) (gu : Good u) (w1 : t.2.2.weight ≤ 6000) (w2 : u.2.2.weight ≤ 6000) :
  Calls Tryz.prog 20 #[.pointer (some ⟨p, 0, none⟩), .pointer (some ⟨pu, 0, none⟩)] w fun e w' => ∃ B, e = .returned (.func (.func 58) #[] #[.pointer (some ⟨B, 0, none⟩), .pointer (some ⟨B + 1, 0, none⟩)]) ∧ GivOk t u B w' ∧ G w w' := by
 obtain ⟨x, ex, rfl, sx⟩ := ht.si
 obtain ⟨y, ey, rfl, sy⟩ := hu.si
 subst ex; subst ey
 have g1 := good_small x.k.flat (check_rise gt.c).2
 have g2 := good_small y.k.flat (check_rise gu.c).2
 have w1' : x.k.flat.weight ≤ 6000 := w1
 have w2' : y.k.flat.weight ≤ 6000 := w2
 have hz := lz_of (x := x) (y := y) w1' w2' (by omega)
 refine (of7_any (some x) (some y) w _ rfl).mono ?_
 rintro e w' ⟨rfl, rfl⟩
 have hg : G w ((w.alloc (.cells #[siP (some x)] 34)).alloc (.cells #[siP (some y)] 34)) := (G.alloc w _).trans (G.alloc _ _)
 have b1 : Bx ((w.alloc (.cells #[siP (some x)] 34)).alloc (.cells #[siP (some y)] 34)) w.heap.size 34 (siP (some x)) := (heap_alloc_old _ _ (by simp)).trans (heap_alloc_new _ _)
 have b2 : Bx ((w.alloc (.cells #[siP (some x)] 34)).alloc (.cells #[siP (some y)] 34)) (w.heap.size + 1) 34 (siP (some y)) := by
  have := heap_alloc_new (w.alloc (.cells #[siP (some x)] 34)) (.cells #[siP (some y)] 34)
  rwa [World.size_alloc] at this
 refine ⟨w.heap.size, rfl, fun W hW => ?_, hg⟩
 refine (given_any (some x) (some y) w.heap.size (w.heap.size + 1) (-1) W (sx.grow (hg.trans hW)) (sy.grow (hg.trans hW)) ((hW.block _ b1.lt).trans b1) ((hW.block _ b2.lt).trans b2) hz.hl hz.hw hz.hT).mono ?_
 rintro e W' ⟨v, rfl, ow, gb⟩
 rw [gv_same (-1) _ (by omega)] at ow
 obtain ⟨ao, cp, rfl⟩ := ow.form
 exact ⟨ao, cp, rfl, HasQ.has ow.hasq, gb⟩
theorem joinL_small : ∀ {L : List By}, (∀ x ∈ L, x.length ≤ 255) → (joinL L).length ≤ 256 * L.length
 | [], _ => Nat.le_refl _
 | [x], h => by have := h x (by simp); simp only [joinL, List.length_cons, List.length_nil]; omega
 | x :: y :: t, h => by
  have h1 := h x (by simp)
  have h2 := joinL_small (L := y :: t) fun z hz => h z (List.mem_cons_of_mem _ hz)
  simp only [joinL, List.length_append, List.length_cons] at h2 ⊢
  omega
theorem split_small {s : ByteArray} (h : splitE (tl s) 64 = 0) : s.size ≤ 1048576 := by
 obtain ⟨h1, h2⟩ := names_split h
 have h3 := joinL_small (L := (cutN s).map tl) fun x hx => by
  obtain ⟨y, hy, rfl⟩ := List.mem_map.1 hx
  have := h1 y hy
  unfold nameB at this
  simp only [decide_eq_true_eq] at this
  exact this.2.1
 rw [cutN_tl, join_pieces, tl_len, ← cutN_tl, List.length_map] at h3
 omega
theorem difT_facts {w : World} {p pu : Nat} {t u : T3} (ht : T1 w p t) (hu : T1 w pu u) (gt : Good t) (gu : Good u) (w1 : t.2.2.weight ≤ 6000) (w2 : u.2.2.weight ≤ 6000) :
  (difT t u).length ≤ 10000 ∧ (∀ c ∈ difT t u, c.path.size ≤ 1048576) ∧ (difT t u).map turnC = difT u t ∧ (difT t u = [] ↔ sameT false t u = true) ∧ t.2.2.size ≤ 50000 ∧ u.2.2.size ≤ 50000 := by
 obtain ⟨x, ex, _, _⟩ := ht.si
 obtain ⟨y, ey, _, _⟩ := hu.si
 have g1 := good_small t.2.2 (check_rise gt.c).2
 have g2 := good_small u.2.2 (check_rise gu.c).2
 have hd := difT_dd gt gu ex ey
 refine ⟨?_, fun c hc => ?_, difT_turn gt gu ex ey, difT_nil gt gu ex ey, by omega, by omega⟩
 ·subst ex; subst ey
  have h := difs_len (x := x) (y := y)
  rw [difs_T] at h
  have e1 : (kT x).2.2.size = x.k.flat.size := rfl
  have e2 : (kT y).2.2.size = y.k.flat.size := rfl
  omega
 ·rw [hd.1] at hc
  exact split_small (hd.2.split c hc)
theorem turn_ok (ao : Option Addr) (cp : Nat) (L : List Cd) (w : World) (h : HasA w (.slice ao L.length cp) L) (hn : L.length ≤ 10000) :
  Calls Tryz.prog 22 #[.slice ao L.length cp] w fun e w' => ∃ bo cq, e = .returned (.slice bo (L.map turnC).length cq) ∧ HasA w' (.slice bo (L.map turnC).length cq) (L.map turnC) ∧ G w w' := by
 refine (turn_any ao cp L w h hn).mono ?_
 rintro e w' ⟨v, rfl, ow, g⟩
 obtain ⟨bo, cq, rfl⟩ := ow.form
 exact ⟨bo, cq, rfl, HasQ.has ow.hasq, g⟩
theorem apply_ok {p pu : Nat} {t u : T3} {ao : Option Addr} {cp : Nat} {w : World} (ht : T1 w p t) (hu : T1 w pu u) (gt : Good t) (gu : Good u) (w1 : t.2.2.weight ≤ 6000) (w2 : u.2.2.weight ≤ 6000) (h : HasA w (.slice ao (difT t u).length cp) (difT t u)) :
  Calls Tryz.prog 11 #[.pointer (some ⟨p, 0, none⟩), .slice ao (difT t u).length cp] w fun e w' => ∃ z p', e = .returned (.tuple #[.pointer (some ⟨p', 0, none⟩), .int .i64 0]) ∧ T1 w' p' z ∧ z.2.2.rises ∧ z.2.2.size ≤ 50000 ∧ sameT false z u = true ∧ G w w' := by
 obtain ⟨f1, f2, _, _, f5, f6⟩ := difT_facts ht hu gt gu w1 w2
 obtain ⟨x, ex, _, _⟩ := ht.si
 obtain ⟨y, ey, _, _⟩ := hu.si
 obtain ⟨k1, k2⟩ := difT_apply gt gu ex ey
 refine (apply_any p t ao cp (difT t u) w ht gt.rises h (by omega) f5 f2).mono ?_
 rintro e w' ⟨v, rfl, hg, _, q⟩
 obtain ⟨z, p', hz, rfl, hT⟩ := q k1
 obtain ⟨m1, m2⟩ := k2 z hz
 rw [k1]
 refine ⟨z, p', rfl, hT, m1.1, ?_, m2, hg⟩
 unfold sameT at m2
 rw [Bool.and_eq_true] at m2
 have := (sameF_len m2.2).2
 omega
theorem diffBack_walk (HK : ∀ W, Calls Tryz.prog 18 #[] W fun e w' => e = .returned (.bool true) ∧ G W w') (c1 c2 : Array Value) (nm1 nm2 : ByteArray) (v1 v2 : Vd) (m1 m2 : Md) (ks1 ks2 : F) (w : World) (hN1 : HasN w c1 nm1 v1 m1 ks1) (hN2 : HasN w c2 nm2 v2 m2 ks2)
  (hnm1 : nm1.size ≤ 9223372036854775807) (hok1 : ks1.ok) (hlen1 : ks1.len ≤ 9223372036854775807) (hnm2 : nm2.size ≤ 9223372036854775807) (hok2 : ks2.ok) (hlen2 : ks2.len ≤ 9223372036854775807) :
  Calls Tryz.prog 4 #[.agg c1, .agg c2] w fun e w' => e = .returned (.bool true) ∧ G w w' := by
 have cs1 : c1.size = 41 := by obtain ⟨_, rfl, _⟩ := hN1; exact nc_size ..
 have cs2 : c2.size = 41 := by obtain ⟨_, rfl, _⟩ := hN2; exact nc_size ..
 obtain ⟨B, hB⟩ : ∃ B, w.heap.size = B := ⟨_, rfl⟩
 obtain ⟨W1, hW1⟩ : ∃ W1, (w.alloc (.cells c1 30)).alloc (.cells c2 30) = W1 := ⟨_, rfl⟩
 have g1 : Below w.heap.size w W1 := by rw [← hW1]; exact ((Below.refl _ w).alloc (Nat.le_refl _) _).alloc (by simp) _
 have r1 : Var W1 B c1 := by rw [← hW1, ← hB]; exact (heap_alloc_old _ _ (by simp)).trans (heap_alloc_new _ _)
 have r2 : Var W1 (B + 1) c2 := by
  rw [← hW1, ← hB]
  have := heap_alloc_new (w.alloc (.cells c1 30)) (.cells c2 30)
  rwa [World.size_alloc] at this
 have HN0 := hid (And.intro (hN1.below g1) (And.intro (hN2.below g1) (And.intro r1 (And.intro r2 g1))))
 have HO := hid (And.intro (And.intro hnm1 (And.intro hok1 hlen1)) (And.intro hnm2 (And.intro hok2 hlen2)))
 clear hN1 hN2 g1 r1 r2 hnm1 hok1 hlen1 hnm2 hok2 hlen2
 go_enter Tryz.func4, Tryz.ntmps4
 go_upto_region 1 with fail
 clear hW1
 go_upto_region 3 with (go_at_call 18; refine (HK W1).mono ?_; rintro e W1' ⟨rfl, g1'⟩; have HN := hid (⟨HN0.out.1.below g1', HN0.out.2.1.below g1', HN0.out.2.2.1.grow g1', HN0.out.2.2.2.1.grow g1', Below.up HN0.out.2.2.2.2 g1'⟩ : HasN W1' c1 nm1 v1 m1 ks1 ∧ HasN W1' c2 nm2 v2 m2 ks2 ∧ Var W1' B c1 ∧ Var W1' (B + 1) c2 ∧ Below w.heap.size w W1'); clear g1' HN0)
 have C1 := hid (fits_any c1 nm1 v1 m1 ks1 W1' HN.out.1 HO.out.1.1 HO.out.1.2.1 HO.out.1.2.2)
 go_wp2_with ((with_reducible refine wpList_exec (.agg c1) ?_ ?_ ?_); exact exec_load30 _ rfl B 0 rfl c1 cs1 HN.out.2.2.1.lies; kernel_rfl)
 refine C1.out.mono ?_
 rintro e W2 ⟨b1, rfl, h1, g2⟩
 have H2 := hid (And.intro h1 g2)
 clear h1 g2 C1
 cases b1
 ·go_wp2
  go_ret
  exact ⟨rfl, Below.up HN.out.2.2.2.2 H2.out.2⟩
 have C2 := hid (fits_any c2 nm2 v2 m2 ks2 W2 (HN.out.2.1.below H2.out.2) HO.out.2.1 HO.out.2.2.1 HO.out.2.2.2)
 go_wp2_with ((with_reducible refine wpList_exec (.agg c2) ?_ ?_ ?_); exact exec_load30 _ rfl (B + 1) 0 rfl c2 cs2 (HN.out.2.2.2.1.grow H2.out.2).lies; kernel_rfl)
 refine C2.out.mono ?_
 rintro e W3 ⟨b2, rfl, h2, g3⟩
 have H3 := hid (And.intro h2 g3)
 clear h2 g3 C2
 cases b2
 ·go_wp2
  go_ret
  exact ⟨rfl, Below.up (Below.up HN.out.2.2.2.2 H2.out.2) H3.out.2⟩
 obtain ⟨hw1, he1⟩ := H2.out.1 (by first | rfl | trivial)
 obtain ⟨hw2, he2⟩ := H3.out.1 (by first | rfl | trivial)
 have b13 := Below.up H2.out.2 H3.out.2
 replace HN := hid (⟨HN.out.1.below b13, HN.out.2.1.below b13, HN.out.2.2.1.grow b13, HN.out.2.2.2.1.grow b13, Below.up HN.out.2.2.2.2 b13⟩ : HasN W3 c1 nm1 v1 m1 ks1 ∧ HasN W3 c2 nm2 v2 m2 ks2 ∧ Var W3 B c1 ∧ Var W3 (B + 1) c2 ∧ Below w.heap.size w W3)
 clear H2 H3 b13 HO
 have C3 := hid (grown5_any c1 nm1 v1 m1 ks1 W3 HN.out.1 hw1 he1)
 go_wp2_with ((with_reducible refine wpList_exec (.agg c1) ?_ ?_ ?_); exact exec_load30 _ rfl B 0 rfl c1 cs1 HN.out.2.2.1.lies; kernel_rfl)
 refine C3.out.mono ?_
 rintro e W4 ⟨p1, k1, rfl, T1, f1, pl1, tr1, g4⟩
 replace HN := hid (⟨HN.out.1.below g4, HN.out.2.1.below g4, HN.out.2.2.1.grow g4, HN.out.2.2.2.1.grow g4, Below.up HN.out.2.2.2.2 g4⟩ : HasN W4 c1 nm1 v1 m1 ks1 ∧ HasN W4 c2 nm2 v2 m2 ks2 ∧ Var W4 B c1 ∧ Var W4 (B + 1) c2 ∧ Below w.heap.size w W4)
 have HT1 := hid (And.intro T1 (And.intro pl1 tr1))
 clear T1 pl1 tr1 g4 C3
 have C4 := hid (grown5_any c2 nm2 v2 m2 ks2 W4 HN.out.2.1 hw2 he2)
 go_wp2_with ((with_reducible refine wpList_exec (.agg c2) ?_ ?_ ?_); exact exec_load30 _ rfl (B + 1) 0 rfl c2 cs2 HN.out.2.2.2.1.lies; kernel_rfl)
 refine C4.out.mono ?_
 rintro e W5 ⟨p2, k2, rfl, T2, f2, pl2, tr2, g5⟩
 obtain ⟨t, et⟩ : ∃ t : T3, t = (v1, m1, ks1) := ⟨_, rfl⟩
 obtain ⟨u, eu⟩ : ∃ u : T3, u = (v2, m2, ks2) := ⟨_, rfl⟩
 have HT : Hid (T1 W5 p1 t ∧ T1 W5 p2 u ∧ G w W5) := by
  subst et; subst eu
  exact ⟨AtTF.of (HT1.out.1.grow g5) (K.plain_grow g5 HT1.out.2.1) (HT1.out.2.2.grow g5) f1, AtTF.of T2 pl2 tr2 f2, Below.up HN.out.2.2.2.2 g5⟩
 have HG : Hid (Good t ∧ Good u ∧ t.2.2.weight ≤ 6000 ∧ u.2.2.weight ≤ 6000) := by subst et; subst eu; exact ⟨⟨he1⟩, ⟨he2⟩, hw1, hw2⟩
 clear HN HT1 T2 pl2 tr2 g5 f1 f2 C4 et eu he1 he2 hw1 hw2 cs1 cs2
 have C5 := of_given p1 p2 t u W5 HT.out.1 HT.out.2.1 HG.out.1 HG.out.2.1 HG.out.2.2.1 HG.out.2.2.2
 go_upto_region 10 with (first
  | (go_at_call 20; refine C5.mono ?_; rintro e W6 ⟨B6, rfl, k6, g6⟩; have C6 := k6 W6 (G.refl _); have H6 := hid g6; clear k6 g6 C5)
  | (go_at_call 19; refine C6.mono ?_; rintro e W7 ⟨ao, cp, rfl, h7, g7⟩; have H7 : Hid (HasA W7 (.slice ao (difT t u).length cp) (difT t u) ∧ T1 W7 p1 t ∧ T1 W7 p2 u ∧ G w W7) := (by have g := H6.out.trans g7; exact ⟨h7, HT.out.1.grow g, HT.out.2.1.grow g, HT.out.2.2.trans g⟩); clear h7 g7 C6 H6))
 have C8 := of_given p2 p1 u t W7 H7.out.2.2.1 H7.out.2.1 HG.out.2.1 HG.out.1 HG.out.2.2.2 HG.out.2.2.1
 go_upto_region 11 with (first
  | (go_at_call 20; refine C8.mono ?_; rintro e W8 ⟨B8, rfl, k8, g8⟩; have C9 := k8 W8 (G.refl _); have H8 := hid g8; clear k8 g8 C8)
  | (go_at_call 19; refine C9.mono ?_; rintro e W9 ⟨bo, cq, rfl, h9, g9⟩; have H9 : Hid (HasA W9 (.slice ao (difT t u).length cp) (difT t u) ∧ HasA W9 (.slice bo (difT u t).length cq) (difT u t) ∧ T1 W9 p1 t ∧ T1 W9 p2 u ∧ G w W9) := (by have g := H8.out.trans g9; exact ⟨H7.out.1.below g, h9, H7.out.2.1.grow g, H7.out.2.2.1.grow g, H7.out.2.2.2.trans g⟩); clear h9 g9 C9 H8))
 obtain ⟨f1, _, f3, f4, f5, f6⟩ := difT_facts H9.out.2.2.1 H9.out.2.2.2.1 HG.out.1 HG.out.2.1 HG.out.2.2.1 HG.out.2.2.2
 have CT : Hid (∀ W, G W9 W → Calls Tryz.prog 22 #[.slice ao (difT t u).length cp] W fun e w' => ∃ bo cq, e = .returned (.slice bo (difT u t).length cq) ∧ HasA w' (.slice bo (difT u t).length cq) (difT u t) ∧ G W w') := fun W hW => by
  have := turn_ok ao cp (difT t u) W (H9.out.1.below hW) f1
  rwa [f3] at this
 have C21 := sameT_any p1 p2 t u false W9 H9.out.2.2.1 H9.out.2.2.2.1 HG.out.1.rises HG.out.2.1.rises (by omega) (by omega)
 have HF := hid (And.intro f5 f6)
 obtain ⟨n, hn⟩ : ∃ n, (difT t u).length = n := ⟨_, rfl⟩
 obtain ⟨b, hb⟩ : ∃ b, sameT false t u = b := ⟨_, rfl⟩
 have hnb : (n = 0) = (b = true) := by rw [← hn, ← hb, ← f4, List.length_eq_zero_iff]
 have hlu : (difT u t).length = n := by rw [← f3, List.length_map, hn]
 have HNU := hid (And.intro hn hlu)
 have HNB : Hid (n ≤ 10000) := by rw [← hn]; exact f1
 rw [hb] at C21
 rw [hn] at CT H9
 rw [hlu] at CT H9
 rw [hn, hlu]
 clear f3 f4 f5 f6 f1 hn hlu hb
 have key : (decide ((n : Int) = 0) != b) = false := by cases b <;> simp_all
 have i0 : decide ((n : Int) = 0) = b := by cases b <;> simp_all
 clear hnb
 go_upto_region 13 with (first
  | (go_at_call 21; refine C21.mono ?_; rintro e W10 ⟨rfl, g10⟩; have C22 := CT.out W10 g10; have H10 := hid g10; clear g10 C21)
  | (go_at_call 22; refine C22.mono ?_; rintro e W11 ⟨ro, rc, rfl, h11, g11⟩; have H11 := hid (And.intro h11 (H10.out.trans g11)); have C13 := Ch.same_any ro bo rc cq (difT u t) W11 (by rw [HNU.out.2]; exact h11) (by rw [HNU.out.2]; exact H9.out.2.1.below (H10.out.trans g11)) (by rw [HNU.out.2]; have := HNB.out; omega); rw [HNU.out.2] at C13; clear h11 g11 C22)
  | (go_at_call 13; refine C13.mono ?_; rintro e W12 ⟨rfl, d12⟩; have H12 := hid (H11.out.2.trans d12.below); clear d12 C13))
 have HS : Hid (T1 W12 p1 t ∧ T1 W12 p2 u ∧ HasA W12 (.slice ao n cp) (difT t u) ∧ HasA W12 (.slice bo n cq) (difT u t) ∧ G w W12) := ⟨H9.out.2.2.1.grow H12.out, H9.out.2.2.2.1.grow H12.out, H9.out.1.below H12.out, H9.out.2.1.below H12.out, H9.out.2.2.2.2.trans H12.out⟩
 have A1 := apply_ok (ao := ao) (cp := cp) HS.out.1 HS.out.2.1 HG.out.1 HG.out.2.1 HG.out.2.2.1 HG.out.2.2.2 (by rw [HNU.out.1]; exact HS.out.2.2.1)
 rw [HNU.out.1] at A1
 clear H9 H10 H11 H12 CT key i0
 go_upto_region 14 with (go_at_call 11; refine A1.mono ?_; rintro e W13 ⟨z, pz, rfl, q1, q2, q3, q4, q5⟩; have H13 := hid (⟨q1, q2, q3, q4, q5⟩ : T1 W13 pz z ∧ z.2.2.rises ∧ z.2.2.size ≤ 50000 ∧ sameT false z u = true ∧ G W12 W13); clear q1 q2 q3 q4 q5 A1)
 have A2 := apply_ok (ao := bo) (cp := cq) (HS.out.2.1.grow H13.out.2.2.2.2) (HS.out.1.grow H13.out.2.2.2.2) HG.out.2.1 HG.out.1 HG.out.2.2.2 HG.out.2.2.1 (by rw [HNU.out.2]; exact HS.out.2.2.2.1.below H13.out.2.2.2.2)
 rw [HNU.out.2] at A2
 go_upto_region 15 with (go_at_call 11; refine A2.mono ?_; rintro e W14 ⟨y, py, rfl, q1, q2, q3, q4, q5⟩; have H14 := hid (⟨q1, q2, q3, q4, q5⟩ : T1 W14 py y ∧ y.2.2.rises ∧ y.2.2.size ≤ 50000 ∧ sameT false y t = true ∧ G W13 W14); clear q1 q2 q3 q4 q5 A2)
 have D1 := sameT_any pz p2 z u false W14 (H13.out.1.grow H14.out.2.2.2.2) (HS.out.2.1.grow (H13.out.2.2.2.2.trans H14.out.2.2.2.2)) H13.out.2.1 HG.out.2.1.rises (by have := H13.out.2.2.1; omega) (by have := HF.out.2; omega)
 rw [H13.out.2.2.2.1] at D1
 go_wp2_with (first
  | (go_at_call 12; refine (num_any 0 _).mono ?_; rintro e Wn ⟨rfl, en⟩; subst en)
  | (go_at_call 21; refine D1.mono ?_; rintro e W15 ⟨rfl, g15⟩; have H15 := hid g15; have D2 := sameT_any py p1 y t false W15 (H14.out.1.grow g15) (HS.out.1.grow ((H13.out.2.2.2.2.trans H14.out.2.2.2.2).trans g15)) H14.out.2.1 HG.out.1.rises (by have := H14.out.2.2.1; omega) (by have := HF.out.1; omega); rw [H14.out.2.2.2.1] at D2; clear g15 D1)
  | (go_at_call 21; refine D2.mono ?_; rintro e W16 ⟨rfl, g16⟩; have H16 := hid g16; clear g16 D2))
 go_ret
 exact ⟨rfl, (((HS.out.2.2.2.2.trans H13.out.2.2.2.2).trans H14.out.2.2.2.2).trans H15.out).trans H16.out⟩
end Go.Proofs.YthfcanpkhjgomaaGreat
namespace Go.Proofs.YthfcanpkhjgomaaGreat
open Go.RowKit
def bD : ByteArray := ⟨#[100]⟩
def bF : ByteArray := ⟨#[102]⟩
def bP : ByteArray := ⟨#[100, 47, 102]⟩
def kV (k m s : Int) : Vd := ⟨k, m, s, List.replicate 32 0, List.length_replicate ..⟩
def fT : F := .cons bD (kV 1 5 0) Md.zero (.cons bF (kV 2 6 1) Md.zero .nil .nil) .nil
def fU : F := .cons bD (kV 2 6 2) Md.zero .nil .nil
def tT : T3 := (kV 1 7 0, Md.zero, fT)
def tU : T3 := (kV 1 7 0, Md.zero, fU)
def dA : Ch.Cd := ⟨bD, cvV (kV 1 5 0), cvV (kV 2 6 2)⟩
def dB : Ch.Cd := ⟨bP, cvV (kV 2 6 1), Ch.vz⟩
theorem dif_TU : difT tT tU = [dA, dB] := by kernel_rfl
theorem good_T : Good tT := ⟨by kernel_rfl⟩
theorem good_U : Good tU := ⟨by kernel_rfl⟩
theorem ap_A : apE tT [dA] = 132 := by kernel_rfl
theorem ap_BA : apE tT [dB, dA] = 130 := by kernel_rfl
theorem we_T : fT.weight ≤ 6000 := by decide +kernel
theorem we_U : fU.weight ≤ 6000 := by decide +kernel
def cF : Array Value := nc bF (kV 2 6 1) Md.zero (.slice none 0 0)
def cD (R : Nat) : Array Value := nc bD (kV 1 5 0) Md.zero (.slice (some ⟨R, 0, none⟩) 1 1)
def cE : Array Value := nc bD (kV 2 6 2) Md.zero (.slice none 0 0)
def cN (R : Nat) : Array Value := nc ⟨#[]⟩ (kV 1 7 0) Md.zero (.slice (some ⟨R, 0, none⟩) 1 1)
theorem bu_F : Tryz.prog.built 30 [(0, .string bF), (1, .agg (vx (kV 2 6 1)).toArray)] = some cF := by kernel_rfl
theorem bu_E : Tryz.prog.built 30 [(0, .string bD), (1, .agg (vx (kV 2 6 2)).toArray)] = some cE := by kernel_rfl
theorem bu_D (R : Nat) : Tryz.prog.built 30 [(0, .string bD), (1, .agg (vx (kV 1 5 0)).toArray), (3, .slice (some ⟨R, 0, none⟩) 1 1)] = some (cD R) := by kernel_rfl
theorem bu_N (R : Nat) : Tryz.prog.built 30 [(1, .agg (vx (kV 1 7 0)).toArray), (3, .slice (some ⟨R, 0, none⟩) 1 1)] = some (cN R) := by kernel_rfl
theorem bu_A : Tryz.prog.built 66 [(0, .string bD), (1, .agg (vx (kV 1 5 0)).toArray), (2, .agg (vx (kV 2 6 2)).toArray)] = some (Ch.cc dA) := by kernel_rfl
theorem bu_B : Tryz.prog.built 66 [(0, .string bP), (1, .agg (vx (kV 2 6 1)).toArray)] = some (Ch.cc dB) := by kernel_rfl
theorem bu_1 : Tryz.prog.built 24 [(0, .int .i64 2), (1, .int .i64 6), (2, .int .i64 1)] = some (vx (kV 2 6 1)).toArray := by kernel_rfl
theorem bu_2 : Tryz.prog.built 24 [(0, .int .i64 2), (1, .int .i64 6), (2, .int .i64 2)] = some (vx (kV 2 6 2)).toArray := by kernel_rfl
theorem bu_3 : Tryz.prog.built 24 [(0, .int .i64 1), (1, .int .i64 5)] = some (vx (kV 1 5 0)).toArray := by kernel_rfl
theorem bu_4 : Tryz.prog.built 24 [(0, .int .i64 1), (1, .int .i64 7)] = some (vx (kV 1 7 0)).toArray := by kernel_rfl
theorem has_T (w : World) (R : Nat) (h1 : Lies w R 0 cF) (h2 : Lies w (R + 1) 0 (cD R)) : HasN w (cN (R + 1)) ⟨#[]⟩ (kV 1 7 0) Md.zero fT :=
 ⟨_, rfl, _, 1, rfl, Nat.le_refl _, .inr ⟨R + 1, 0, rfl, ⟨_, 1, h2, Nat.le_refl _, .inr ⟨R, 0, rfl, ⟨none, 0, h1, Nat.le_refl _, .inl rfl⟩, trivial⟩⟩, trivial⟩⟩
theorem has_U (w : World) (R : Nat) (h : Lies w R 0 cE) : HasN w (cN R) ⟨#[]⟩ (kV 1 7 0) Md.zero fU :=
 ⟨_, rfl, _, 1, rfl, Nat.le_refl _, .inr ⟨R, 0, rfl, ⟨none, 0, h, Nat.le_refl _, .inl rfl⟩, trivial⟩⟩
theorem exec_bld {o : Oper} {a : Act} (ty : TypeId) (parts : Array (Nat × Operand)) (ho : o.op = .build ty parts) (ps : List (Nat × Value)) (hp : parts.toList.map (fun (p : Nat × Operand) => (p.1, a.eval p.2)) = ps) (c : Array Value) (hb : Tryz.prog.built ty ps = some c) (w : World) :
  (execOp a.eval o).run Tryz.prog w = .ok (.value (.agg c)) w := by
 unfold execOp
 simp only [ho]
 have : (parts.map fun (x : Nat × Operand) => match x with | (i, x) => (i, a.eval x)) = ps.toArray := by subst hp; apply Array.ext'; simp
 rw [this]
 simp only [Sem.run_bind, run_build (P := Tryz.prog) w ty ps.toArray c hb, Result.andThen_ok, Sem.run_pure]
theorem exec_twoC {o : Oper} {a : Act} (x y : Operand) (ho : o.op = .buildSlice 31 2 #[(0, x), (1, y)]) (c d : Array Value) (hx : a.eval x = .agg c) (hy : a.eval y = .agg d) (hs : c.size = 71) (hd : d.size = 71) (w : World) (b : Nat) (hb : w.heap.size = b) :
  (execOp a.eval o).run Tryz.prog w = .ok (.value (.slice (some ⟨b, 0, none⟩) 2 2)) (w.alloc (.cells (c ++ d) 66)) := by
 subst hb
 obtain ⟨i0, hi, hz0, hz1, hz2⟩ := info_parts Ch.info55
 have hf : Instr.fill (fun i => some (i * 71, 71)) ((Array.range (2 * 71)).map (Ch.z55[· % Ch.z55.size]!)) [(0, .agg c), (1, .agg d)] = some (c ++ d) := by
  obtain ⟨z, hz, hzl⟩ : ∃ z : List Value, ((Array.range (2 * 71)).map (Ch.z55[· % Ch.z55.size]!)) = z.toArray ∧ z.length = 142 := ⟨((Array.range (2 * 71)).map (Ch.z55[· % Ch.z55.size]!)).toList, Array.toArray_toList.symm, by simp⟩
  have h1 : (Ch.over z 0 c.toList).length = 142 := by simp [Ch.over, hs]; omega
  rw [hz, Ch.fill_cons _ z 0 0 71 _ c.toList _ rfl (by simp [Value.cells]) (by simpa using hs) (by omega), Ch.fill_cons _ _ 1 71 71 _ d.toList _ rfl (by simp [Value.cells]) (by simpa using hd) (by omega), Instr.fill]
  have e : Ch.over (Ch.over z 0 c.toList) 71 d.toList = c.toList ++ d.toList := by
   have h71 : c.toList.length = 71 := by simpa using hs
   have h72 : d.toList.length = 71 := by simpa using hd
   unfold Ch.over
   rw [List.take_zero, List.nil_append, Nat.zero_add, h71, h72]
   rw [List.take_append_of_le_length (by omega), List.take_of_length_le (by omega), List.drop_append, List.drop_of_length_le (l := c.toList) (by omega), h71, List.drop_drop, List.drop_of_length_le (l := z) (by omega)]
   simp
  rw [e]
  congr 1
  cases c
  cases d
  simp
 have hsz : (sizeOf 66).run Tryz.prog w = .ok 71 w := by simp [sizeOf, typeInfo, hi, hz1]
 have hzv := Ch.run_zeroT 66 Ch.z55 Ch.zero55 w
 generalize Ch.z55 = zz at hf hzv
 have hb : (Instr.buildSlice 31 2 #[(0, .agg c), (1, .agg d)]).run Tryz.prog w = .ok (.slice (some ⟨w.heap.size, 0, none⟩) 2 2) (w.alloc (.cells (c ++ d) 66)) := by
  unfold Instr.buildSlice
  simp only [Sem.run_bind, run_underlying Tryz.underlying31, Result.andThen_ok, hsz]
  have h1 : ¬ (2 * 71 > 2 ^ 24) := by omega
  have h2 : ¬ (2 * 71 = 0) := by omega
  simp only [h1, h2, if_false, Sem.run_bind, Sem.run_pure, Result.andThen_ok, hzv, Value.cells, hf]
  rfl
 unfold execOp
 simp only [ho]
 have hmap : (#[(0, x), (1, y)].map fun (p : Nat × Operand) => match p with | (i, x) => (i, a.eval x)) = #[(0, .agg c), (1, .agg d)] := by simp [hx, hy]
 rw [hmap]
 simp only [Sem.run_bind, hb, Result.andThen_ok, Sem.run_pure]
theorem has_two (w : World) (c d : Ch.Cd) (b : Nat) (hb : w.heap.size = b) : Ch.HasA (w.alloc (.cells (Ch.cc c ++ Ch.cc d) 66)) (.slice (some ⟨b, 0, none⟩) 2 2) [c, d] := by
 subst hb
 have hl := lies_new w (Ch.cc c ++ Ch.cc d) 66
 have hc := Ch.cc_size c
 refine .inr ⟨_, 0, 2, rfl, Nat.le_refl _, fun i x hi => ?_⟩
 match i with
 | 0 =>
  cases hi
  exact fun j u hj => hl j u (by rw [Array.getElem?_append_left (Array.getElem?_eq_some_iff.1 hj).1]; exact hj)
 | 1 =>
  cases hi
  intro j u hj
  have := hl (71 + j) u (by rw [Array.getElem?_append_right (by omega), hc]; simpa using hj)
  rwa [Nat.zero_add] at this
theorem var_new (w : World) (c : Array Value) : G w ((w.alloc (.cells (vx Vd.zero).toArray 24)).setRow w.heap.size c) ∧ Var24 ((w.alloc (.cells (vx Vd.zero).toArray 24)).setRow w.heap.size c) w.heap.size c :=
 ⟨(Ch.new_varT w 24 _ c).1, (Ch.new_varT w 24 _ c).2.1⟩
theorem ap_no {p : Nat} {t : T3} {ao : Option Addr} {cp : Nat} {L : List Ch.Cd} {w : World} {E : Int} (ht : T1 w p t) (gt : Good t) (h : Ch.HasA w (.slice ao L.length cp) L) (hn : L.length ≤ 50000) (hb : t.2.2.size ≤ 50000) (hp : ∀ c ∈ L, c.path.size ≤ 1048576) (hE : apE t L = E) (h0 : E ≠ 0) :
  Calls Tryz.prog 11 #[.pointer (some ⟨p, 0, none⟩), .slice ao L.length cp] w fun e w' => e = .returned (.tuple #[.pointer none, .int .i64 E]) ∧ G w w' := by
 refine (apply_any p t ao cp L w ht gt.rises h hn hb hp).mono ?_
 rintro e w' ⟨u, rfl, hg, hu, _⟩
 rw [hE] at hu ⊢
 rw [hu h0]
 exact ⟨rfl, hg⟩
theorem exec_cut {o : Oper} {a : Act} {x : Operand} (ho : o.op = .slice 31 x none (some (.const (.int .i64 1))) none) (g oo cp : Nat) (hx : a.eval x = .slice (some ⟨g, oo, none⟩) 2 cp) (hc : 2 ≤ cp) (w : World) :
  (execOp a.eval o).run Tryz.prog w = .ok (.value (.slice (some ⟨g, oo, none⟩) 1 cp)) w := by
 have hr : (Instr.sliceAt 31 (.slice (some ⟨g, oo, none⟩) 2 cp) none (some (.int .i64 1)) none).run Tryz.prog w = .ok (.slice (some ⟨g, oo, none⟩) 1 cp) w := by
  have h1 : ¬ cp = 0 := by omega
  have h2 : ¬ (cp : Int) < 1 := by omega
  simp [go_sem, Tryz.underlying31, h1, h2]
 unfold execOp
 simp only [ho, Option.map_some, Option.map_none, hx, show a.eval (.const (.int .i64 1)) = .int .i64 1 from rfl, Sem.run_bind, hr, Sem.run_pure, Result.andThen_ok]
theorem HasA.two {w : World} {ao : Option Addr} {cp : Nat} {c d : Ch.Cd} (h : Ch.HasA w (.slice ao 2 cp) [c, d]) : ∃ g o, ao = some ⟨g, o, none⟩ ∧ 2 ≤ cp ∧ Ch.Lies w g o (Ch.cc c) ∧ Ch.Lies w g (o + 71) (Ch.cc d) := by
 rcases h with ⟨_, e⟩ | ⟨g, o, cap, e, hc, h⟩
 ·cases e
 ·injection e with e1 e2 e3
  subst e1; subst e3
  exact ⟨g, o, rfl, hc, by simpa using h 0 c rfl, by simpa using h 1 d rfl⟩
theorem HasA.mk1 {w : World} {g o cp : Nat} {c : Ch.Cd} (hc : 1 ≤ cp) (h : Ch.Lies w g o (Ch.cc c)) : Ch.HasA w (.slice (some ⟨g, o, none⟩) 1 cp) [c] :=
 .inr ⟨g, o, cp, rfl, hc, fun i x hi => by
  match i with
  | 0 => cases hi; simpa using h⟩
theorem ap_1 {p1 g o cp : Nat} {w : World} (hcp : 2 ≤ cp) (ht : T1 w p1 tT) (lA : Ch.Lies w g o (Ch.cc dA)) : Calls Tryz.prog 11 #[.pointer (some ⟨p1, 0, none⟩), .slice (some ⟨g, o, none⟩) 1 cp] w fun e w' => e = .returned (.tuple #[.pointer none, .int .i64 132]) ∧ G w w' :=
 ap_no (t := tT) (L := [dA]) (E := 132) ht good_T (HasA.mk1 (by omega) lA) (by decide) (by decide +kernel) (by decide +kernel) ap_A (by decide)
theorem ap_2 {p1 b : Nat} {w : World} (ht : T1 w p1 tT) (h : Ch.HasA w (.slice (some ⟨b, 0, none⟩) 2 2) [dB, dA]) : Calls Tryz.prog 11 #[.pointer (some ⟨p1, 0, none⟩), .slice (some ⟨b, 0, none⟩) 2 2] w fun e w' => e = .returned (.tuple #[.pointer none, .int .i64 130]) ∧ G w w' :=
 ap_no (t := tT) (L := [dB, dA]) (E := 130) ht good_T h (by decide) (by decide +kernel) (by decide +kernel) ap_BA (by decide)
open Ch
def MK (b : Nat) (wr : World) (_r : Unit) (done : Nat → Bool) (w : World) : Prop := G wr w ∧ (done 7 = false → w.heap.size = b) ∧ (done 7 = true → HasA w (.slice (some ⟨b, 0, none⟩) 2 2) [dB, dA])
theorem MK.step {b : Nat} {wr : World} {r : Unit} {done : Nat → Bool} {w : World} (h : MK b wr r done w) {j : Nat} (h1 : j ≠ 7) : MK b wr r (upd done j) w := by
 unfold MK at *
 rw [upd_ne done (Ne.symm h1)]
 exact h
theorem MK.grow {b : Nat} {wr : World} {r : Unit} {done : Nat → Bool} {w w2 : World} (h : MK b wr r done w) (hd : done 7 = true) (hb : G w w2) : MK b wr r done w2 :=
 ⟨h.1.trans hb, (fun q => by rw [hd] at q; cases q), fun q => (h.2.2 q).below hb⟩
theorem MK.made {b : Nat} {wr : World} {r : Unit} {done : Nat → Bool} {w : World} (h : MK b wr r done w) (hd : done 7 = false) : MK b wr r (upd done 7) (w.alloc (.cells (cc dB ++ cc dA) 66)) :=
 ⟨h.1.trans (G.alloc _ _), (fun q => by rw [upd_same] at q; cases q), fun _ => has_two w dB dA b (h.2.1 hd)⟩
theorem backK : backB (opsAt Tryz.f18 13) = true := by kernel_rfl
theorem dstK : dstB (opsAt Tryz.f18 13) 115 = true := by kernel_rfl
theorem sizeK : (opsAt Tryz.f18 13).size = 14 := by kernel_rfl
theorem freeK5 : freeB (opsAt Tryz.f18 13) 5 = true := by kernel_rfl
theorem freeK9 : freeB (opsAt Tryz.f18 13) 9 = true := by kernel_rfl
theorem sK_0 : say (opsAt Tryz.f18 13) 0 = some (some 76, .move (.tmp 5), none) := by kernel_rfl
theorem dK_0 : slotB (opsAt Tryz.f18 13) 0 = some 76 := by kernel_rfl
theorem sK_1 : say (opsAt Tryz.f18 13) 1 = some (some 77, .move (.tmp 9), none) := by kernel_rfl
theorem dK_1 : slotB (opsAt Tryz.f18 13) 1 = some 77 := by kernel_rfl
theorem sK_2 : say (opsAt Tryz.f18 13) 2 = some (some 78, .indexAddr 31 (.tmp 77) (.const (.int .i64 1)), none) := by kernel_rfl
theorem dK_2 : slotB (opsAt Tryz.f18 13) 2 = some 78 := by kernel_rfl
theorem sK_3 : say (opsAt Tryz.f18 13) 3 = some (some 79, .load 66 (.tmp 78), none) := by kernel_rfl
theorem dK_3 : slotB (opsAt Tryz.f18 13) 3 = some 79 := by kernel_rfl
theorem sK_4 : say (opsAt Tryz.f18 13) 4 = some (some 80, .move (.tmp 9), none) := by kernel_rfl
theorem dK_4 : slotB (opsAt Tryz.f18 13) 4 = some 80 := by kernel_rfl
theorem sK_5 : say (opsAt Tryz.f18 13) 5 = some (some 81, .indexAddr 31 (.tmp 80) (.const (.int .i64 0)), none) := by kernel_rfl
theorem dK_5 : slotB (opsAt Tryz.f18 13) 5 = some 81 := by kernel_rfl
theorem sK_6 : say (opsAt Tryz.f18 13) 6 = some (some 82, .load 66 (.tmp 81), none) := by kernel_rfl
theorem dK_6 : slotB (opsAt Tryz.f18 13) 6 = some 82 := by kernel_rfl
theorem sK_7 : say (opsAt Tryz.f18 13) 7 = some (some 83, .buildSlice 31 2 #[(0, .tmp 79), (1, .tmp 82)], none) := by kernel_rfl
theorem dK_7 : slotB (opsAt Tryz.f18 13) 7 = some 83 := by kernel_rfl
theorem sK_8 : say (opsAt Tryz.f18 13) 8 = some (some 84, .call { callee := .value (.func 11), args := #[.tmp 76, .tmp 83], argTypes := #[34, 31] }, none) := by kernel_rfl
theorem dK_8 : slotB (opsAt Tryz.f18 13) 8 = some 84 := by kernel_rfl
theorem sK_9 : say (opsAt Tryz.f18 13) 9 = some (some 75, .move (.tmp 84), none) := by kernel_rfl
theorem dK_9 : slotB (opsAt Tryz.f18 13) 9 = some 75 := by kernel_rfl
theorem sK_10 : say (opsAt Tryz.f18 13) 10 = some (some 85, .extract (.tmp 75) 0, none) := by kernel_rfl
theorem dK_10 : slotB (opsAt Tryz.f18 13) 10 = some 85 := by kernel_rfl
theorem sK_11 : say (opsAt Tryz.f18 13) 11 = some (some 86, .extract (.tmp 75) 1, none) := by kernel_rfl
theorem dK_11 : slotB (opsAt Tryz.f18 13) 11 = some 86 := by kernel_rfl
theorem sK_12 : say (opsAt Tryz.f18 13) 12 = some (some 13, .assign (.tmp 85), none) := by kernel_rfl
theorem sK_13 : say (opsAt Tryz.f18 13) 13 = some (some 14, .assign (.tmp 86), none) := by kernel_rfl
def VK (p1 g o cp b : Nat) (_r : Unit) : Nat → Value
 | 0 => .pointer (some ⟨p1, 0, none⟩)
 | 1 => .slice (some ⟨g, o, none⟩) 2 cp
 | 2 => .pointer (some ⟨g, o + 71, none⟩)
 | 3 => .agg (cc dB)
 | 4 => .slice (some ⟨g, o, none⟩) 2 cp
 | 5 => .pointer (some ⟨g, o, none⟩)
 | 6 => .agg (cc dA)
 | 7 => .slice (some ⟨b, 0, none⟩) 2 2
 | 8 => .tuple #[.pointer none, .int .i64 130]
 | 9 => .tuple #[.pointer none, .int .i64 130]
 | 10 => .pointer none
 | 11 => .int .i64 130
 | 12 => .pointer none
 | 13 => .int .i64 130
 | _ => undef
theorem regK (p1 g o cp b : Nat)  (t0 : Array Value) (wr : World) {Q : Exit → Act → World → Prop} (ht : t0.size = 115) (h5 : t0.getD 5 undef = .pointer (some ⟨p1, 0, none⟩)) (h9 : t0.getD 9 undef = .slice (some ⟨g, o, none⟩) 2 cp)
  (hb : wr.heap.size = b) (lA : Ch.Lies wr g o (cc dA)) (lB : Ch.Lies wr g (o + 71) (cc dB))
  (hC : ∀ w, G wr w → HasA w (.slice (some ⟨b, 0, none⟩) 2 2) [dB, dA] → Calls Tryz.prog 11 #[.pointer (some ⟨p1, 0, none⟩), .slice (some ⟨b, 0, none⟩) 2 2] w fun e w' => e = .returned (.tuple #[.pointer none, .int .i64 130]) ∧ G w w')
  (hQ : ∀ r w, G wr w → Q .normal ⟨fold (opsAt Tryz.f18 13) (VK p1 g o cp b r) t0 14, []⟩ w) : (Code.region 13 (opsAt Tryz.f18 13) true).wp Tryz.prog Q ⟨t0, []⟩ wr := by
 have hB : dstB (opsAt Tryz.f18 13) t0.size = true := by rw [ht]; exact dstK
 refine inv_region (by kernel_rfl) (IE (opsAt Tryz.f18 13) (VK p1 g o cp b) t0 (MK b wr)) backK ⟨(), t0, rfl, ⟨rfl, fun _ _ => rfl, fun _ _ _ _ _ h => by cases h⟩, Below.drews (Below.refl _ wr) ⟨1, rfl⟩, (fun _ => hb), (fun h => by cases h)⟩ ?_ ?_
 rotate_left 1
 ·rintro done a w ⟨r, t, rfl, hS, hM⟩ hall
  rw [hS.end hB hall, sizeK]
  exact hQ r w hM.1
 ·rintro jz op done a w ho ⟨r, t, rfl, hS, hM⟩ hnd hdep hcl
  have e5 : t[5]?.getD undef = .pointer (some ⟨p1, 0, none⟩) := (hS.old freeK5).trans h5
  have e9 : t[9]?.getD undef = .slice (some ⟨g, o, none⟩) 2 cp := (hS.old freeK9).trans h9
  have hlt : jz < 14 := by rw [← sizeK]; exact (Array.getElem?_eq_some_iff.1 ho).1
  match jz, hlt, ho, hnd, hdep with
  | 0, _, ho, hnd, hdep =>
   obtain ⟨hd, hop, hgd⟩ := say_of sK_0 ho
   refine ie_val r hB ho (wanted_none hgd) hd hS (hM.step (by decide)) ?_
   unfold execOp
   simp only [hop]
   simp [e5, VK, go_sem]
  | 1, _, ho, hnd, hdep =>
   obtain ⟨hd, hop, hgd⟩ := say_of sK_1 ho
   refine ie_val r hB ho (wanted_none hgd) hd hS (hM.step (by decide)) ?_
   unfold execOp
   simp only [hop]
   simp [e9, VK, go_sem]
  | 2, _, ho, hnd, hdep =>
   obtain ⟨hd, hop, hgd⟩ := say_of sK_2 ho
   have x77 : t[77]?.getD undef = _ := hS.at dK_1 (waits (j := 1) (by kernel_rfl) ho hdep)
   simp only [VK] at x77
   refine ie_val r hB ho (wanted_none hgd) hd hS (hM.step (by decide)) ?_
   unfold execOp
   simp only [hop]
   simp [x77, VK, go_sem]
  | 3, _, ho, hnd, hdep =>
   obtain ⟨hd, hop, hgd⟩ := say_of sK_3 ho
   have x78 : t[78]?.getD undef = _ := hS.at dK_2 (waits (j := 2) (by kernel_rfl) ho hdep)
   simp only [VK] at x78
   refine ie_val r hB ho (wanted_none hgd) hd hS (hM.step (by decide)) ?_
   exact exec_load55 (a := ⟨t, []⟩) _ hop g (o + 71) (by show t.getD 78 undef = _; rw [Array.getD_eq_getD_getElem?]; exact x78) dB (lB.below hM.1)
  | 4, _, ho, hnd, hdep =>
   obtain ⟨hd, hop, hgd⟩ := say_of sK_4 ho
   refine ie_val r hB ho (wanted_none hgd) hd hS (hM.step (by decide)) ?_
   unfold execOp
   simp only [hop]
   simp [e9, VK, go_sem]
  | 5, _, ho, hnd, hdep =>
   obtain ⟨hd, hop, hgd⟩ := say_of sK_5 ho
   have x80 : t[80]?.getD undef = _ := hS.at dK_4 (waits (j := 4) (by kernel_rfl) ho hdep)
   simp only [VK] at x80
   refine ie_val r hB ho (wanted_none hgd) hd hS (hM.step (by decide)) ?_
   unfold execOp
   simp only [hop]
   simp [x80, VK, go_sem]
  | 6, _, ho, hnd, hdep =>
   obtain ⟨hd, hop, hgd⟩ := say_of sK_6 ho
   have x81 : t[81]?.getD undef = _ := hS.at dK_5 (waits (j := 5) (by kernel_rfl) ho hdep)
   simp only [VK] at x81
   refine ie_val r hB ho (wanted_none hgd) hd hS (hM.step (by decide)) ?_
   exact exec_load55 (a := ⟨t, []⟩) _ hop g o (by show t.getD 81 undef = _; rw [Array.getD_eq_getD_getElem?]; exact x81) dA (lA.below hM.1)
  | 7, _, ho, hnd, hdep =>
   obtain ⟨hd, hop, hgd⟩ := say_of sK_7 ho
   have x79 : t[79]?.getD undef = _ := hS.at dK_3 (waits (j := 3) (by kernel_rfl) ho hdep)
   simp only [VK] at x79
   have x82 : t[82]?.getD undef = _ := hS.at dK_6 (waits (j := 6) (by kernel_rfl) ho hdep)
   simp only [VK] at x82
   refine ie_val (w' := w.alloc (.cells (cc dB ++ cc dA) 66)) r hB ho (wanted_none hgd) hd hS (hM.made hnd) ?_
   exact exec_twoC (a := ⟨t, []⟩) _ _ hop (cc dB) (cc dA) (by show t.getD 79 undef = _; rw [Array.getD_eq_getD_getElem?]; exact x79) (by show t.getD 82 undef = _; rw [Array.getD_eq_getD_getElem?]; exact x82) (cc_size _) (cc_size _) w b (hM.2.1 hnd)
  | 8, _, ho, hnd, hdep =>
   obtain ⟨hd, hop, hgd⟩ := say_of sK_8 ho
   have x76 : t[76]?.getD undef = _ := hS.at dK_0 (waits (j := 0) (by kernel_rfl) ho hdep)
   simp only [VK] at x76
   have x83 : t[83]?.getD undef = _ := hS.at dK_7 (waits (j := 7) (by kernel_rfl) ho hdep)
   simp only [VK] at x83
   have a7 : done 7 = true := waits (j := 7) (by kernel_rfl) ho hdep
   refine ie_call r 11 #[.pointer (some ⟨p1, 0, none⟩), .slice (some ⟨b, 0, none⟩) 2 2] hB ho (wanted_none hgd) hd hS ?_ ?_
   ·skip
    unfold execOp
    simp only [hop]
    simp [x76, x83, go_sem]
   ·skip
    refine (hC w hM.1 (hM.2.2 a7)).mono ?_
    rintro e w' ⟨rfl, hg'⟩
    exact ⟨r, rfl, fun _ _ => rfl, (hM.grow a7 hg').step (by decide)⟩
  | 9, _, ho, hnd, hdep =>
   obtain ⟨hd, hop, hgd⟩ := say_of sK_9 ho
   have x84 : t[84]?.getD undef = _ := hS.at dK_8 (waits (j := 8) (by kernel_rfl) ho hdep)
   simp only [VK] at x84
   refine ie_val r hB ho (wanted_none hgd) hd hS (hM.step (by decide)) ?_
   unfold execOp
   simp only [hop]
   simp [x84, VK, go_sem]
  | 10, _, ho, hnd, hdep =>
   obtain ⟨hd, hop, hgd⟩ := say_of sK_10 ho
   have x75 : t[75]?.getD undef = _ := hS.at dK_9 (waits (j := 9) (by kernel_rfl) ho hdep)
   simp only [VK] at x75
   refine ie_val r hB ho (wanted_none hgd) hd hS (hM.step (by decide)) ?_
   unfold execOp
   simp only [hop]
   simp [x75, VK, go_sem]
  | 11, _, ho, hnd, hdep =>
   obtain ⟨hd, hop, hgd⟩ := say_of sK_11 ho
   have x75 : t[75]?.getD undef = _ := hS.at dK_9 (waits (j := 9) (by kernel_rfl) ho hdep)
   simp only [VK] at x75
   refine ie_val r hB ho (wanted_none hgd) hd hS (hM.step (by decide)) ?_
   unfold execOp
   simp only [hop]
   simp [x75, VK, go_sem]
  | 12, _, ho, hnd, hdep =>
   obtain ⟨hd, hop, hgd⟩ := say_of sK_12 ho
   have x85 : t[85]?.getD undef = _ := hS.at dK_10 (waits (j := 10) (by kernel_rfl) ho hdep)
   simp only [VK] at x85
   refine ie_val r hB ho (wanted_none hgd) hd hS (hM.step (by decide)) ?_
   unfold execOp
   simp only [hop]
   simp [x85, VK, go_sem]
  | 13, _, ho, hnd, hdep =>
   obtain ⟨hd, hop, hgd⟩ := say_of sK_13 ho
   have x86 : t[86]?.getD undef = _ := hS.at dK_11 (waits (j := 11) (by kernel_rfl) ho hdep)
   simp only [VK] at x86
   refine ie_val r hB ho (wanted_none hgd) hd hS (hM.step (by decide)) ?_
   unfold execOp
   simp only [hop]
   simp [x86, VK, go_sem]
theorem foldK (p1 g o cp b : Nat) (r : Unit) (t0 : Array Value) : fold (opsAt Tryz.f18 13) (VK p1 g o cp b r) t0 14 = ((((((((((((((t0.setIfInBounds 76 (.pointer (some ⟨p1, 0, none⟩))).setIfInBounds 77 (.slice (some ⟨g, o, none⟩) 2 cp)).setIfInBounds 78 (.pointer (some ⟨g, o + 71, none⟩))).setIfInBounds 79 (.agg (cc dB))).setIfInBounds 80 (.slice (some ⟨g, o, none⟩) 2 cp)).setIfInBounds 81 (.pointer (some ⟨g, o, none⟩))).setIfInBounds 82 (.agg (cc dA))).setIfInBounds 83 (.slice (some ⟨b, 0, none⟩) 2 2)).setIfInBounds 84 (.tuple #[.pointer none, .int .i64 130])).setIfInBounds 75 (.tuple #[.pointer none, .int .i64 130])).setIfInBounds 85 (.pointer none)).setIfInBounds 86 (.int .i64 130)).setIfInBounds 13 (.pointer none)).setIfInBounds 14 (.int .i64 130)) := by kernel_rfl
end Go.Proofs.YthfcanpkhjgomaaGreat
