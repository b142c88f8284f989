import Derived.Test.YthfcanpkhjgomaaGreatVw
import Derived.Test.YthfcanpkhjgomaaGreatSameB
set_option maxRecDepth 100000
set_option maxHeartbeats 4000000
namespace Go.Proofs.YthfcanpkhjgomaaGreat.Ch
open Go.RowKit
def turnC (c : Cd) : Cd := ⟨c.path, c.new, c.old⟩
theorem take_turn {L : List Cd} {k : Nat} {x : Cd} (h : L[k]? = some x) : (L.take (k + 1)).map turnC = (L.take k).map turnC ++ [turnC x] := by
 rw [List.take_add_one, h]; simp
theorem turn_any (ao : Option Addr) (cp : Nat) (L : List Cd) (w : World) (h : HasA w (.slice ao L.length cp) L) (hn : L.length ≤ 10000) :
  Calls Tryz.prog 22 #[.slice ao L.length cp] w fun e w' => ∃ v, e = .returned v ∧ OwnsR w' w.heap.size v (L.map turnC) ∧ Below w.heap.size w w' := by
 obtain ⟨n, hn'⟩ : ∃ n, L.length = n := ⟨_, rfl⟩
 obtain ⟨B0, hB0⟩ : ∃ B0, w.heap.size = B0 := ⟨_, rfl⟩
 have HA := hid h
 have HN := hid hn'
 rw [hn'] at hn HA ⊢
 clear h hn'
 have HM := make55 n (by omega) w
 have HO0 := owns_make n (by omega) w
 have g0 : Below w.heap.size w (w.alloc (.cells (madeCells z55 (n * 71)) 66)) := (Below.refl _ w).alloc (Nat.le_refl _) _
 obtain ⟨wm, hwm⟩ : ∃ wm, w.alloc (.cells (madeCells z55 (n * 71)) 66) = wm := ⟨_, rfl⟩
 rw [hwm] at HM HO0 g0
 rw [hB0] at HM HO0
 have H0 : Hid (OwnsR wm B0 (.slice (some ⟨B0, 0, none⟩) 0 n) ((L.take 0).map turnC) ∧ Below w.heap.size w wm) := ⟨by simpa using HO0, g0⟩
 clear HO0 g0 hwm
 go_enter Tryz.func22, Tryz.ntmps22
 go_wp2
 go_loopg [3, 11] n (fun gh v i wr => ∃ k : Nat, k ≤ n ∧ gh = n - k ∧ i = .int .i64 (k : Int) ∧ Hid (OwnsR wr B0 v ((L.take k).map turnC) ∧ Below w.heap.size w wr))
 case atStart => exact ⟨0, Nat.zero_le _, rfl, rfl, H0.out⟩
 case round =>
  clear H0 HM
  obtain ⟨k, hk, rfl, rfl, HR⟩ := hrel
  by_cases hlt : k < n
  ·have i1 : (k : Int) < (n : Int) := by omega
   have i0 : (0 : Int) ≤ (k : Int) := by omega
   obtain ⟨r, hx⟩ : ∃ r, L[k]? = some r := ⟨L[k]'(by rw [HN.out]; exact hlt), by simp⟩
   obtain ⟨ga, oa, rfl, la⟩ := (HA.out.below HR.out.2).at hx
   have htk := take_turn hx
   have hlk : ((L.take k).map turnC).length = k := by rw [List.length_map, List.length_take, HN.out]; omega
   obtain ⟨pv, cv, hv⟩ := HR.out.1.form
   rw [hlk] at hv
   have HOV := hid HR.out.1
   have HGW := hid HR.out.2
   rw [hv] at HOV
   subst hv
   obtain ⟨B1, hB1⟩ : ∃ B1, wr.heap.size = B1 := ⟨_, rfl⟩
   have n1 := new_varT wr 66 z55 (cc r)
   have g1 := n1.1
   rw [hB1] at n1
   obtain ⟨w1, hw1⟩ : ∃ w1, (wr.alloc (.cells z55 66)).setRow B1 (cc r) = w1 := ⟨_, rfl⟩
   rw [hw1] at n1
   rw [hB1, hw1] at g1
   have g1' : Below wr.heap.size wr w1 := by rw [hB1]; exact g1
   have lv : Lies w1 B1 0 (cc r) := fun j u hj => by simp only [World.cell?, n1.2.1, Nat.zero_add]; exact hj
   have c0 : w1.cell? ⟨B1, 0, none⟩ = some (.string r.path) := lv.path
   have HO : Hid (Lies w1 B1 1 (vx r.old).toArray) := by have := lv.old; rwa [Nat.zero_add] at this
   have HNw : Hid (Lies w1 B1 36 (vx r.new).toArray) := by have := lv.new; rwa [Nat.zero_add] at this
   have hB2 := n1.2.2
   have hs1 := HGW.out.size
   have ow1 : OwnsR w1 B0 (.slice pv k cv) ((L.take k).map turnC) := HOV.out.up g1'
   obtain ⟨Z, hZ⟩ : ∃ Z, cc (turnC r) = Z := ⟨_, rfl⟩
   obtain ⟨v2, w2, hr2, ow2, gb2, _, _⟩ := app_one 31 (turnC r) Z hZ ow1 (by rw [hB2, ← hB0]; omega) (by rw [hlk]; omega) (B1 + 1) hB2
   have HR2 := hid hr2
   have HE : Hid (OwnsR w2 B0 v2 ((L.take (k + 1)).map turnC) ∧ Below w.heap.size w w2) := ⟨by rw [htk]; exact ow2, by have := Below.up HGW.out g1'; rw [hB0] at this ⊢; exact this.trans gb2⟩
   have HLa : Hid (Lies wr ga (oa + k * 71) (cc r)) := la
   have HA1 : Hid ((wr.alloc (.cells z55 66)).heap[B1]? = some (.cells z55 66 (0, 0))) := by rw [← hB1]; exact World.alloc_heap_new wr _
   have HZ : Hid (cc (turnC r) = Z ∧ Z.size = 71) := ⟨hZ, by rw [← hZ]; exact cc_size _⟩
   obtain ⟨X, hX⟩ : ∃ X, cc r = X := ⟨_, rfl⟩
   have HX : Hid (X.size = 71 ∧ X.all (·.oneCell') = true) := ⟨by rw [← hX]; exact cc_size r, by rw [← hX]; exact cc_one r⟩
   rw [hX] at HLa hw1
   have HW1 := hid hw1
   obtain ⟨YO, hYO⟩ : ∃ Y, (vx r.old).toArray = Y := ⟨_, rfl⟩
   obtain ⟨YN, hYN⟩ : ∃ Y, (vx r.new).toArray = Y := ⟨_, rfl⟩
   have HYO : Hid ((vx r.old).toArray = YO ∧ YO.size = 35) := ⟨hYO, by rw [← hYO]; simp [vx_len]⟩
   have HYN : Hid ((vx r.new).toArray = YN ∧ YN.size = 35) := ⟨hYN, by rw [← hYN]; simp [vx_len]⟩
   rw [hYO] at HO
   rw [hYN] at HNw
   clear la lv n1 g1 g1' hw1 hX hYO hYN hZ hr2 ow2 gb2 ow1 htk hlk HOV HGW HR hx hs1
   go_upto_region 5 with (first
    | ((with_reducible refine wpList_exec (.agg X) ?_ ?_ ?_); exact exec_load 66 _ rfl ga (oa + k * 71) rfl X _ HLa.out under55 rfl (by rw [size55, HX.out.1]); kernel_rfl)
    | ((with_reducible refine wpList_execW (.pointer (some ⟨B1, 0, none⟩)) (wr.alloc (.cells z55 66)) ?_ ?_ ?_); exact exec_allocT 66 z55 rfl zero55 _ _ hB1; kernel_rfl)
    | ((with_reducible refine wpList_skipW w1 ?_ ?_ ?_); exact (by rw [← HW1.out]; exact exec_storeT 66 _ _ rfl B1 X z55 rfl rfl _ HA1.out (by rw [size55, HX.out.1]) (by rw [z55_size, HX.out.1]) HX.out.2); kernel_rfl))
   go_wp2_with (first
    | ((with_reducible refine wpList_exec (.agg YO) ?_ ?_ ?_); exact exec_load53 _ rfl B1 1 rfl YO HYO.out.2 HO.out; kernel_rfl)
    | ((with_reducible refine wpList_exec (.agg YN) ?_ ?_ ?_); exact exec_load53 _ rfl B1 36 rfl YN HYN.out.2 HNw.out; kernel_rfl)
    | ((with_reducible refine wpList_exec (.agg Z) ?_ ?_ ?_); exact (by rw [← HZ.out.1]; exact exec_build55 _ _ _ rfl r.path r.new r.old rfl (by rw [HYN.out.1]; rfl) (by rw [HYO.out.1]; rfl) _); kernel_rfl)
    | ((with_reducible refine wpList_execW (.slice (some ⟨B1 + 1, 0, none⟩) 1 1) (w1.alloc (.cells Z 66)) ?_ ?_ ?_); exact exec_slice55 _ rfl Z rfl HZ.out.2 _ _ hB2; kernel_rfl)
    | ((with_reducible refine wpList_execW v2 w2 ?_ ?_ ?_); exact exec_app (v := .slice pv k cv) (src := .slice (some ⟨B1 + 1, 0, none⟩) 1 1) rfl rfl rfl HR2.out; kernel_rfl))
   go_roundg (n - (k + 1))
   case measure => omega
   case rel => exact ⟨k + 1, by omega, rfl, by go_num, HE.out⟩
  ·obtain rfl : k = n := by omega
   have i1 : ¬ ((k : Int) < (k : Int)) := by omega
   have HF : Hid (OwnsR wr B0 u3 (L.map turnC) ∧ Below w.heap.size w wr) := by
    have := HR.out
    rwa [List.take_of_length_le (by rw [HN.out]; omega)] at this
   go_wp2
   go_ret
   exact ⟨u3, rfl, HF.out.1, by have := HF.out.2; rwa [hB0] at this⟩
theorem OwnsR.nil (w : World) (lo : Nat) : OwnsR w lo (.slice none 0 0) [] := World.ownsRow_nil _ _ _ _
end Go.Proofs.YthfcanpkhjgomaaGreat.Ch
namespace Go.Proofs.YthfcanpkhjgomaaGreat
open Go.RowKit
open Ch (Cd)
theorem T1.kid {w : World} {p : Nat} {t : T3} (h : T1 w p t) : ∃ k, AtT w p t.1 t.2.1 k ∧ k.flat = t.2.2 ∧ k.plain w ∧ Tr w p := by
 obtain ⟨k, h1, h2, h3, _, h4⟩ := h
 exact ⟨k, h1, h2, K.all_plain h3, h4⟩
theorem T1.si {w : World} {p : Nat} {t : T3} (h : T1 w p t) : ∃ q : Kid, kT q = t ∧ q.p = p ∧ SiAt w (some q) := by
 obtain ⟨k, h1, h2, h3, h4⟩ := h.kid
 refine ⟨⟨⟨#[]⟩, p, t.1, t.2.1, k⟩, ?_, rfl, fun q e => ?_⟩
 ·show (t.1, t.2.1, k.flat) = t
  rw [h2]
 ·cases e
  exact ⟨h1, h3, h4⟩
def difT (t u : T3) : List Cd := (DO.df [] t.1 u.1 ++ DO.wk (t.2.2.size + u.2.2.size + 1) [] t.2.2 u.2.2).map toC
theorem difs_T (q r : Kid) : difs (some q) (some r) = difT (kT q) (kT r) := rfl
theorem sameT_any (p pu : Nat) (t u : T3) (o : Bool) (w : World) (ht : T1 w p t) (hu : T1 w pu u) (r1 : t.2.2.rises) (r2 : u.2.2.rises) (s1 : t.2.2.size ≤ 100000) (s2 : u.2.2.size ≤ 100000) :
  Calls Tryz.prog 21 #[.pointer (some ⟨p, 0, none⟩), .pointer (some ⟨pu, 0, none⟩), .bool o] w fun e w' => e = .returned (.bool (sameT o t u)) ∧ G w w' := by
 obtain ⟨k, a1, a2, a3, a4⟩ := ht.kid
 obtain ⟨l, b1, b2, b3, b4⟩ := hu.kid
 have := same_any _ k (Nat.lt_succ_self _) o p t.1 t.2.1 (some ⟨pu, 0, none⟩) (some (u.1, u.2.1, l)) w a1 a3 a4 (by rw [a2]; exact r1) (by rw [a2]; exact s1) ⟨pu, rfl, b1, b3, b4, by rw [b2]; exact r2, by rw [b2]; exact s2⟩
 have e : sameK o (t.1, t.2.1, k) (some (u.1, u.2.1, l)) = sameT o t u := by
  show sameT o (t.1, t.2.1, k.flat) (u.1, u.2.1, l.flat) = _
  rw [a2, b2]
 rw [e] at this
 exact this
theorem difT_dd {t u : T3} (ht : Good t) (hu : Good u) {q r : Kid} (e1 : kT q = t) (e2 : kT r = u) : difT t u = (dl [] (some q) (some r)).map toC ∧ Dd t u (dl [] (some q) (some r)) := by
 subst e1; subst e2
 exact ⟨rfl, dl_dd ht hu⟩
theorem turnC_map (D : List DO.Dif) : (D.map toC).map Ch.turnC = (D.map swapD).map toC := by
 rw [List.map_map, List.map_map]
 rfl
theorem difT_turn {t u : T3} (ht : Good t) (hu : Good u) {q r : Kid} (e1 : kT q = t) (e2 : kT r = u) : (difT t u).map Ch.turnC = difT u t := by
 subst e1; subst e2
 show ((dl [] (some q) (some r)).map toC).map Ch.turnC = (dl [] (some r) (some q)).map toC
 rw [turnC_map, dl_turn ht hu]
theorem difT_apply {t u : T3} (ht : Good t) (hu : Good u) {q r : Kid} (e1 : kT q = t) (e2 : kT r = u) : apE t (difT t u) = 0 ∧ ∀ z, apM t (difT t u) = some z → Made t u z ∧ sameT false z u = true := by
 obtain ⟨e, hd⟩ := difT_dd ht hu e1 e2
 rw [e]
 refine ⟨apE_dd ht hu hd, fun z hz => ?_⟩
 obtain ⟨y, hy, hm⟩ := ap_dd ht hu hd
 rw [hy] at hz
 cases hz
 exact ⟨hm, hm.same ht hu⟩
theorem difT_nil {t u : T3} (ht : Good t) (hu : Good u) {q r : Kid} (e1 : kT q = t) (e2 : kT r = u) : difT t u = [] ↔ sameT false t u = true := by
 obtain ⟨e, hd⟩ := difT_dd ht hu e1 e2
 rw [← hd.nil ht hu, e, List.map_eq_nil_iff]
end Go.Proofs.YthfcanpkhjgomaaGreat
