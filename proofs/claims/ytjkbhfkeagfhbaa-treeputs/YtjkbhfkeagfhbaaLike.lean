/-
  likeOpen by contract.
-/
import Derived.Test.YtjkbhfkeagfhbaaKnownP
import Derived.Test.YtjkbhfkeagfhbaaKnown
import Derived.Test.YtjkbhfkeagfhbaaTree
namespace Go.Proofs.Ytjkbhfkeagfhbaa
open Go.RowKit

def likeF : F → F → Bool
  | .nil, .nil => true
  | .cons n v _ k r, .cons n' v' _ k' r' => decide (n = n') && (decide (likeV v v' = v') && (likeF k k' && likeF r r'))
  | _, _ => false
theorem likeF_good : ∀ {f g : F}, goodF g → likeF f g = sameF true f g
  | .nil, .nil, _ => rfl
  | .nil, .cons .., _ => rfl
  | .cons .., .nil, _ => rfl
  | .cons .., .cons .., h => by
    rw [likeF, sameF, likeV_good h.1, likeF_good h.2.1, likeF_good h.2.2]
theorem likeF_len : ∀ {f g : F}, likeF f g = true → f.len = g.len
  | .nil, .nil, _ => rfl
  | .nil, .cons .., h => by cases h
  | .cons .., .nil, h => by cases h
  | .cons n v m k r, .cons n' v' m' k' r', h => by
    rw [likeF] at h
    simp only [Bool.and_eq_true] at h
    have h2 := likeF_len h.2.2.2
    simp only [F.len]
    omega
/-- a variable of a value's kind: one cell of it is written -/
theorem Var24.setCell {w : World} {g : Nat} {c : Array Value} (h : Var24 w g c) (j : Nat) (x : Value) : Var24 (w.setCell ⟨g, j, none⟩ x) g (c.setIfInBounds j x) := by
  have h' : w.heap[g]? = some (.cells c 24 (0, 0)) := h
  unfold Var24 World.setCell
  simp only []
  rw [Array.getElem?_modify]
  simp [h']
theorem vx_mset (v : Vd) (x : Int) : (vx v).toArray.setIfInBounds 1 (.int .i64 x) = (vx { v with mode := x }).toArray := by simp [vx]
theorem Var24.lies {w : World} {g : Nat} {c : Array Value} (h : Var24 w g c) : Lies w g 0 c := fun j u hj => by
  rw [Nat.zero_add, World.cell?, h]
  exact hj
def LikeOk (ks : F) : Prop := ∀ (nm nm' : ByteArray) (v v' : Vd) (m m' : Md) (ks' : F) (c d : Array Value) (w : World), HasN w c nm v m ks → HasN w d nm' v' m' ks' → ks.okL → ks'.okL →
    Calls Try.prog 27 #[.agg c, .agg d] w fun e w' => e = .returned (.bool (decide (nm = nm') && (decide (likeV v v' = v') && likeF ks ks'))) ∧ G w w'
/-- what stands when the variable has its value -/
structure LK (w W : World) (B : Nat) (c d : Array Value) (X : Array Value) : Prop where
  bc : Var W B c
  bd : Var W (B + 1) d
  bx : Var24 W (B + 2) X
  g : G w W
theorem LK.grow {w W W' : World} {B : Nat} {c d X : Array Value} (h : LK w W B c d X) (hg : G W W') : LK w W' B c d X := ⟨h.bc.grow hg, h.bd.grow hg, h.bx.grow hg, h.g.trans hg⟩
theorem LK.set {w W : World} {B : Nat} {c d X : Array Value} (h : LK w W B c d X) (hB : w.heap.size = B) (j : Nat) (x : Value) : LK w (W.setCell ⟨B + 2, j, none⟩ x) B c d (X.setIfInBounds j x) := by
  have hb : ∀ b, b ≠ B + 2 → (W.setCell ⟨B + 2, j, none⟩ x).heap[b]? = W.heap[b]? := fun b hb => Below.heap_setCell _ _ _ _ hb
  exact ⟨(hb _ (by omega)).trans h.bc, (hb _ (by omega)).trans h.bd, h.bx.setCell j x, Below.trans (B := w.heap.size) h.g ⟨rfl, rfl, rfl, by simp, fun b hlt => hb b (by omega)⟩⟩
theorem LK.new (w : World) (c d X : Array Value) : LK w ((((w.alloc (.cells c 30)).alloc (.cells d 30)).alloc (.cells (vx Vd.zero).toArray 24)).setRow (w.heap.size + 2) X) w.heap.size c d X := by
  have hv := new_var24 ((w.alloc (.cells c 30)).alloc (.cells d 30)) X
  have hs : ((w.alloc (.cells c 30)).alloc (.cells d 30)).heap.size = w.heap.size + 2 := by simp
  rw [hs] at hv
  have h2 := Var.new (w.alloc (.cells c 30)) d
  rw [World.size_alloc] at h2
  exact ⟨((Var.new w c).grow (G.alloc _ _)).grow hv.1, h2.grow hv.1, hv.2, ((G.alloc _ _).trans (G.alloc _ _)).trans hv.1⟩

set_option maxRecDepth 100000 in
set_option maxHeartbeats 2000000 in
theorem like_any : ∀ (N : Nat) (ks : F), ks.size < N → LikeOk ks := by
  intro N
  induction N with
  | zero => intro f h; omega
  | succ N ih =>
    intro ks hN nm nm' v v' m m' ks' c d w hc0 hd0 hl hl'
    obtain ⟨kv, hc, hS⟩ := id hc0
    obtain ⟨kv', hd, hS'⟩ := id hd0
    obtain ⟨L, hL⟩ : ∃ L, ks.len = L := ⟨_, rfl⟩
    obtain ⟨L', hL'⟩ : ∃ L', ks'.len = L' := ⟨_, rfl⟩
    obtain ⟨a, cap, rfl, _⟩ := hS.form
    obtain ⟨a', cap', rfl, _⟩ := hS'.form
    have HOK : Hid (ks.okL ∧ ks'.okL ∧ ks.size < N + 1) := ⟨hl, hl', hN⟩
    have hlB : L ≤ 9223372036854775807 := by have := ks.len_le_size; unfold F.okL at hl; omega
    have hlB' : L' ≤ 9223372036854775807 := by have := ks'.len_le_size; unfold F.okL at hl'; omega
    obtain ⟨R, hR⟩ : ∃ R, (decide (nm = nm') && (decide (likeV v v' = v') && likeF ks ks')) = R := ⟨_, rfl⟩
    rw [hR]
    have HR := hid hR
    rw [hL] at hc hS
    rw [hL'] at hd hS'
    have HL := hid (⟨hL, hL'⟩ : ks.len = L ∧ ks'.len = L')
    have HC := hid (⟨hc, hd⟩ : c = nc nm v m (.slice a L cap) ∧ d = nc nm' v' m' (.slice a' L' cap'))
    have hcs : c.size = 41 := by rw [hc]; exact nc_size ..
    have hds : d.size = 41 := by rw [hd]; exact nc_size ..
    have HS := hid (⟨hS, hS'⟩ : HasS w (.slice a L cap) ks ∧ HasS w (.slice a' L' cap') ks')
    have HIH : Hid (∀ ks : F, ks.size < N → LikeOk ks) := ih
    obtain ⟨X, hX⟩ : ∃ X, (vx v).toArray = X := ⟨_, rfl⟩
    obtain ⟨Y, hY⟩ : ∃ Y, (vx v').toArray = Y := ⟨_, rfl⟩
    have H0 := hid (LK.new w c d X)
    have HX := hid (⟨hX, hY⟩ : (vx v).toArray = X ∧ (vx v').toArray = Y)
    have hXs : X.size = 35 ∧ X.all (·.oneCell') = true := by rw [← hX]; exact ⟨vx_size _, vx_one _⟩
    have hYs : Y.size = 35 := by rw [← hY]; exact vx_size _
    obtain ⟨B, hB⟩ : ∃ B, w.heap.size = B := ⟨_, rfl⟩
    have HB := hid hB
    have hTB := two_boxes w c d
    rw [hB] at H0 hTB
    have HV : Hid (Lies ((w.alloc (.cells c 30)).alloc (.cells d 30)) B 1 X) := by
      have := hTB.1
      rw [hc] at this
      rw [← hX]
      have h2 := lies_val this
      rw [Nat.zero_add, ← hc] at h2
      exact h2
    have h24 : Var24 (((w.alloc (.cells c 30)).alloc (.cells d 30)).alloc (.cells (vx Vd.zero).toArray 24)) (B + 2) (vx Vd.zero).toArray := by
      have := World.alloc_heap_new ((w.alloc (.cells c 30)).alloc (.cells d 30)) (.cells (vx Vd.zero).toArray 24 (0, 0))
      rw [World.size_alloc, World.size_alloc, hB] at this
      exact this
    have H24 := hid h24
    clear ih hN hc0 hd0 hl hl' hc hd hS hS' hL hL' hX hY hB h24 hTB hR
    go_enter Try.func27, Try.ntmps27
    go_upto_region 1 with fail
    have hs2 : ((w.alloc (.cells c 30)).alloc (.cells d 30)).heap.size = B + 2 := by rw [World.size_alloc, World.size_alloc, HB.out]
    generalize (w.alloc (.cells c 30)).alloc (.cells d 30) = w1 at *
    rw [HB.out]
    go_upto_region 2 with (first
      | ((with_reducible refine wpList_exec (.agg X) ?_ ?_ ?_); exact exec_load24 _ rfl B 1 rfl X hXs.1 HV.out; kernel_rfl)
      | ((with_reducible refine wpList_execW (.pointer (some ⟨B + 2, 0, none⟩)) (w1.alloc (.cells (vx Vd.zero).toArray 24)) ?_ ?_ ?_); (rw [← hs2]; exact exec_alloc24 rfl _); kernel_rfl)
      | ((with_reducible refine wpList_skipW ((w1.alloc (.cells (vx Vd.zero).toArray 24)).setRow (B + 2) X) ?_ ?_ ?_); exact exec_store24 _ _ rfl (B + 2) _ (vx Vd.zero).toArray rfl rfl _ H24.out hXs.1 (vx_size _) hXs.2; kernel_rfl))
    try simp only [Act.put, List.setIfInBounds_toArray, List.set_cons_zero, List.set_cons_succ]
    generalize (w1.alloc (.cells (vx Vd.zero).toArray 24)).setRow (B + 2) X = w2 at *
    clear HV H24 hs2
    obtain ⟨md, hmd⟩ : ∃ x, v'.mode = x := ⟨_, rfl⟩
    obtain ⟨kd, hkd⟩ : ∃ x, v'.kind = x := ⟨_, rfl⟩
    have HK := hid (⟨hmd, hkd⟩ : v'.mode = md ∧ v'.kind = kd)
    have p1 : w2.cell? ⟨B + 1, 2, none⟩ = some (.int .i64 md) := by
      have := H0.out.bd.lies 2 (.int .i64 md) (by rw [HC.out.2, ← hmd]; exact nc_mode ..)
      simpa using this
    have p2 : w2.cell? ⟨B + 1, 1, none⟩ = some (.int .i64 kd) := by
      have := H0.out.bd.lies 1 (.int .i64 kd) (by rw [HC.out.2, ← hkd]; exact nc_kind ..)
      simpa using this
    have p3 : w2.frozen? ⟨B + 2, 1, none⟩ = false := by
      have := H0.out.bx
      unfold Var24 at this
      simp [World.frozen?, this]
    have p4 : ∃ x, w2.cell? ⟨B + 2, 1, none⟩ = some x := ⟨.int .i64 v.mode, by
      have := H0.out.bx.lies 1 (.int .i64 v.mode) (by rw [← HX.out.1]; rfl)
      simpa using this⟩
    obtain ⟨x4, p4⟩ := p4
    obtain ⟨Z, hZ⟩ : ∃ Z, (vx (likeV v v')).toArray = Z := ⟨_, rfl⟩
    have HZ := hid hZ
    have hZs : Z.size = 35 := by rw [← hZ]; exact vx_size _
    clear hmd hkd hZ
    have key : (md = 8 ∧ kd = 3) ∨ (md = 8 ∧ kd ≠ 3) ∨ md ≠ 8 := by omega
    rcases key with ⟨k8, k3⟩ | ⟨k8, k3⟩ | k8
    · have b3 : (kd != 3) = false := by simp [k3]
      have HW : Hid (LK w w2 B c d Z) := by
        have : likeV v v' = v := by unfold likeV; rw [if_neg]; rw [HK.out.1, HK.out.2]; intro h; exact h.2 k3
        show LK w w2 B c d Z
        rw [← HZ.out, this, HX.out.1]
        exact H0.out
      subst k8
      clear H0 p3 p4 k3
      go_upto_region 4 with fail
      clear p1 p2
      have n1 : w2.cell? ⟨B, 0, none⟩ = some (.string nm) := HW.out.bc.lies 0 _ (by rw [HC.out.1]; exact nc_name ..)
      have n2 : w2.cell? ⟨B + 1, 0, none⟩ = some (.string nm') := HW.out.bd.lies 0 _ (by rw [HC.out.2]; exact nc_name ..)
      have l1 : w2.cell? ⟨B, 40, none⟩ = some (.slice a L cap) := by have := HW.out.bc.lies 40 _ (by rw [HC.out.1]; exact nc_kids ..); simpa using this
      have l2 : w2.cell? ⟨B + 1, 40, none⟩ = some (.slice a' L' cap') := by have := HW.out.bd.lies 40 _ (by rw [HC.out.2]; exact nc_kids ..); simpa using this
      have HY : Hid (Lies w2 (B + 1) 1 Y) := by
        have := HW.out.bd.lies
        rw [HC.out.2] at this
        have h2 := lies_val this
        rw [Nat.zero_add, HX.out.2] at h2
        exact h2
      by_cases hnn : nm = nm'
      case neg =>
        have b1 : (nm.toList == nm'.toList) = false := by
          have : ¬ nm.toList = nm'.toList := fun e => hnn (ext_of _ _ e)
          simpa using this
        have hRf : R = false := by rw [← HR.out, decide_eq_false hnn]; rfl
        clear hnn
        go_wp2_with fail
        go_ret
        exact ⟨by first | rfl | (rw [hRf]; rfl), HW.out.g⟩
      have HRR : Hid ((decide (likeV v v' = v') && likeF ks ks') = R) := by show _ = _; rw [← HR.out, decide_eq_true hnn]; rfl
      subst hnn
      by_cases hvv : likeV v v' = v'
      case neg =>
        have hRf : R = false := by rw [← HRR.out, decide_eq_false hvv]; rfl
        have B1 : Hid ((!decide (likeV v v' = v')) = true) := by show _ = _; simp [hvv]
        clear hvv
        go_wp2_with (first
          | ((with_reducible refine wpList_exec (.agg Z) ?_ ?_ ?_); exact exec_load24 _ rfl (B + 2) 0 rfl Z hZs HW.out.bx.lies; kernel_rfl)
          | ((with_reducible refine wpList_exec (.agg Y) ?_ ?_ ?_); exact exec_load24 _ rfl (B + 1) 1 rfl Y hYs HY.out; kernel_rfl)
          | ((with_reducible refine wpList_exec (.bool true) ?_ ?_ ?_); exact exec_neq24' _ _ rfl Z Y rfl rfl (likeV v v') v' HZ.out.symm HX.out.2.symm true B1.out _; kernel_rfl))
        go_ret
        exact ⟨by first | rfl | (rw [hRf]; rfl), HW.out.g⟩
      have HRF : Hid (likeF ks ks' = R) := by show _ = _; rw [← HRR.out, decide_eq_true hvv]; rfl
      have B1 : Hid ((!decide (likeV v v' = v')) = false) := by show _ = _; simp [hvv]
      clear hvv
      by_cases hLL : L = L'
      case neg =>
        have hRf : R = false := by
          rw [← HRF.out]
          cases hq : likeF ks ks' with
          | false => rfl
          | true => exact absurd (likeF_len hq) (by rw [HL.out.1, HL.out.2]; exact hLL)
        have b3 : (!decide ((L : Int) = (L' : Int))) = true := by simp; omega
        have b4 : ¬ (L : Int) = (L' : Int) := by omega
        have b5 : ((L : Int) != (L' : Int)) = true := by simp; omega
        clear hLL
        go_wp2_with (first
          | ((with_reducible refine wpList_exec (.agg Z) ?_ ?_ ?_); exact exec_load24 _ rfl (B + 2) 0 rfl Z hZs HW.out.bx.lies; kernel_rfl)
          | ((with_reducible refine wpList_exec (.agg Y) ?_ ?_ ?_); exact exec_load24 _ rfl (B + 1) 1 rfl Y hYs HY.out; kernel_rfl)
          | ((with_reducible refine wpList_exec (.bool false) ?_ ?_ ?_); exact exec_neq24' _ _ rfl Z Y rfl rfl (likeV v v') v' HZ.out.symm HX.out.2.symm false B1.out _; kernel_rfl))
        go_ret
        exact ⟨by first | rfl | (rw [hRf]; rfl), HW.out.g⟩
      subst hLL
      go_upto_region 6 with (first
        | ((with_reducible refine wpList_exec (.agg Z) ?_ ?_ ?_); exact exec_load24 _ rfl (B + 2) 0 rfl Z hZs HW.out.bx.lies; kernel_rfl)
        | ((with_reducible refine wpList_exec (.agg Y) ?_ ?_ ?_); exact exec_load24 _ rfl (B + 1) 1 rfl Y hYs HY.out; kernel_rfl)
        | ((with_reducible refine wpList_exec (.bool false) ?_ ?_ ?_); exact exec_neq24' _ _ rfl Z Y rfl rfl (likeV v v') v' HZ.out.symm HX.out.2.symm false B1.out _; kernel_rfl))
      clear B1 HY n1 n2 HR HRR
      go_wp2_with fail
      go_loopw [6] (fun i wr => ∃ k : Nat, i = .int .i64 k ∧ k ≤ L ∧ wr.cell? ⟨B, 40, none⟩ = some (.slice a L cap) ∧ wr.cell? ⟨B + 1, 40, none⟩ = some (.slice a' L cap') ∧ Hid (likeF (ks.drop k) (ks'.drop k) = R ∧ LK w wr B c d Z)) (fun i _ => L - iOf i)
      case atStart => exact ⟨0, rfl, Nat.zero_le _, l1, l2, by rw [F.drop_zero, F.drop_zero]; exact HRF.out, HW.out⟩
      case round =>
        clear l1 l2 HW HRF
        obtain ⟨k, rfl, hk, q1, q2, HI⟩ := hrel
        by_cases hlt : k < L
        case neg =>
          have hltI : ¬ (k : Int) < (L : Int) := by omega
          have hRt : R = true := by rw [← HI.out.1, F.drop_all ks k (by rw [HL.out.1]; omega), F.drop_all ks' k (by rw [HL.out.2]; omega)]; rfl
          go_wp2_with fail
          go_ret
          exact ⟨by first | rfl | (rw [hRt]; rfl), HI.out.2.g⟩
        have hltI : (k : Int) < (L : Int) := by omega
        obtain ⟨g, o, cp, nm1, v1, m1, ks1, c1, hv1, hd1, hN1, hc1⟩ := HS.out.1.at (k := k) (by rw [HL.out.1]; exact hlt)
        obtain ⟨g', o', cp', nm2, v2, m2, ks2, c2, hv2, hd2, hN2, hc2⟩ := HS.out.2.at (k := k) (by rw [HL.out.2]; exact hlt)
        obtain rfl : a = some ⟨g, o, none⟩ := by injection hv1
        obtain rfl : a' = some ⟨g', o', none⟩ := by injection hv2
        have s1 : c1.size = 41 := by obtain ⟨kv1, rfl, _⟩ := hN1; exact nc_size ..
        have s2 : c2.size = 41 := by obtain ⟨kv1, rfl, _⟩ := hN2; exact nc_size ..
        obtain ⟨r1, hr1⟩ : ∃ r, (decide (nm1 = nm2) && (decide (likeV v1 v2 = v2) && likeF ks1 ks2)) = r := ⟨_, rfl⟩
        have hksz := F.kids_size hd1
        have hksz2 := F.kids_size hd2
        have CC : Hid (∀ W, G w W → Calls Try.prog 27 #[.agg c1, .agg c2] W fun e w' => e = .returned (.bool r1) ∧ G W w') := fun W hW => by
          rw [← hr1]
          have h1 := HOK.out.1
          have h2 := HOK.out.2.1
          have h3 := HOK.out.2.2
          unfold F.okL at h1 h2
          exact HIH.out ks1 (by omega) nm1 nm2 v1 v2 m1 m2 ks2 c1 c2 W (hN1.below hW) (hN2.below hW) (by unfold F.okL; omega) (by unfold F.okL; omega)
        have HC1 := hid (fun W (hW : G w W) => (⟨Lies.below hc1 hW, Lies.below hc2 hW⟩ : Lies W g (o + k * 41) c1 ∧ Lies W g' (o' + k * 41) c2))
        have HE : Hid ((r1 && likeF (ks.drop (k + 1)) (ks'.drop (k + 1))) = R) := by
          show _ = _
          rw [← HI.out.1, hd1, hd2, likeF, ← hr1]
          simp only [Bool.and_assoc]
        have HI2 := hid HI.out.2
        clear hd1 hd2 hN1 hN2 hc1 hc2 hv1 hv2 hksz hksz2 hr1 HI
        go_upto_region 9 with fail
        refine wp_region_G ?_
        replace q1 := (G.drew wr).cell q1
        replace q2 := (G.drew wr).cell q2
        replace HI2 := hid (HI2.out.grow (G.drew wr))
        generalize wr.drew = wd at *
        refine takeG 0 47 (.pointer (some ⟨B, 40, none⟩)) rfl rfl (by kernel_rfl) (by kernel_rfl) (by kernel_rfl) (fun _ _ _ h => h) (by kernel_rfl) (fun wz hz => ?_) ?_
        · go_simp
        try simp only [Act.put, List.setIfInBounds_toArray, List.set_cons_zero, List.set_cons_succ]
        refine takeG 1 48 (.slice (some ⟨g, o, none⟩) L cap) rfl rfl (by kernel_rfl) (by kernel_rfl) (by kernel_rfl) (fun _ _ _ h => h) (by kernel_rfl) (fun wz hz => ?_) ?_
        · have y0 := hz.cell q1; go_simp
        try simp only [Act.put, List.setIfInBounds_toArray, List.set_cons_zero, List.set_cons_succ]
        refine takeG 2 49 (.int .i64 k) rfl rfl (by kernel_rfl) (by kernel_rfl) (by kernel_rfl) (fun _ _ _ h => h) (by kernel_rfl) (fun wz hz => ?_) ?_
        · rfl
        try simp only [Act.put, List.setIfInBounds_toArray, List.set_cons_zero, List.set_cons_succ]
        refine takeG 3 50 (.pointer (some ⟨g, o + k * 41, none⟩)) rfl rfl (by kernel_rfl) (by kernel_rfl) (by kernel_rfl) (fun _ _ _ h => h) (by kernel_rfl) (fun wz hz => ?_) ?_
        · go_simp
        try simp only [Act.put, List.setIfInBounds_toArray, List.set_cons_zero, List.set_cons_succ]
        refine takeG 4 51 (.agg c1) rfl rfl (by kernel_rfl) (by kernel_rfl) (by kernel_rfl) (fun _ _ _ h => h) (by kernel_rfl) (fun wz hz => ?_) ?_
        · exact exec_load30 _ rfl g (o + k * 41) rfl c1 s1 (HC1.out wz (HI2.out.g.trans hz)).1
        try simp only [Act.put, List.setIfInBounds_toArray, List.set_cons_zero, List.set_cons_succ]
        refine takeG 5 52 (.pointer (some ⟨B + 1, 40, none⟩)) rfl rfl (by kernel_rfl) (by kernel_rfl) (by kernel_rfl) (fun _ _ _ h => h) (by kernel_rfl) (fun wz hz => ?_) ?_
        · go_simp
        try simp only [Act.put, List.setIfInBounds_toArray, List.set_cons_zero, List.set_cons_succ]
        refine takeG 6 53 (.slice (some ⟨g', o', none⟩) L cap') rfl rfl (by kernel_rfl) (by kernel_rfl) (by kernel_rfl) (fun _ _ _ h => h) (by kernel_rfl) (fun wz hz => ?_) ?_
        · have y0 := hz.cell q2; go_simp
        try simp only [Act.put, List.setIfInBounds_toArray, List.set_cons_zero, List.set_cons_succ]
        refine takeG 7 54 (.int .i64 k) rfl rfl (by kernel_rfl) (by kernel_rfl) (by kernel_rfl) (fun _ _ _ h => h) (by kernel_rfl) (fun wz hz => ?_) ?_
        · rfl
        try simp only [Act.put, List.setIfInBounds_toArray, List.set_cons_zero, List.set_cons_succ]
        refine takeG 8 55 (.pointer (some ⟨g', o' + k * 41, none⟩)) rfl rfl (by kernel_rfl) (by kernel_rfl) (by kernel_rfl) (fun _ _ _ h => h) (by kernel_rfl) (fun wz hz => ?_) ?_
        · go_simp
        try simp only [Act.put, List.setIfInBounds_toArray, List.set_cons_zero, List.set_cons_succ]
        refine takeG 9 56 (.agg c2) rfl rfl (by kernel_rfl) (by kernel_rfl) (by kernel_rfl) (fun _ _ _ h => h) (by kernel_rfl) (fun wz hz => ?_) ?_
        · exact exec_load30 _ rfl g' (o' + k * 41) rfl c2 s2 (HC1.out wz (HI2.out.g.trans hz)).2
        try simp only [Act.put, List.setIfInBounds_toArray, List.set_cons_zero, List.set_cons_succ]
        refine callG 10 57 (.bool r1) 27 #[.agg c1, .agg c2] rfl rfl (by kernel_rfl) (by kernel_rfl) (by kernel_rfl) (fun _ _ _ h => h) (by kernel_rfl) (fun wz => by go_simp) (fun wz hz => ?_) ?_
        · exact CC.out wz (HI2.out.g.trans hz)
        try simp only [Act.put, List.setIfInBounds_toArray, List.set_cons_zero, List.set_cons_succ]
        refine takeG 11 58 (.bool (!r1)) rfl rfl (by kernel_rfl) (by kernel_rfl) (by kernel_rfl) (fun _ _ _ h => h) (by kernel_rfl) (fun wz hz => ?_) ?_
        · go_simp
        try simp only [Act.put, List.setIfInBounds_toArray, List.set_cons_zero, List.set_cons_succ]
        refine doneG (by kernel_rfl) (fun w9 hg9 => ?_)
        have HF := hid (HI2.out.grow hg9)
        replace q1 := hg9.cell q1
        replace q2 := hg9.cell q2
        clear hg9 HI2
        cases r1 with
        | false =>
          have hRf : R = false := by rw [← HE.out]; rfl
          go_wp2_with fail
          go_ret
          exact ⟨by first | rfl | (rw [hRf]; rfl), HF.out.g⟩
        | true =>
          go_wp2_with fail
          go_roundw
          case rel => exact ⟨k + 1, by go_num, by omega, q1, q2, by have := HE.out; rw [Bool.true_and] at this; exact this, HF.out⟩
          case measure => simp; omega
    · have b3 : (kd != 3) = true := by simp [k3]
      have HW : Hid (LK w (w2.setCell ⟨B + 2, 1, none⟩ (.int .i64 8)) B c d Z) := by
        have : likeV v v' = { v with mode := 8 } := by unfold likeV; rw [if_pos]; rw [HK.out.1, HK.out.2]; exact ⟨k8, k3⟩
        show LK w _ B c d Z
        rw [← HZ.out, this, ← vx_mset, HX.out.1]
        exact H0.out.set HB.out 1 _
      subst k8
      clear H0 k3
      go_upto_region 4 with fail
      generalize w2.setCell ⟨B + 2, 1, none⟩ (.int .i64 8) = w2 at *
      clear p1 p2
      have n1 : w2.cell? ⟨B, 0, none⟩ = some (.string nm) := HW.out.bc.lies 0 _ (by rw [HC.out.1]; exact nc_name ..)
      have n2 : w2.cell? ⟨B + 1, 0, none⟩ = some (.string nm') := HW.out.bd.lies 0 _ (by rw [HC.out.2]; exact nc_name ..)
      have l1 : w2.cell? ⟨B, 40, none⟩ = some (.slice a L cap) := by have := HW.out.bc.lies 40 _ (by rw [HC.out.1]; exact nc_kids ..); simpa using this
      have l2 : w2.cell? ⟨B + 1, 40, none⟩ = some (.slice a' L' cap') := by have := HW.out.bd.lies 40 _ (by rw [HC.out.2]; exact nc_kids ..); simpa using this
      have HY : Hid (Lies w2 (B + 1) 1 Y) := by
        have := HW.out.bd.lies
        rw [HC.out.2] at this
        have h2 := lies_val this
        rw [Nat.zero_add, HX.out.2] at h2
        exact h2
      by_cases hnn : nm = nm'
      case neg =>
        have b1 : (nm.toList == nm'.toList) = false := by
          have : ¬ nm.toList = nm'.toList := fun e => hnn (ext_of _ _ e)
          simpa using this
        have hRf : R = false := by rw [← HR.out, decide_eq_false hnn]; rfl
        clear hnn
        go_wp2_with fail
        go_ret
        exact ⟨by first | rfl | (rw [hRf]; rfl), HW.out.g⟩
      have HRR : Hid ((decide (likeV v v' = v') && likeF ks ks') = R) := by show _ = _; rw [← HR.out, decide_eq_true hnn]; rfl
      subst hnn
      by_cases hvv : likeV v v' = v'
      case neg =>
        have hRf : R = false := by rw [← HRR.out, decide_eq_false hvv]; rfl
        have B1 : Hid ((!decide (likeV v v' = v')) = true) := by show _ = _; simp [hvv]
        clear hvv
        go_wp2_with (first
          | ((with_reducible refine wpList_exec (.agg Z) ?_ ?_ ?_); exact exec_load24 _ rfl (B + 2) 0 rfl Z hZs HW.out.bx.lies; kernel_rfl)
          | ((with_reducible refine wpList_exec (.agg Y) ?_ ?_ ?_); exact exec_load24 _ rfl (B + 1) 1 rfl Y hYs HY.out; kernel_rfl)
          | ((with_reducible refine wpList_exec (.bool true) ?_ ?_ ?_); exact exec_neq24' _ _ rfl Z Y rfl rfl (likeV v v') v' HZ.out.symm HX.out.2.symm true B1.out _; kernel_rfl))
        go_ret
        exact ⟨by first | rfl | (rw [hRf]; rfl), HW.out.g⟩
      have HRF : Hid (likeF ks ks' = R) := by show _ = _; rw [← HRR.out, decide_eq_true hvv]; rfl
      have B1 : Hid ((!decide (likeV v v' = v')) = false) := by show _ = _; simp [hvv]
      clear hvv
      by_cases hLL : L = L'
      case neg =>
        have hRf : R = false := by
          rw [← HRF.out]
          cases hq : likeF ks ks' with
          | false => rfl
          | true => exact absurd (likeF_len hq) (by rw [HL.out.1, HL.out.2]; exact hLL)
        have b3 : (!decide ((L : Int) = (L' : Int))) = true := by simp; omega
        have b4 : ¬ (L : Int) = (L' : Int) := by omega
        have b5 : ((L : Int) != (L' : Int)) = true := by simp; omega
        clear hLL
        go_wp2_with (first
          | ((with_reducible refine wpList_exec (.agg Z) ?_ ?_ ?_); exact exec_load24 _ rfl (B + 2) 0 rfl Z hZs HW.out.bx.lies; kernel_rfl)
          | ((with_reducible refine wpList_exec (.agg Y) ?_ ?_ ?_); exact exec_load24 _ rfl (B + 1) 1 rfl Y hYs HY.out; kernel_rfl)
          | ((with_reducible refine wpList_exec (.bool false) ?_ ?_ ?_); exact exec_neq24' _ _ rfl Z Y rfl rfl (likeV v v') v' HZ.out.symm HX.out.2.symm false B1.out _; kernel_rfl))
        go_ret
        exact ⟨by first | rfl | (rw [hRf]; rfl), HW.out.g⟩
      subst hLL
      go_upto_region 6 with (first
        | ((with_reducible refine wpList_exec (.agg Z) ?_ ?_ ?_); exact exec_load24 _ rfl (B + 2) 0 rfl Z hZs HW.out.bx.lies; kernel_rfl)
        | ((with_reducible refine wpList_exec (.agg Y) ?_ ?_ ?_); exact exec_load24 _ rfl (B + 1) 1 rfl Y hYs HY.out; kernel_rfl)
        | ((with_reducible refine wpList_exec (.bool false) ?_ ?_ ?_); exact exec_neq24' _ _ rfl Z Y rfl rfl (likeV v v') v' HZ.out.symm HX.out.2.symm false B1.out _; kernel_rfl))
      clear B1 HY n1 n2 HR HRR
      go_wp2_with fail
      go_loopw [6] (fun i wr => ∃ k : Nat, i = .int .i64 k ∧ k ≤ L ∧ wr.cell? ⟨B, 40, none⟩ = some (.slice a L cap) ∧ wr.cell? ⟨B + 1, 40, none⟩ = some (.slice a' L cap') ∧ Hid (likeF (ks.drop k) (ks'.drop k) = R ∧ LK w wr B c d Z)) (fun i _ => L - iOf i)
      case atStart => exact ⟨0, rfl, Nat.zero_le _, l1, l2, by rw [F.drop_zero, F.drop_zero]; exact HRF.out, HW.out⟩
      case round =>
        clear l1 l2 HW HRF
        obtain ⟨k, rfl, hk, q1, q2, HI⟩ := hrel
        by_cases hlt : k < L
        case neg =>
          have hltI : ¬ (k : Int) < (L : Int) := by omega
          have hRt : R = true := by rw [← HI.out.1, F.drop_all ks k (by rw [HL.out.1]; omega), F.drop_all ks' k (by rw [HL.out.2]; omega)]; rfl
          go_wp2_with fail
          go_ret
          exact ⟨by first | rfl | (rw [hRt]; rfl), HI.out.2.g⟩
        have hltI : (k : Int) < (L : Int) := by omega
        obtain ⟨g, o, cp, nm1, v1, m1, ks1, c1, hv1, hd1, hN1, hc1⟩ := HS.out.1.at (k := k) (by rw [HL.out.1]; exact hlt)
        obtain ⟨g', o', cp', nm2, v2, m2, ks2, c2, hv2, hd2, hN2, hc2⟩ := HS.out.2.at (k := k) (by rw [HL.out.2]; exact hlt)
        obtain rfl : a = some ⟨g, o, none⟩ := by injection hv1
        obtain rfl : a' = some ⟨g', o', none⟩ := by injection hv2
        have s1 : c1.size = 41 := by obtain ⟨kv1, rfl, _⟩ := hN1; exact nc_size ..
        have s2 : c2.size = 41 := by obtain ⟨kv1, rfl, _⟩ := hN2; exact nc_size ..
        obtain ⟨r1, hr1⟩ : ∃ r, (decide (nm1 = nm2) && (decide (likeV v1 v2 = v2) && likeF ks1 ks2)) = r := ⟨_, rfl⟩
        have hksz := F.kids_size hd1
        have hksz2 := F.kids_size hd2
        have CC : Hid (∀ W, G w W → Calls Try.prog 27 #[.agg c1, .agg c2] W fun e w' => e = .returned (.bool r1) ∧ G W w') := fun W hW => by
          rw [← hr1]
          have h1 := HOK.out.1
          have h2 := HOK.out.2.1
          have h3 := HOK.out.2.2
          unfold F.okL at h1 h2
          exact HIH.out ks1 (by omega) nm1 nm2 v1 v2 m1 m2 ks2 c1 c2 W (hN1.below hW) (hN2.below hW) (by unfold F.okL; omega) (by unfold F.okL; omega)
        have HC1 := hid (fun W (hW : G w W) => (⟨Lies.below hc1 hW, Lies.below hc2 hW⟩ : Lies W g (o + k * 41) c1 ∧ Lies W g' (o' + k * 41) c2))
        have HE : Hid ((r1 && likeF (ks.drop (k + 1)) (ks'.drop (k + 1))) = R) := by
          show _ = _
          rw [← HI.out.1, hd1, hd2, likeF, ← hr1]
          simp only [Bool.and_assoc]
        have HI2 := hid HI.out.2
        clear hd1 hd2 hN1 hN2 hc1 hc2 hv1 hv2 hksz hksz2 hr1 HI
        go_upto_region 9 with fail
        refine wp_region_G ?_
        replace q1 := (G.drew wr).cell q1
        replace q2 := (G.drew wr).cell q2
        replace HI2 := hid (HI2.out.grow (G.drew wr))
        generalize wr.drew = wd at *
        refine takeG 0 47 (.pointer (some ⟨B, 40, none⟩)) rfl rfl (by kernel_rfl) (by kernel_rfl) (by kernel_rfl) (fun _ _ _ h => h) (by kernel_rfl) (fun wz hz => ?_) ?_
        · go_simp
        try simp only [Act.put, List.setIfInBounds_toArray, List.set_cons_zero, List.set_cons_succ]
        refine takeG 1 48 (.slice (some ⟨g, o, none⟩) L cap) rfl rfl (by kernel_rfl) (by kernel_rfl) (by kernel_rfl) (fun _ _ _ h => h) (by kernel_rfl) (fun wz hz => ?_) ?_
        · have y0 := hz.cell q1; go_simp
        try simp only [Act.put, List.setIfInBounds_toArray, List.set_cons_zero, List.set_cons_succ]
        refine takeG 2 49 (.int .i64 k) rfl rfl (by kernel_rfl) (by kernel_rfl) (by kernel_rfl) (fun _ _ _ h => h) (by kernel_rfl) (fun wz hz => ?_) ?_
        · rfl
        try simp only [Act.put, List.setIfInBounds_toArray, List.set_cons_zero, List.set_cons_succ]
        refine takeG 3 50 (.pointer (some ⟨g, o + k * 41, none⟩)) rfl rfl (by kernel_rfl) (by kernel_rfl) (by kernel_rfl) (fun _ _ _ h => h) (by kernel_rfl) (fun wz hz => ?_) ?_
        · go_simp
        try simp only [Act.put, List.setIfInBounds_toArray, List.set_cons_zero, List.set_cons_succ]
        refine takeG 4 51 (.agg c1) rfl rfl (by kernel_rfl) (by kernel_rfl) (by kernel_rfl) (fun _ _ _ h => h) (by kernel_rfl) (fun wz hz => ?_) ?_
        · exact exec_load30 _ rfl g (o + k * 41) rfl c1 s1 (HC1.out wz (HI2.out.g.trans hz)).1
        try simp only [Act.put, List.setIfInBounds_toArray, List.set_cons_zero, List.set_cons_succ]
        refine takeG 5 52 (.pointer (some ⟨B + 1, 40, none⟩)) rfl rfl (by kernel_rfl) (by kernel_rfl) (by kernel_rfl) (fun _ _ _ h => h) (by kernel_rfl) (fun wz hz => ?_) ?_
        · go_simp
        try simp only [Act.put, List.setIfInBounds_toArray, List.set_cons_zero, List.set_cons_succ]
        refine takeG 6 53 (.slice (some ⟨g', o', none⟩) L cap') rfl rfl (by kernel_rfl) (by kernel_rfl) (by kernel_rfl) (fun _ _ _ h => h) (by kernel_rfl) (fun wz hz => ?_) ?_
        · have y0 := hz.cell q2; go_simp
        try simp only [Act.put, List.setIfInBounds_toArray, List.set_cons_zero, List.set_cons_succ]
        refine takeG 7 54 (.int .i64 k) rfl rfl (by kernel_rfl) (by kernel_rfl) (by kernel_rfl) (fun _ _ _ h => h) (by kernel_rfl) (fun wz hz => ?_) ?_
        · rfl
        try simp only [Act.put, List.setIfInBounds_toArray, List.set_cons_zero, List.set_cons_succ]
        refine takeG 8 55 (.pointer (some ⟨g', o' + k * 41, none⟩)) rfl rfl (by kernel_rfl) (by kernel_rfl) (by kernel_rfl) (fun _ _ _ h => h) (by kernel_rfl) (fun wz hz => ?_) ?_
        · go_simp
        try simp only [Act.put, List.setIfInBounds_toArray, List.set_cons_zero, List.set_cons_succ]
        refine takeG 9 56 (.agg c2) rfl rfl (by kernel_rfl) (by kernel_rfl) (by kernel_rfl) (fun _ _ _ h => h) (by kernel_rfl) (fun wz hz => ?_) ?_
        · exact exec_load30 _ rfl g' (o' + k * 41) rfl c2 s2 (HC1.out wz (HI2.out.g.trans hz)).2
        try simp only [Act.put, List.setIfInBounds_toArray, List.set_cons_zero, List.set_cons_succ]
        refine callG 10 57 (.bool r1) 27 #[.agg c1, .agg c2] rfl rfl (by kernel_rfl) (by kernel_rfl) (by kernel_rfl) (fun _ _ _ h => h) (by kernel_rfl) (fun wz => by go_simp) (fun wz hz => ?_) ?_
        · exact CC.out wz (HI2.out.g.trans hz)
        try simp only [Act.put, List.setIfInBounds_toArray, List.set_cons_zero, List.set_cons_succ]
        refine takeG 11 58 (.bool (!r1)) rfl rfl (by kernel_rfl) (by kernel_rfl) (by kernel_rfl) (fun _ _ _ h => h) (by kernel_rfl) (fun wz hz => ?_) ?_
        · go_simp
        try simp only [Act.put, List.setIfInBounds_toArray, List.set_cons_zero, List.set_cons_succ]
        refine doneG (by kernel_rfl) (fun w9 hg9 => ?_)
        have HF := hid (HI2.out.grow hg9)
        replace q1 := hg9.cell q1
        replace q2 := hg9.cell q2
        clear hg9 HI2
        cases r1 with
        | false =>
          have hRf : R = false := by rw [← HE.out]; rfl
          go_wp2_with fail
          go_ret
          exact ⟨by first | rfl | (rw [hRf]; rfl), HF.out.g⟩
        | true =>
          go_wp2_with fail
          go_roundw
          case rel => exact ⟨k + 1, by go_num, by omega, q1, q2, by have := HE.out; rw [Bool.true_and] at this; exact this, HF.out⟩
          case measure => simp; omega
    · have b8 : (md == 8) = false := by simp [k8]
      have HW : Hid (LK w w2 B c d Z) := by
        have : likeV v v' = v := by unfold likeV; rw [if_neg]; rw [HK.out.1, HK.out.2]; intro h; exact k8 h.1
        show LK w w2 B c d Z
        rw [← HZ.out, this, HX.out.1]
        exact H0.out
      clear H0 p3 p4
      go_upto_region 4 with fail
      clear p1 p2
      have n1 : w2.cell? ⟨B, 0, none⟩ = some (.string nm) := HW.out.bc.lies 0 _ (by rw [HC.out.1]; exact nc_name ..)
      have n2 : w2.cell? ⟨B + 1, 0, none⟩ = some (.string nm') := HW.out.bd.lies 0 _ (by rw [HC.out.2]; exact nc_name ..)
      have l1 : w2.cell? ⟨B, 40, none⟩ = some (.slice a L cap) := by have := HW.out.bc.lies 40 _ (by rw [HC.out.1]; exact nc_kids ..); simpa using this
      have l2 : w2.cell? ⟨B + 1, 40, none⟩ = some (.slice a' L' cap') := by have := HW.out.bd.lies 40 _ (by rw [HC.out.2]; exact nc_kids ..); simpa using this
      have HY : Hid (Lies w2 (B + 1) 1 Y) := by
        have := HW.out.bd.lies
        rw [HC.out.2] at this
        have h2 := lies_val this
        rw [Nat.zero_add, HX.out.2] at h2
        exact h2
      by_cases hnn : nm = nm'
      case neg =>
        have b1 : (nm.toList == nm'.toList) = false := by
          have : ¬ nm.toList = nm'.toList := fun e => hnn (ext_of _ _ e)
          simpa using this
        have hRf : R = false := by rw [← HR.out, decide_eq_false hnn]; rfl
        clear hnn
        go_wp2_with fail
        go_ret
        exact ⟨by first | rfl | (rw [hRf]; rfl), HW.out.g⟩
      have HRR : Hid ((decide (likeV v v' = v') && likeF ks ks') = R) := by show _ = _; rw [← HR.out, decide_eq_true hnn]; rfl
      subst hnn
      by_cases hvv : likeV v v' = v'
      case neg =>
        have hRf : R = false := by rw [← HRR.out, decide_eq_false hvv]; rfl
        have B1 : Hid ((!decide (likeV v v' = v')) = true) := by show _ = _; simp [hvv]
        clear hvv
        go_wp2_with (first
          | ((with_reducible refine wpList_exec (.agg Z) ?_ ?_ ?_); exact exec_load24 _ rfl (B + 2) 0 rfl Z hZs HW.out.bx.lies; kernel_rfl)
          | ((with_reducible refine wpList_exec (.agg Y) ?_ ?_ ?_); exact exec_load24 _ rfl (B + 1) 1 rfl Y hYs HY.out; kernel_rfl)
          | ((with_reducible refine wpList_exec (.bool true) ?_ ?_ ?_); exact exec_neq24' _ _ rfl Z Y rfl rfl (likeV v v') v' HZ.out.symm HX.out.2.symm true B1.out _; kernel_rfl))
        go_ret
        exact ⟨by first | rfl | (rw [hRf]; rfl), HW.out.g⟩
      have HRF : Hid (likeF ks ks' = R) := by show _ = _; rw [← HRR.out, decide_eq_true hvv]; rfl
      have B1 : Hid ((!decide (likeV v v' = v')) = false) := by show _ = _; simp [hvv]
      clear hvv
      by_cases hLL : L = L'
      case neg =>
        have hRf : R = false := by
          rw [← HRF.out]
          cases hq : likeF ks ks' with
          | false => rfl
          | true => exact absurd (likeF_len hq) (by rw [HL.out.1, HL.out.2]; exact hLL)
        have b3 : (!decide ((L : Int) = (L' : Int))) = true := by simp; omega
        have b4 : ¬ (L : Int) = (L' : Int) := by omega
        have b5 : ((L : Int) != (L' : Int)) = true := by simp; omega
        clear hLL
        go_wp2_with (first
          | ((with_reducible refine wpList_exec (.agg Z) ?_ ?_ ?_); exact exec_load24 _ rfl (B + 2) 0 rfl Z hZs HW.out.bx.lies; kernel_rfl)
          | ((with_reducible refine wpList_exec (.agg Y) ?_ ?_ ?_); exact exec_load24 _ rfl (B + 1) 1 rfl Y hYs HY.out; kernel_rfl)
          | ((with_reducible refine wpList_exec (.bool false) ?_ ?_ ?_); exact exec_neq24' _ _ rfl Z Y rfl rfl (likeV v v') v' HZ.out.symm HX.out.2.symm false B1.out _; kernel_rfl))
        go_ret
        exact ⟨by first | rfl | (rw [hRf]; rfl), HW.out.g⟩
      subst hLL
      go_upto_region 6 with (first
        | ((with_reducible refine wpList_exec (.agg Z) ?_ ?_ ?_); exact exec_load24 _ rfl (B + 2) 0 rfl Z hZs HW.out.bx.lies; kernel_rfl)
        | ((with_reducible refine wpList_exec (.agg Y) ?_ ?_ ?_); exact exec_load24 _ rfl (B + 1) 1 rfl Y hYs HY.out; kernel_rfl)
        | ((with_reducible refine wpList_exec (.bool false) ?_ ?_ ?_); exact exec_neq24' _ _ rfl Z Y rfl rfl (likeV v v') v' HZ.out.symm HX.out.2.symm false B1.out _; kernel_rfl))
      clear B1 HY n1 n2 HR HRR
      go_wp2_with fail
      go_loopw [6] (fun i wr => ∃ k : Nat, i = .int .i64 k ∧ k ≤ L ∧ wr.cell? ⟨B, 40, none⟩ = some (.slice a L cap) ∧ wr.cell? ⟨B + 1, 40, none⟩ = some (.slice a' L cap') ∧ Hid (likeF (ks.drop k) (ks'.drop k) = R ∧ LK w wr B c d Z)) (fun i _ => L - iOf i)
      case atStart => exact ⟨0, rfl, Nat.zero_le _, l1, l2, by rw [F.drop_zero, F.drop_zero]; exact HRF.out, HW.out⟩
      case round =>
        clear l1 l2 HW HRF
        obtain ⟨k, rfl, hk, q1, q2, HI⟩ := hrel
        by_cases hlt : k < L
        case neg =>
          have hltI : ¬ (k : Int) < (L : Int) := by omega
          have hRt : R = true := by rw [← HI.out.1, F.drop_all ks k (by rw [HL.out.1]; omega), F.drop_all ks' k (by rw [HL.out.2]; omega)]; rfl
          go_wp2_with fail
          go_ret
          exact ⟨by first | rfl | (rw [hRt]; rfl), HI.out.2.g⟩
        have hltI : (k : Int) < (L : Int) := by omega
        obtain ⟨g, o, cp, nm1, v1, m1, ks1, c1, hv1, hd1, hN1, hc1⟩ := HS.out.1.at (k := k) (by rw [HL.out.1]; exact hlt)
        obtain ⟨g', o', cp', nm2, v2, m2, ks2, c2, hv2, hd2, hN2, hc2⟩ := HS.out.2.at (k := k) (by rw [HL.out.2]; exact hlt)
        obtain rfl : a = some ⟨g, o, none⟩ := by injection hv1
        obtain rfl : a' = some ⟨g', o', none⟩ := by injection hv2
        have s1 : c1.size = 41 := by obtain ⟨kv1, rfl, _⟩ := hN1; exact nc_size ..
        have s2 : c2.size = 41 := by obtain ⟨kv1, rfl, _⟩ := hN2; exact nc_size ..
        obtain ⟨r1, hr1⟩ : ∃ r, (decide (nm1 = nm2) && (decide (likeV v1 v2 = v2) && likeF ks1 ks2)) = r := ⟨_, rfl⟩
        have hksz := F.kids_size hd1
        have hksz2 := F.kids_size hd2
        have CC : Hid (∀ W, G w W → Calls Try.prog 27 #[.agg c1, .agg c2] W fun e w' => e = .returned (.bool r1) ∧ G W w') := fun W hW => by
          rw [← hr1]
          have h1 := HOK.out.1
          have h2 := HOK.out.2.1
          have h3 := HOK.out.2.2
          unfold F.okL at h1 h2
          exact HIH.out ks1 (by omega) nm1 nm2 v1 v2 m1 m2 ks2 c1 c2 W (hN1.below hW) (hN2.below hW) (by unfold F.okL; omega) (by unfold F.okL; omega)
        have HC1 := hid (fun W (hW : G w W) => (⟨Lies.below hc1 hW, Lies.below hc2 hW⟩ : Lies W g (o + k * 41) c1 ∧ Lies W g' (o' + k * 41) c2))
        have HE : Hid ((r1 && likeF (ks.drop (k + 1)) (ks'.drop (k + 1))) = R) := by
          show _ = _
          rw [← HI.out.1, hd1, hd2, likeF, ← hr1]
          simp only [Bool.and_assoc]
        have HI2 := hid HI.out.2
        clear hd1 hd2 hN1 hN2 hc1 hc2 hv1 hv2 hksz hksz2 hr1 HI
        go_upto_region 9 with fail
        refine wp_region_G ?_
        replace q1 := (G.drew wr).cell q1
        replace q2 := (G.drew wr).cell q2
        replace HI2 := hid (HI2.out.grow (G.drew wr))
        generalize wr.drew = wd at *
        refine takeG 0 47 (.pointer (some ⟨B, 40, none⟩)) rfl rfl (by kernel_rfl) (by kernel_rfl) (by kernel_rfl) (fun _ _ _ h => h) (by kernel_rfl) (fun wz hz => ?_) ?_
        · go_simp
        try simp only [Act.put, List.setIfInBounds_toArray, List.set_cons_zero, List.set_cons_succ]
        refine takeG 1 48 (.slice (some ⟨g, o, none⟩) L cap) rfl rfl (by kernel_rfl) (by kernel_rfl) (by kernel_rfl) (fun _ _ _ h => h) (by kernel_rfl) (fun wz hz => ?_) ?_
        · have y0 := hz.cell q1; go_simp
        try simp only [Act.put, List.setIfInBounds_toArray, List.set_cons_zero, List.set_cons_succ]
        refine takeG 2 49 (.int .i64 k) rfl rfl (by kernel_rfl) (by kernel_rfl) (by kernel_rfl) (fun _ _ _ h => h) (by kernel_rfl) (fun wz hz => ?_) ?_
        · rfl
        try simp only [Act.put, List.setIfInBounds_toArray, List.set_cons_zero, List.set_cons_succ]
        refine takeG 3 50 (.pointer (some ⟨g, o + k * 41, none⟩)) rfl rfl (by kernel_rfl) (by kernel_rfl) (by kernel_rfl) (fun _ _ _ h => h) (by kernel_rfl) (fun wz hz => ?_) ?_
        · go_simp
        try simp only [Act.put, List.setIfInBounds_toArray, List.set_cons_zero, List.set_cons_succ]
        refine takeG 4 51 (.agg c1) rfl rfl (by kernel_rfl) (by kernel_rfl) (by kernel_rfl) (fun _ _ _ h => h) (by kernel_rfl) (fun wz hz => ?_) ?_
        · exact exec_load30 _ rfl g (o + k * 41) rfl c1 s1 (HC1.out wz (HI2.out.g.trans hz)).1
        try simp only [Act.put, List.setIfInBounds_toArray, List.set_cons_zero, List.set_cons_succ]
        refine takeG 5 52 (.pointer (some ⟨B + 1, 40, none⟩)) rfl rfl (by kernel_rfl) (by kernel_rfl) (by kernel_rfl) (fun _ _ _ h => h) (by kernel_rfl) (fun wz hz => ?_) ?_
        · go_simp
        try simp only [Act.put, List.setIfInBounds_toArray, List.set_cons_zero, List.set_cons_succ]
        refine takeG 6 53 (.slice (some ⟨g', o', none⟩) L cap') rfl rfl (by kernel_rfl) (by kernel_rfl) (by kernel_rfl) (fun _ _ _ h => h) (by kernel_rfl) (fun wz hz => ?_) ?_
        · have y0 := hz.cell q2; go_simp
        try simp only [Act.put, List.setIfInBounds_toArray, List.set_cons_zero, List.set_cons_succ]
        refine takeG 7 54 (.int .i64 k) rfl rfl (by kernel_rfl) (by kernel_rfl) (by kernel_rfl) (fun _ _ _ h => h) (by kernel_rfl) (fun wz hz => ?_) ?_
        · rfl
        try simp only [Act.put, List.setIfInBounds_toArray, List.set_cons_zero, List.set_cons_succ]
        refine takeG 8 55 (.pointer (some ⟨g', o' + k * 41, none⟩)) rfl rfl (by kernel_rfl) (by kernel_rfl) (by kernel_rfl) (fun _ _ _ h => h) (by kernel_rfl) (fun wz hz => ?_) ?_
        · go_simp
        try simp only [Act.put, List.setIfInBounds_toArray, List.set_cons_zero, List.set_cons_succ]
        refine takeG 9 56 (.agg c2) rfl rfl (by kernel_rfl) (by kernel_rfl) (by kernel_rfl) (fun _ _ _ h => h) (by kernel_rfl) (fun wz hz => ?_) ?_
        · exact exec_load30 _ rfl g' (o' + k * 41) rfl c2 s2 (HC1.out wz (HI2.out.g.trans hz)).2
        try simp only [Act.put, List.setIfInBounds_toArray, List.set_cons_zero, List.set_cons_succ]
        refine callG 10 57 (.bool r1) 27 #[.agg c1, .agg c2] rfl rfl (by kernel_rfl) (by kernel_rfl) (by kernel_rfl) (fun _ _ _ h => h) (by kernel_rfl) (fun wz => by go_simp) (fun wz hz => ?_) ?_
        · exact CC.out wz (HI2.out.g.trans hz)
        try simp only [Act.put, List.setIfInBounds_toArray, List.set_cons_zero, List.set_cons_succ]
        refine takeG 11 58 (.bool (!r1)) rfl rfl (by kernel_rfl) (by kernel_rfl) (by kernel_rfl) (fun _ _ _ h => h) (by kernel_rfl) (fun wz hz => ?_) ?_
        · go_simp
        try simp only [Act.put, List.setIfInBounds_toArray, List.set_cons_zero, List.set_cons_succ]
        refine doneG (by kernel_rfl) (fun w9 hg9 => ?_)
        have HF := hid (HI2.out.grow hg9)
        replace q1 := hg9.cell q1
        replace q2 := hg9.cell q2
        clear hg9 HI2
        cases r1 with
        | false =>
          have hRf : R = false := by rw [← HE.out]; rfl
          go_wp2_with fail
          go_ret
          exact ⟨by first | rfl | (rw [hRf]; rfl), HF.out.g⟩
        | true =>
          go_wp2_with fail
          go_roundw
          case rel => exact ⟨k + 1, by go_num, by omega, q1, q2, by have := HE.out; rw [Bool.true_and] at this; exact this, HF.out⟩
          case measure => simp; omega
end Go.Proofs.Ytjkbhfkeagfhbaa
