import Derived.Test.YtlelgboklkmkdaaDLawR
import Derived.Test.YtlelgboklkmkdaaDCl2
import Derived.Test.YtlelgboklkmkdaaDRefO
import Derived.Test.YtlelgboklkmkdaaDFit
set_option maxRecDepth 100000
set_option maxHeartbeats 8000000
/-
  twineref4.Plain, twinelaw4.sameNode by contract.
-/
namespace Go.Proofs.Ytlelgboklkmkdaa
open Go.RowKit
theorem HasNP.facts {w : World} {P : Nat → Prop} {c : Array Value} {nm : ByteArray} {v : Vd} {m : Md} {ks : F} (h : HasNP w P c nm v m ks) : c.size = 41 ∧ c.all (·.oneCell') = true := by
  obtain ⟨kv2, rfl, hk2⟩ := h
  obtain ⟨a2, cap2, rfl, _⟩ := hk2
  exact ⟨nc_size .., nc_one _ _ _ _ rfl⟩
theorem plain_any (nm : ByteArray) (v : Vd) (m : Md) (ks : F) (c : Array Value) (w : World) (hN : HasN w c nm v m ks) (hw : ks.weight ≤ 100000) :
    Calls Try.prog 13 #[.agg c] w fun e w' => ∃ c', e = .returned (.agg c') ∧ HasNP w' (New w w') c' ⟨#[]⟩ v m ks ∧ G w w' := by
  have hV1 := (Var.new w c).grow (G.alloc (w.alloc (.cells c 30)) (.cells z30 30))
  have hV2 := Var.new (w.alloc (.cells c 30)) z30
  rw [World.size_alloc] at hV2
  have hG : G w ((w.alloc (.cells c 30)).alloc (.cells z30 30)) := (G.alloc _ _).trans (G.alloc _ _)
  have CC := copy_any (ks.size + 1) ks (Nat.lt_succ_self _) nm v m c _ (hN.below hG) hw
  have hsz : c.size = 41 := by obtain ⟨_, rfl, _⟩ := hN; exact nc_size ..
  have HV : Hid (Var ((w.alloc (.cells c 30)).alloc (.cells z30 30)) w.heap.size c ∧ Var ((w.alloc (.cells c 30)).alloc (.cells z30 30)) (w.heap.size + 1) z30 ∧ G w ((w.alloc (.cells c 30)).alloc (.cells z30 30)) ∧ ((w.alloc (.cells c 30)).alloc (.cells z30 30)).heap.size = w.heap.size + 2) := ⟨hV1, hV2, hG, by simp⟩
  clear hV1 hV2 hN hG
  go_enter Try.func13, Try.ntmps13
  go_upto_region 1 with (with_reducible refine wpList_execW (.pointer (some ⟨(w.alloc (.cells c 30)).heap.size, 0, none⟩)) ((w.alloc (.cells c 30)).alloc (.cells z30 30)) ?_ ?_ ?_; exact exec_alloc30 rfl _; kernel_rfl)
  try simp only [Act.put, List.setIfInBounds_toArray, List.set_cons_zero, List.set_cons_succ, World.size_alloc]
  generalize (w.alloc (.cells c 30)).alloc (.cells z30 30) = w1 at *
  obtain ⟨B, hB⟩ : ∃ B, w.heap.size = B := ⟨_, rfl⟩
  rw [hB] at HV ⊢
  have HB : Hid (w.heap.size = B) := hB
  clear hB
  go_upto_region 2 with (first
    | (with_reducible refine wpList_exec (.agg c) ?_ ?_ ?_; exact exec_load30 _ rfl B 0 rfl c hsz HV.out.1.lies; kernel_rfl)
    | (go_at_call 26; refine CC.mono ?_; rintro e w2 ⟨c2, rfl, hn2, hg2⟩; have HN2 : Hid (HasNP w2 (New w1 w2) c2 nm v m ks ∧ G w1 w2 ∧ Var w2 B c ∧ Var w2 (B + 1) z30) := ⟨hn2, hg2, HV.out.1.grow hg2, HV.out.2.1.grow hg2⟩; clear CC hn2 hg2)
    | (with_reducible refine wpList_skipW (w2.setRow B c2) ?_ ?_ ?_; exact exec_store30 _ _ rfl B c2 c rfl rfl _ HN2.out.2.2.1 HN2.out.1.facts.1 hsz HN2.out.1.facts.2; kernel_rfl))
  have hv3 : Var (w2.setRow B c2) B c2 := HN2.out.2.2.1.set
  have hv4 : Var (w2.setRow B c2) (B + 1) z30 := (setRow_other _ B (B + 1) _ (by omega)).trans HN2.out.2.2.2
  have ho3 : ∀ b, b ≠ B → (w2.setRow B c2).heap[b]? = w2.heap[b]? := fun b hb => setRow_other _ B b _ hb
  have hs3 : (w2.setRow B c2).heap.size = w2.heap.size := by simp
  have ht3 : (w2.setRow B c2).os = w2.os ∧ (w2.setRow B c2).tape = w2.tape ∧ (w2.setRow B c2).output = w2.output := ⟨rfl, rfl, rfl⟩
  obtain ⟨kv, hkv, hks⟩ := HN2.out.1
  obtain ⟨u0, hc0⟩ := cell_of_var hv3 0 (by rw [HN2.out.1.facts.1]; omega)
  have hfz := var_frozen hv3 0
  have HV3 : Hid (Var ((w2.setRow B c2).setCell ⟨B, 0, none⟩ (.string ⟨#[]⟩)) B (nc ⟨#[]⟩ v m kv) ∧ Var ((w2.setRow B c2).setCell ⟨B, 0, none⟩ (.string ⟨#[]⟩)) (B + 1) z30) := by
    refine ⟨?_, (Below.heap_setCell _ _ _ _ (by show B + 1 ≠ B; omega)).trans hv4⟩
    have := hv3.setCell 0 (.string ⟨#[]⟩)
    rw [hkv, nc_nset] at this
    rw [hkv]
    exact this
  have HO : Hid ((∀ b, b ≠ B → (w2.setRow B c2).heap[b]? = w2.heap[b]?) ∧ (w2.setRow B c2).heap.size = w2.heap.size ∧ (w2.setRow B c2).os = w2.os ∧ (w2.setRow B c2).tape = w2.tape ∧ (w2.setRow B c2).output = w2.output) := ⟨ho3, hs3, ht3⟩
  have HKS : Hid (HasSP w2 (New w1 w2) kv ks) := hks
  have hone : (nc ⟨#[]⟩ v m kv).all (·.oneCell') = true := by obtain ⟨a2, cap2, rfl, _⟩ := hks; exact nc_one _ _ _ _ rfl
  have HON := hid hone
  clear hv3 hv4 ho3 hs3 ht3 hkv hks hone
  generalize w2.setRow B c2 = w3 at *
  go_wp2_with (first
    | (with_reducible refine wpList_exec (.agg (nc ⟨#[]⟩ v m kv)) ?_ ?_ ?_; exact exec_load30 _ rfl B 0 rfl _ (nc_size ..) HV3.out.1.lies; kernel_rfl)
    | (with_reducible refine wpList_skipW ((w3.setCell ⟨B, 0, none⟩ (.string ⟨#[]⟩)).setRow (B + 1) (nc ⟨#[]⟩ v m kv)) ?_ ?_ ?_; exact exec_store30 _ _ rfl (B + 1) _ z30 rfl rfl _ HV3.out.2 (nc_size ..) z30_size HON.out; kernel_rfl))
  refine bodyPost_ret (results_cell_row (P := Try.prog) (p := 2) (ty := 30) rfl _ _ (B + 1) 30 (nc ⟨#[]⟩ v m kv) (0, 0) _ rfl HV3.out.2.set under30 rfl (by rw [size30, nc_size])) rfl ?_
  have hoth : ∀ b, b ≠ B → b ≠ B + 1 → ((w3.setCell ⟨B, 0, none⟩ (.string ⟨#[]⟩)).setRow (B + 1) (nc ⟨#[]⟩ v m kv)).heap[b]? = w2.heap[b]? := fun b h1 h2 =>
    ((setRow_other _ (B + 1) b _ h2).trans (Below.heap_setCell _ _ _ b (by show b ≠ B; exact h1))).trans (HO.out.1 b h1)
  have hsw := HV.out.2.2.2
  have hs2 := HN2.out.2.1.size
  have hs3 := HO.out.2.1
  have hwB := HB.out
  refine ⟨_, rfl, ⟨_, rfl, HKS.out.keep fun b hb => ⟨hoth b (by have := hb.1; omega) (by have := hb.1; omega), by have := hb.1; omega, by have := hb.2; simp; omega⟩⟩, ?_⟩
  refine Below.trans (B := w.heap.size) (HV.out.2.2.1.trans HN2.out.2.1) ⟨HO.out.2.2.1, HO.out.2.2.2.1, HO.out.2.2.2.2, by simp; omega, fun b hb => hoth b (by omega) (by omega)⟩
end Go.Proofs.Ytlelgboklkmkdaa
/-
  DiffOf: the law's walk.
-/
namespace Go.Proofs.Ytlelgboklkmkdaa
open Go.RowKit Ch
theorem flatK_small : ∀ (f : F) (p : ByteArray) (e : Et), e ∈ flatK p f → e.p.size ≤ p.size + f.weight
  | .nil, _, _, h => by cases h
  | .cons nm v m k r, p, e, h => by
    have hb := belowS_size p nm
    simp only [flatK, List.cons_append, List.mem_cons, List.mem_append] at h
    simp only [F.weight]
    rcases h with rfl | h | h
    · show (belowS p nm).size ≤ _; omega
    · have := flatK_small k _ e h; omega
    · have := flatK_small r p e h; omega
theorem flatA_small {v : Vd} {m : Md} {ks : F} (h : ks.weight ≤ 6000) : ∀ e ∈ flatA v m ks, e.p.size ≤ 1048576 := fun e he => by
  rcases List.mem_cons.1 he with rfl | he
  · show (0 : Nat) ≤ _; omega
  · have h1 := flatK_small ks ⟨#[]⟩ e he
    have h2 : (⟨#[]⟩ : ByteArray).size = 0 := rfl
    omega
/-- all that the law holds behind 'f := diff.Of(t, u)' -/
structure LW (w : World) (B T Tf Bt : Nat) (c1 c2 : Array Value) (nm1 nm2 : ByteArray) (x y : Kid) (ao : Option Addr) (cv n : Nat) (W : World) : Prop where
  g : Below w.heap.size w W
  v1 : Var W B c1
  v2 : Var W (B + 1) c2
  n1 : HasN W c1 nm1 x.v x.m x.k.flat
  n2 : HasN W c2 nm2 y.v y.m y.k.flat
  sx : SiAt W (some x)
  sy : SiAt W (some y)
  bv : Bx W T 35 (.slice ao n cv)
  hv : HasA W (.slice ao n cv) (difs (some x) (some y))
  bf : Bx W Tf 38 (.func (.func 22) #[] #[.pointer (some ⟨Bt, 0, none⟩), .pointer (some ⟨Bt + 1, 0, none⟩)])
  bt : Bx W Bt 32 (siP (some x))
  bu : Bx W (Bt + 1) 32 (siP (some y))
theorem LW.up {w : World} {B T Tf Bt : Nat} {c1 c2 : Array Value} {nm1 nm2 : ByteArray} {x y : Kid} {ao : Option Addr} {cv n : Nat} {W W' : World} (h : LW w B T Tf Bt c1 c2 nm1 nm2 x y ao cv n W) (hb : Below W.heap.size W W') : LW w B T Tf Bt c1 c2 nm1 nm2 x y ao cv n W' :=
  ⟨Below.up h.g hb, h.v1.grow hb, h.v2.grow hb, h.n1.below hb, h.n2.below hb, h.sx.grow hb, h.sy.grow hb, (hb.block _ h.bv.lt).trans h.bv, h.hv.below hb, (hb.block _ h.bf.lt).trans h.bf, (hb.block _ h.bt.lt).trans h.bt, (hb.block _ h.bu.lt).trans h.bu⟩
/-- its fixed sizes -/
structure LZ (x y : Kid) (n : Nat) : Prop where
  hn : (difs (some x) (some y)).length = n
  hl : siZ (some x) + siZ (some y) ≤ 10000
  hw : siW (some x) + siW (some y) ≤ 1000000
  hT : (difs (some x) (some y)).length ≤ 50000
theorem LW.given {w : World} {B T Tf Bt : Nat} {c1 c2 : Array Value} {nm1 nm2 : ByteArray} {x y : Kid} {ao : Option Addr} {cv n : Nat} {W : World} (h : LW w B T Tf Bt c1 c2 nm1 nm2 x y ao cv n W) (hz : LZ x y n) (s : Int) :
    Calls Try.prog 8 #[.func (.func 22) #[] #[.pointer (some ⟨Bt, 0, none⟩), .pointer (some ⟨Bt + 1, 0, none⟩)], .int .i64 s] W fun e W' => ∃ u, e = .returned (.tuple #[u, .bool true]) ∧ OwnsR W' W.heap.size u (gvR s (difs (some x) (some y))) ∧ Below W.heap.size W W' :=
  given_any (some x) (some y) Bt (Bt + 1) s W h.sx h.sy h.bt h.bu hz.hl hz.hw hz.hT
theorem difs_len {x y : Kid} : (difs (some x) (some y)).length ≤ x.k.flat.size + y.k.flat.size + 2 := by
  have h : ∀ (N : Nat) (L : List By) (f g : F), (DO.wk N L f g).length ≤ f.size + g.size := by
    intro N
    induction N with
    | zero => intro L f g; simp [DO.wk]
    | succ N ih =>
      intro L f g
      have d1 : ∀ (L : List By) (o n : Vd), (DO.df L o n).length ≤ 1 := fun L o n => by unfold DO.df; split <;> simp
      cases f with
      | nil => cases g with
        | nil => simp [DO.wk]
        | cons nm v m k r =>
          simp only [DO.wk, List.length_append, F.size]
          have := d1 (L ++ [tl nm]) DO.vz v
          have := ih (L ++ [tl nm]) .nil k
          have := ih L .nil r
          simp only [F.size] at *
          omega
      | cons nm v m k r => cases g with
        | nil =>
          simp only [DO.wk, List.length_append, F.size]
          have := d1 (L ++ [tl nm]) v DO.vz
          have := ih (L ++ [tl nm]) k .nil
          have := ih L r .nil
          simp only [F.size] at *
          omega
        | cons nm2 v2 m2 k2 r2 =>
          simp only [DO.wk]
          split
          · simp only [List.length_append, F.size]
            have := d1 (L ++ [tl nm]) v DO.vz
            have := ih (L ++ [tl nm]) k .nil
            have := ih L r (.cons nm2 v2 m2 k2 r2)
            simp only [F.size] at *
            omega
          · split
            · simp only [List.length_append, F.size]
              have := d1 (L ++ [tl nm2]) DO.vz v2
              have := ih (L ++ [tl nm2]) .nil k2
              have := ih L (.cons nm v m k r) r2
              simp only [F.size] at *
              omega
            · simp only [List.length_append, F.size]
              have := d1 (L ++ [tl nm]) v v2
              have := ih (L ++ [tl nm]) k k2
              have := ih L r r2
              omega
  unfold difs dl
  rw [List.length_map, List.length_append]
  have h1 := h ((siF (some x)).size + (siF (some y)).size + 1) [] (siF (some x)) (siF (some y))
  have h2 : (DO.df [] (siV (some x)) (siV (some y))).length ≤ 1 := by unfold DO.df; split <;> simp
  simp only [siF] at *
  omega
theorem lz_of {x y : Kid} (h1 : x.k.flat.weight ≤ 6000) (h2 : y.k.flat.weight ≤ 6000) (hs : x.k.flat.size + y.k.flat.size ≤ 9990) : LZ x y (difs (some x) (some y)).length := by
  have := difs_len (x := x) (y := y)
  exact ⟨rfl, by simp only [siZ]; omega, by simp only [siW, siF]; omega, by omega⟩
theorem run_store_func {P : Program} {w : World} {a : Addr} {m : Mode} (f : Fn) (x y : Array Value) : (store a (.func f x y) m).run P w = stored P w a (.func f x y) m := run_store P w a _ m rfl
attribute [local go_sem] run_store_func
theorem good_small : ∀ f : F, goodN f → 2 * f.size ≤ f.weight
  | .nil, _ => Nat.le_refl _
  | .cons nm v m k r, ⟨h1, h2, h3⟩ => by
    have := good_small k h2
    have := good_small r h3
    have h4 : 1 ≤ nm.size := by
      unfold nameB at h1
      simp only [decide_eq_true_eq] at h1
      have := h1.1
      rwa [tl_len] at this
    simp only [F.size, F.weight]
    omega
theorem gv_same (s : Int) (T : List Cd) (h : ¬ (0 ≤ s ∧ s < (T.length : Int))) : gvR s T = T := by
  unfold gvR
  split
  · rfl
  · rw [List.take_of_length_le (by omega)]
theorem gv_cut (s : Int) (T : List Cd) (h : 0 ≤ s ∧ s < (T.length : Int)) : gvR s T = T.take s.toNat ∧ (gvR s T).length = s.toNat := by
  unfold gvR
  rw [if_neg (by omega)]
  refine ⟨rfl, ?_⟩
  rw [List.length_take]
  omega
theorem has_cut {w : World} {g o n c : Nat} {T : List Cd} (h : HasA w (.slice (some ⟨g, o, none⟩) n c) T) (hn : T.length = n) (k : Nat) (hk : k ≤ n) : HasA w (.slice (some ⟨g, o, none⟩) k c) (T.take k) := by
  rcases h with ⟨e, _⟩ | ⟨g', o', c', e, hc, hat⟩
  · cases e
  · injection e with e1 e2 e3
    injection e1 with e1
    injection e1 with e1 e4
    subst e1 e3 e4
    refine .inr ⟨g, o, c, ?_, ?_, fun i x hi => hat i x ?_⟩
    · rw [List.length_take, Nat.min_eq_left (by omega)]
    · rw [List.length_take]; omega
    · rw [List.getElem?_take] at hi
      split at hi
      · exact hi
      · cases hi
theorem diffOf_walk (c1 c2 : Array Value) (nm1 nm2 : ByteArray) (v1 v2 : Vd) (m1 m2 : Md) (ks1 ks2 : F) (stop : Int) (w : World) (hN1 : HasN w c1 nm1 v1 m1 ks1) (hN2 : HasN w c2 nm2 v2 m2 ks2)
    (hnm1 : nm1.size ≤ 9223372036854775807) (hok1 : ks1.ok) (hlen1 : ks1.len ≤ 9223372036854775807) (hnm2 : nm2.size ≤ 9223372036854775807) (hok2 : ks2.ok) (hlen2 : ks2.len ≤ 9223372036854775807) :
    Calls Try.prog 3 #[.agg c1, .agg c2, .int .i64 stop] w fun e w' => e = .returned (.bool true) ∧ G w w' := by
  have cs1 : c1.size = 41 := by obtain ⟨_, rfl, _⟩ := hN1; exact nc_size ..
  have cs2 : c2.size = 41 := by obtain ⟨_, rfl, _⟩ := hN2; exact nc_size ..
  obtain ⟨B, hB⟩ : ∃ B, w.heap.size = B := ⟨_, rfl⟩
  obtain ⟨W1, hW1⟩ : ∃ W1, (w.alloc (.cells c1 30)).alloc (.cells c2 30) = W1 := ⟨_, rfl⟩
  have g1 : Below w.heap.size w W1 := by rw [← hW1]; exact ((Below.refl _ w).alloc (Nat.le_refl _) _).alloc (by simp) _
  have r1 : Var W1 B c1 := by rw [← hW1, ← hB]; exact (heap_alloc_old _ _ (by simp)).trans (heap_alloc_new _ _)
  have r2 : Var W1 (B + 1) c2 := by
    rw [← hW1, ← hB]
    have := heap_alloc_new (w.alloc (.cells c1 30)) (.cells c2 30)
    rwa [World.size_alloc] at this
  have HN := hid (And.intro (hN1.below g1) (And.intro (hN2.below g1) (And.intro r1 (And.intro r2 g1))))
  have C1 := hid (fits_any c1 nm1 v1 m1 ks1 W1 (hN1.below g1) hnm1 hok1 hlen1)
  have HO := hid (And.intro hnm2 (And.intro hok2 hlen2))
  clear hN1 hN2 g1 r1 r2 hnm1 hok1 hlen1 hnm2 hok2 hlen2
  go_enter Try.func3, Try.ntmps3
  go_wp2_with ((with_reducible refine wpList_exec (.agg c1) ?_ ?_ ?_); exact exec_load30 _ rfl B 0 rfl c1 cs1 HN.out.2.2.1.lies; kernel_rfl)
  refine C1.out.mono ?_
  rintro e W2 ⟨b1, rfl, h1, g2⟩
  have H2 := hid (And.intro h1 g2)
  clear h1 g2 C1
  cases b1
  · go_wp2
    go_ret
    exact ⟨rfl, Below.up HN.out.2.2.2.2 H2.out.2⟩
  have C2 := hid (fits_any c2 nm2 v2 m2 ks2 W2 (HN.out.2.1.below H2.out.2) HO.out.1 HO.out.2.1 HO.out.2.2)
  go_wp2_with ((with_reducible refine wpList_exec (.agg c2) ?_ ?_ ?_); exact exec_load30 _ rfl (B + 1) 0 rfl c2 cs2 (HN.out.2.2.2.1.grow H2.out.2).lies; kernel_rfl)
  refine C2.out.mono ?_
  rintro e W3 ⟨b2, rfl, h2, g3⟩
  have H3 := hid (And.intro h2 g3)
  clear h2 g3 C2
  cases b2
  · go_wp2
    go_ret
    exact ⟨rfl, Below.up (Below.up HN.out.2.2.2.2 H2.out.2) H3.out.2⟩
  obtain ⟨hw1, he1⟩ := H2.out.1 (by first | rfl | trivial)
  obtain ⟨hw2, he2⟩ := H3.out.1 (by first | rfl | trivial)
  have b13 := Below.up H2.out.2 H3.out.2
  replace HN := hid (⟨HN.out.1.below b13, HN.out.2.1.below b13, HN.out.2.2.1.grow b13, HN.out.2.2.2.1.grow b13, Below.up HN.out.2.2.2.2 b13⟩ : HasN W3 c1 nm1 v1 m1 ks1 ∧ HasN W3 c2 nm2 v2 m2 ks2 ∧ Var W3 B c1 ∧ Var W3 (B + 1) c2 ∧ Below w.heap.size w W3)
  clear H2 H3 b13 HO
  have C3 := hid (grown5_any c1 nm1 v1 m1 ks1 W3 HN.out.1 hw1 he1)
  go_wp2_with ((with_reducible refine wpList_exec (.agg c1) ?_ ?_ ?_); exact exec_load30 _ rfl B 0 rfl c1 cs1 HN.out.2.2.1.lies; kernel_rfl)
  refine C3.out.mono ?_
  rintro e W4 ⟨p1, k1, rfl, T1, f1, pl1, tr1, g4⟩
  replace HN := hid (⟨HN.out.1.below g4, HN.out.2.1.below g4, HN.out.2.2.1.grow g4, HN.out.2.2.2.1.grow g4, Below.up HN.out.2.2.2.2 g4⟩ : HasN W4 c1 nm1 v1 m1 ks1 ∧ HasN W4 c2 nm2 v2 m2 ks2 ∧ Var W4 B c1 ∧ Var W4 (B + 1) c2 ∧ Below w.heap.size w W4)
  have HT1 := hid (And.intro T1 (And.intro pl1 tr1))
  clear T1 pl1 tr1 g4 C3
  have C4 := hid (grown5_any c2 nm2 v2 m2 ks2 W4 HN.out.2.1 hw2 he2)
  go_wp2_with ((with_reducible refine wpList_exec (.agg c2) ?_ ?_ ?_); exact exec_load30 _ rfl (B + 1) 0 rfl c2 cs2 HN.out.2.2.2.1.lies; kernel_rfl)
  refine C4.out.mono ?_
  rintro e W5 ⟨p2, k2, rfl, T2, f2, pl2, tr2, g5⟩
  subst f1 f2
  obtain ⟨x, hx⟩ : ∃ x : Kid, x = ⟨⟨#[]⟩, p1, v1, m1, k1⟩ := ⟨_, rfl⟩
  obtain ⟨y, hy⟩ : ∃ y : Kid, y = ⟨⟨#[]⟩, p2, v2, m2, k2⟩ := ⟨_, rfl⟩
  replace HN := hid (⟨HN.out.1.below g5, HN.out.2.1.below g5, HN.out.2.2.1.grow g5, HN.out.2.2.2.1.grow g5, Below.up HN.out.2.2.2.2 g5⟩ : HasN W5 c1 nm1 v1 m1 k1.flat ∧ HasN W5 c2 nm2 v2 m2 k2.flat ∧ Var W5 B c1 ∧ Var W5 (B + 1) c2 ∧ Below w.heap.size w W5)
  have HXY : Hid (SiAt W5 (some x) ∧ SiAt W5 (some y)) := ⟨fun q e => by cases e; subst hx; exact ⟨HT1.out.1.grow g5, K.plain_grow g5 HT1.out.2.1, HT1.out.2.2.grow g5⟩, fun q e => by cases e; subst hy; exact ⟨T2, pl2, tr2⟩⟩
  have hc1 := check_rise he1
  have hc2 := check_rise he2
  have C6 := refOf_any c1 c2 nm1 nm2 v1 v2 m1 m2 k1.flat k2.flat W5 HN.out.1 HN.out.2.1 hw1 hw2 (flatA_small hw1) (flatA_small hw2)
  rw [rs_difs p1 p2 hc1 hc2, ← hx, ← hy] at C6
  have HZ : Hid (LZ x y (difs (some x) (some y)).length) := lz_of (by rw [hx]; exact hw1) (by rw [hy]; exact hw2) (by have := good_small k1.flat hc1.2; have := good_small k2.flat hc2.2; subst hx hy; simp only; omega)
  have HC6 := hid C6
  have px : siP (some x) = .pointer (some ⟨p1, 0, none⟩) := by rw [hx]; rfl
  have py : siP (some y) = .pointer (some ⟨p2, 0, none⟩) := by rw [hy]; rfl
  have HQ : Hid (HasN W5 c1 nm1 x.v x.m x.k.flat ∧ HasN W5 c2 nm2 y.v y.m y.k.flat ∧ x.k.flat.weight ≤ 6000 ∧ y.k.flat.weight ≤ 6000 ∧ x.p = p1 ∧ y.p = p2) := by subst hx hy; exact ⟨HN.out.1, HN.out.2.1, hw1, hw2, rfl, rfl⟩
  clear T2 pl2 tr2 g5 C4 HT1 hc1 hc2 C6 hx hy hw1 hw2 he1 he2
  obtain ⟨n, hn⟩ : ∃ n, (difs (some x) (some y)).length = n := ⟨_, rfl⟩
  rw [hn] at HZ
  go_wp2_with (first
    | ((with_reducible refine wpList_exec (.agg c1) ?_ ?_ ?_); exact exec_load30 _ rfl B 0 rfl c1 cs1 HN.out.2.2.1.lies; kernel_rfl)
    | ((with_reducible refine wpList_exec (.agg c2) ?_ ?_ ?_); exact exec_load30 _ rfl (B + 1) 0 rfl c2 cs2 HN.out.2.2.2.1.lies; kernel_rfl))
  refine HC6.out.mono ?_
  rintro e W6 ⟨vw, rfl, ow, g6⟩
  obtain ⟨ao, cv, hvw⟩ := ow.form
  rw [show (dl [] (some x) (some y)).map toC = difs (some x) (some y) from rfl] at ow hvw
  rw [hn] at hvw
  subst hvw
  obtain ⟨T, hT⟩ : ∃ T, W6.heap.size = T := ⟨_, rfl⟩
  obtain ⟨W7, hW7⟩ : ∃ W7, W6.alloc (.cells #[.slice none 0 0] 35) = W7 := ⟨_, rfl⟩
  have b7 : Bx W7 T 35 (.slice none 0 0) := by rw [← hW7, ← hT]; exact heap_alloc_new _ _
  have c7 := b7.cell
  have c7f := b7.frozen
  obtain ⟨W8, hW8⟩ : ∃ W8, W7.setCell ⟨T, 0, none⟩ (.slice ao n cv) = W8 := ⟨_, rfl⟩
  have b8 : Bx W8 T 35 (.slice ao n cv) := by rw [← hW8]; exact b7.set _
  have c8 := b8.cell
  have g68 : Below W6.heap.size W6 W8 := by rw [← hW8, ← hW7]; exact ((Below.refl _ W6).alloc (Nat.le_refl _) _).setCell (p := ⟨T, 0, none⟩) (by show _ ≤ T; omega) _
  have H8 : Hid (Below W5.heap.size W5 W8 ∧ Bx W8 T 35 (.slice ao n cv) ∧ HasA W8 (.slice ao n cv) (difs (some x) (some y))) := ⟨Below.up g6 g68, b8, (HasQ.has (OwnsR.up ow g68).hasq)⟩
  have HNN := hid hn
  clear ow g6 g68 b7 b8 hn HC6
  go_upto_region 9 with fail
  obtain ⟨bb, hbb⟩ : ∃ bb, decide (0 ≤ stop ∧ stop < (n : Int)) = bb := ⟨_, rfl⟩
  go_cut [56] (fun s56 wx => s56 = .bool bb ∧ wx = W8)
  case first =>
    by_cases h0 : 0 ≤ stop
    · by_cases h1 : stop < (n : Int)
      · have : bb = true := by rw [← hbb]; simp [h0, h1]
        subst this
        clear hbb
        go_wp2
        go_meet
        exact ⟨rfl, rfl⟩
      · have : bb = false := by rw [← hbb]; simp [h1]
        subst this
        clear hbb
        go_wp2
        go_meet
        exact ⟨rfl, rfl⟩
    · have : bb = false := by rw [← hbb]; simp [h0]
      subst this
      clear hbb
      go_wp2
      go_meet
      exact ⟨rfl, rfl⟩
  case rest =>
  obtain ⟨rfl, rfl⟩ := hcut
  go_upto_if 56 with fail
  go_cut [12] (fun s12 wx => ∃ bo ns cs, s12 = .slice bo ns cs ∧ wx = wc ∧ Hid (HasA wc (.slice bo ns cs) (gvR stop (difs (some x) (some y))) ∧ (gvR stop (difs (some x) (some y))).length = ns))
  case first =>
    cases bb
    · have hno : ¬ (0 ≤ stop ∧ stop < (n : Int)) := by simpa using hbb
      have HF : Hid (HasA wc (.slice ao n cv) (gvR stop (difs (some x) (some y))) ∧ (gvR stop (difs (some x) (some y))).length = n) := by
        rw [gv_same stop _ (by rw [HNN.out]; exact hno)]
        exact ⟨H8.out.2.2, HNN.out⟩
      clear hno hbb
      go_wp2
      go_meet
      exact ⟨_, _, _, rfl, rfl, HF.out⟩
    · have hyes : 0 ≤ stop ∧ stop < (n : Int) := by simpa using hbb
      obtain ⟨st, hst⟩ : ∃ st : Nat, stop = (st : Int) := ⟨stop.toNat, by omega⟩
      subst hst
      have hlt : st < n := by omega
      obtain ⟨g, o, hao⟩ : ∃ g o, ao = some ⟨g, o, none⟩ := by
        have := H8.out.2.2
        obtain ⟨c, hc⟩ : ∃ c, (difs (some x) (some y))[st]? = some c := ⟨(difs (some x) (some y))[st]'(by rw [HNN.out]; exact hlt), by simp⟩
        obtain ⟨g, o, e, _⟩ := this.at hc
        exact ⟨g, o, e⟩
      subst hao
      have hcap : n ≤ cv := by
        have := H8.out.2.2
        rcases this with ⟨e, _⟩ | ⟨g', o', c', e, hc, _⟩
        · cases e
        · injection e with _ e2 e3
          rw [HNN.out] at hc
          omega
      have HF : Hid (HasA wc (.slice (some ⟨g, o, none⟩) st cv) (gvR (st : Int) (difs (some x) (some y))) ∧ (gvR (st : Int) (difs (some x) (some y))).length = st) := by
        have h1 := gv_cut (st : Int) (difs (some x) (some y)) (by rw [HNN.out]; exact hyes)
        refine ⟨?_, by rw [h1.2]; rfl⟩
        rw [h1.1]
        exact has_cut H8.out.2.2 HNN.out st (by omega)
      have s1 : (st : Int) ≤ (cv : Int) := by omega
      have s2 : (0 : Int) ≤ (st : Int) := by omega
      clear hyes hbb
      go_wp2
      go_meet
      exact ⟨_, _, _, rfl, rfl, HF.out⟩
  case rest =>
  obtain ⟨bo, ns, cs, rfl, rfl, HS⟩ := hcut
  have C7 := of7_any (some x) (some y) wc
  rw [px, py] at C7
  obtain ⟨Bt, hBt⟩ : ∃ Bt, wc.heap.size = Bt := ⟨_, rfl⟩
  obtain ⟨W9, hW9⟩ : ∃ W9, (wc.alloc (.cells #[.pointer (some ⟨p1, 0, none⟩)] 32)).alloc (.cells #[.pointer (some ⟨p2, 0, none⟩)] 32) = W9 := ⟨_, rfl⟩
  have HC7 := hid (C7 Bt hBt)
  rw [hW9] at HC7
  have s9 : W9.heap.size = Bt + 2 := by rw [← hW9, ← hBt]; simp
  have g89 : Below wc.heap.size wc W9 := by rw [← hW9]; exact ((Below.refl _ wc).alloc (Nat.le_refl _) _).alloc (by simp) _
  have bt9 : Bx W9 Bt 32 (siP (some x)) := by rw [← hW9, ← hBt, px]; exact (heap_alloc_old _ _ (by simp)).trans (heap_alloc_new _ _)
  have bu9 : Bx W9 (Bt + 1) 32 (siP (some y)) := by
    rw [← hW9, ← hBt, py]
    have := heap_alloc_new (wc.alloc (.cells #[.pointer (some ⟨p1, 0, none⟩)] 32)) (.cells #[.pointer (some ⟨p2, 0, none⟩)] 32)
    rwa [World.size_alloc] at this
  obtain ⟨fv, hfv⟩ : ∃ fv, Value.func (.func 22) #[] #[.pointer (some ⟨Bt, 0, none⟩), .pointer (some ⟨Bt + 1, 0, none⟩)] = fv := ⟨_, rfl⟩
  obtain ⟨W10, hW10⟩ : ∃ W10, W9.alloc (.cells #[.nilFunc] 38) = W10 := ⟨_, rfl⟩
  have b10 : Bx W10 (Bt + 2) 38 .nilFunc := by rw [← hW10, ← s9]; exact heap_alloc_new _ _
  have c10 := b10.cell
  have c10f := b10.frozen
  obtain ⟨W11, hW11⟩ : ∃ W11, W10.setCell ⟨Bt + 2, 0, none⟩ (.func (.func 22) #[] #[.pointer (some ⟨Bt, 0, none⟩), .pointer (some ⟨Bt + 1, 0, none⟩)]) = W11 := ⟨_, rfl⟩
  have g911 : Below W9.heap.size W9 W11 := by rw [← hW11, ← hW10]; exact ((Below.refl _ W9).alloc (Nat.le_refl _) _).setCell (p := ⟨Bt + 2, 0, none⟩) (by show _ ≤ Bt + 2; omega) _
  have b11 : Bx W11 (Bt + 2) 38 (.func (.func 22) #[] #[.pointer (some ⟨Bt, 0, none⟩), .pointer (some ⟨Bt + 1, 0, none⟩)]) := by rw [← hW11]; exact b10.set _
  have g811 := Below.up g89 g911
  have g511 := Below.up H8.out.1 g811
  have HLW : Hid (LW w B T (Bt + 2) Bt c1 c2 nm1 nm2 x y ao cv n W11) := ⟨Below.up HN.out.2.2.2.2 g511, HN.out.2.2.1.grow g511, HN.out.2.2.2.1.grow g511, HQ.out.1.below g511, HQ.out.2.1.below g511, HXY.out.1.grow g511, HXY.out.2.grow g511, (g811.block _ H8.out.2.1.lt).trans H8.out.2.1, H8.out.2.2.below g811, b11, (g911.block _ bt9.lt).trans bt9, (g911.block _ bu9.lt).trans bu9⟩
  replace HS := hid (⟨HS.out.1.below g811, HS.out.2⟩ : HasA W11 (.slice bo ns cs) (gvR stop (difs (some x) (some y))) ∧ (gvR stop (difs (some x) (some y))).length = ns)
  replace HQ := hid HQ.out.2.2
  clear H8 HXY HN g89 g911 g811 g511 bt9 bu9 b10 b11 C7 hfv hbb c7 c7f c8
  go_upto_region 12 with (go_at_call 7; refine HC7.out.mono ?_; rintro e w9 ⟨rfl, e9⟩; subst e9)
  clear c10 c10f HC7
  go_wp2
  go_loopw [14] (fun i wr => ∃ j : Nat, i = .int .i64 (j : Int) ∧ j ≤ 2 ∧ Hid (LW w B T (Bt + 2) Bt c1 c2 nm1 nm2 x y ao cv n wr ∧ HasA wr (.slice bo ns cs) (gvR stop (difs (some x) (some y))))) (fun i _ => 2 - iOf i)
  case atStart => exact ⟨0, rfl, by omega, HLW.out, HS.out.1⟩
  case round =>
    obtain ⟨j, rfl, hj, HX⟩ := hrel
    have fc := HX.out.1.bf.cell
    by_cases hj2 : j < 2
    · have hjI : (j : Int) < 2 := by omega
      have C8 := hid (HX.out.1.given HZ.out stop)
      go_upto_region 16 with (go_at_call 8; refine C8.out.mono ?_; rintro e w12 ⟨ua, rfl, oa, g12⟩)
      have X12 := HX.out.1.up g12
      have fc2 := X12.bf.cell
      have C9 := hid (X12.given HZ.out (-1))
      rw [show gvR (-1) (difs (some x) (some y)) = difs (some x) (some y) by simp [gvR]] at C9
      have HY := hid (And.intro X12 (And.intro oa (HX.out.2.below g12)))
      clear X12 oa g12 C8 HX fc
      go_upto_region 17 with (go_at_call 8; refine C9.out.mono ?_; rintro e w13 ⟨ub, rfl, ob, g13⟩)
      have X13 := HY.out.1.up g13
      obtain ⟨av, ca, hua⟩ := HY.out.2.1.form
      rw [HS.out.2] at hua
      subst hua
      obtain ⟨bv, cb, hub⟩ := ob.form
      rw [HNN.out] at hub
      subst hub
      have tc := X13.bv.cell
      have CA : Hid (Calls Try.prog 9 #[.slice av ns ca, .slice bo ns cs] w13 fun e w' => e = .returned (.bool true) ∧ Drew w13 w') := by
        have := same_any av bo ca cs (gvR stop (difs (some x) (some y))) w13
        rw [HS.out.2] at this
        exact this ((HasQ.has HY.out.2.1.hasq).below g13) (HY.out.2.2.below g13) (by have := HZ.out.hT; rw [← HS.out.2]; unfold gvR; split; omega; rw [List.length_take]; omega)
      have CB : Hid (∀ W, Drew w13 W → Calls Try.prog 9 #[.slice bv n cb, .slice ao n cv] W fun e w' => e = .returned (.bool true) ∧ Drew W w') := fun W hd => by
        have := same_any bv ao cb cv (difs (some x) (some y)) W
        rw [HNN.out] at this
        exact this ((HasQ.has ob.hasq).below hd.below) (X13.hv.below hd.below) (by have := HZ.out.hT; rw [HNN.out] at this; omega)
      have HXX := hid (And.intro X13 (HY.out.2.2.below g13))
      clear X13 ob g13 C9 HY fc2
      go_wp2_with (first
        | (go_at_call 9; refine (CB.out w14 H14.out).mono ?_; rintro e w15 ⟨rfl, d15⟩; have H15 := hid d15; clear d15)
        | (go_at_call 9; refine CA.out.mono ?_; rintro e w14 ⟨rfl, d14⟩; have H14 := hid d14; have tc14 := (d14.cell _).trans tc; clear d14))
      go_roundw
      case rel => exact ⟨j + 1, by go_num, by omega, HXX.out.1.up (H14.out.trans H15.out).below, HXX.out.2.below (H14.out.trans H15.out).below⟩
      case measure => simp; omega
    · have hj2' : ¬ ((j : Int) < 2) := by omega
      have hmf : ∀ (fn : Fn) (first cap : Array Value) (w : World), (Instr.makeFunc fn first cap).run Try.prog w = .ok (.func fn first cap) w := fun _ _ _ _ => rfl
      obtain ⟨D, hD⟩ : ∃ D, wr.heap.size = D := ⟨_, rfl⟩
      obtain ⟨Wa, hWa⟩ : ∃ Wa, (wr.alloc (.cells #[.int .i64 0] 3)).alloc (.cells #[.bool false] 4) = Wa := ⟨_, rfl⟩
      have ga : Below wr.heap.size wr Wa := by rw [← hWa]; exact ((Below.refl _ wr).alloc (Nat.le_refl _) _).alloc (by simp) _
      have bi : Bx Wa D 3 (.int .i64 0) := by rw [← hWa, ← hD]; exact (heap_alloc_old _ _ (by simp)).trans (heap_alloc_new _ _)
      have bw : Bx Wa (D + 1) 4 (.bool false) := by
        rw [← hWa, ← hD]
        have := heap_alloc_new (wr.alloc (.cells #[.int .i64 0] 3)) (.cells #[.bool false] 4)
        rwa [World.size_alloc] at this
      obtain ⟨Wb, hWb⟩ : ∃ Wb, Wa.setCell ⟨D, 0, none⟩ (.int .i64 0) = Wb := ⟨_, rfl⟩
      have bib : Bx Wb D 3 (.int .i64 0) := by rw [← hWb]; exact bi.set _
      have bwb : Bx Wb (D + 1) 4 (.bool false) := by rw [← hWb]; exact bw.other (by omega)
      obtain ⟨Wc, hWc⟩ : ∃ Wc, Wb.setCell ⟨D + 1, 0, none⟩ (.bool true) = Wc := ⟨_, rfl⟩
      have bic : Bx Wc D 3 (.int .i64 0) := by rw [← hWc]; exact bib.other (by omega)
      have bwc : Bx Wc (D + 1) 4 (.bool true) := by rw [← hWc]; exact bwb.set _
      have gc : Below wr.heap.size wr Wc := by
        rw [← hWc, ← hWb]
        exact (ga.setCell (p := ⟨D, 0, none⟩) (by show _ ≤ D; omega) _).setCell (p := ⟨D + 1, 0, none⟩) (by show _ ≤ D + 1; omega) _
      have i1 := bi.cell
      have i1f := bi.frozen
      have w1 := bwb.cell
      have w1f := bwb.frozen
      have XC := HX.out.1.up gc
      have fcc := XC.bf.cell
      have J0 : CJ (D + 1) D wr true [] (fun b => b = D + 1 ∨ b = D) Wc := ⟨rfl, bwc, bic, rfl, by simp, gc⟩
      have hbv : Bx wr T 35 (.slice ao (difs (some x) (some y)).length cv) := by rw [HNN.out]; exact HX.out.1.bv
      have hhv : HasA wr (.slice ao (difs (some x) (some y)).length cv) (difs (some x) (some y)) := by rw [HNN.out]; exact HX.out.1.hv
      have CO := hid (of1_any (CJ.yd (Bw := D + 1) (Bi := D) (w0 := wr) (by omega) (by omega)) (enters_of Try.func10 (by kernel_rfl) rfl) (w0 := wr) rfl (some x) (some y) (CJ.yok (Bf := Bt + 2) (by omega) (by omega) (by omega) HX.out.1.sx HX.out.1.sy HX.out.1.bt HX.out.1.bu HX.out.1.bf hbv hhv HZ.out.hl HZ.out.hw HZ.out.hT) Bt (Bt + 1) Wc _ HX.out.1.sx HX.out.1.sy gc XC.bt XC.bu J0 HZ.out.hl HZ.out.hw)
      have HXC := hid XC
      clear ga bi bw bib bwb bic bwc gc XC J0 hbv hhv fc
      go_upto_region 21 with (go_at_call 22; refine CO.out.mono ?_; rintro e w16 ⟨⟨uu, rfl⟩, H16⟩)
      obtain ⟨g, M', qs, ⟨_, jw, ji, jg, j4, jb⟩, q1, q2, q3, _⟩ := H16
      have hlen : (qs.length : Int) = min (n : Int) 4 := by
        have hle := q2.length_le
        rw [HNN.out] at hle
        cases g
        · have : ¬ qs.length < 4 := by simpa using jg.symm
          omega
        · have h1 : qs.length < 4 := by simpa using jg.symm
          have h2 := q1 rfl
          rw [h2, HNN.out] at h1
          rw [h2, HNN.out]
          omega
      have X16 := HX.out.1.up jb
      obtain ⟨q, hq⟩ : ∃ q : Int, (qs.length : Int) = q := ⟨_, rfl⟩
      rw [hq] at hlen ji
      have okx : x.k.flat.okL := F.okL_of_weight _ (by have := HQ.out.1; omega)
      have oky : y.k.flat.okL := F.okL_of_weight _ (by have := HQ.out.2.1; omega)
      have sx : x.k.flat.size ≤ 100000 := by have := F.size_le_weight x.k.flat; have := HQ.out.1; omega
      have sy : y.k.flat.size ≤ 100000 := by have := F.size_le_weight y.k.flat; have := HQ.out.2.1; omega
      have FIN : Hid (Below w.heap.size w w16) := X16.g
      refine regZ B (D + 1) D T p1 p2 n cv ao q c1 c2 (fun c W => HasN W c ⟨#[]⟩ x.v x.m x.k.flat) (fun c W => HasN W c ⟨#[]⟩ x.v x.m x.k.flat) (fun c W => HasN W c ⟨#[]⟩ y.v y.m y.k.flat) (fun c W => HasN W c ⟨#[]⟩ y.v y.m y.k.flat) _ w16 rfl rfl rfl rfl rfl rfl rfl rfl hlen.symm jw.cell ji.cell X16.bv.cell X16.v1.lies X16.v2.lies cs1 cs2 ?f1 ?f2 ?f3 ?f4 ?c1 ?c2 ?d1 ?d2 ?e1 ?e2 fun r W bW => ?_
      case f1 => exact fun c W W' h hb => h.below hb
      case f2 => exact fun c W W' h hb => h.below hb
      case f3 => exact fun c W W' h hb => h.below hb
      case f4 => exact fun c W W' h hb => h.below hb
      case c1 =>
        intro W hb
        have hT := ((X16.sx x rfl).1).grow hb
        rw [HQ.out.2.2.1] at hT
        refine (treeNode_any (x.k.flat.size + 1) x.k (Nat.lt_succ_self _) p1 x.v x.m W hT sx).mono ?_
        rintro e W' ⟨c', rfl, h1, h2⟩
        exact ⟨c', rfl, h1.has, h2⟩
      case c2 =>
        intro W hb
        have hT := ((X16.sy y rfl).1).grow hb
        rw [HQ.out.2.2.2] at hT
        refine (treeNode_any (y.k.flat.size + 1) y.k (Nat.lt_succ_self _) p2 y.v y.m W hT sy).mono ?_
        rintro e W' ⟨c', rfl, h1, h2⟩
        exact ⟨c', rfl, h1.has, h2⟩
      case d1 =>
        intro W hb
        refine (plain_any nm1 x.v x.m x.k.flat c1 W (X16.n1.below hb) (by have := HQ.out.1; omega)).mono ?_
        rintro e W' ⟨c', rfl, h1, h2⟩
        exact ⟨c', rfl, h1.has, h2⟩
      case d2 =>
        intro W hb
        refine (plain_any nm2 y.v y.m y.k.flat c2 W (X16.n2.below hb) (by have := HQ.out.2.1; omega)).mono ?_
        rintro e W' ⟨c', rfl, h1, h2⟩
        exact ⟨c', rfl, h1.has, h2⟩
      case e1 =>
        intro a b W ha hb
        refine (equal_any (x.k.flat.size + 1) x.k.flat (Nat.lt_succ_self _) _ _ _ _ _ _ _ a b W ha hb okx okx).mono ?_
        rintro e W' ⟨rfl, h2⟩
        exact ⟨by simp, h2⟩
      case e2 =>
        intro a b W ha hb
        refine (equal_any (y.k.flat.size + 1) y.k.flat (Nat.lt_succ_self _) _ _ _ _ _ _ _ a b W ha hb oky oky).mono ?_
        rintro e W' ⟨rfl, h2⟩
        exact ⟨by simp, h2⟩
      rw [foldZ]
      have HBW := hid (Below.up FIN.out bW)
      clear X16 jw ji jg jb q1 q2 q3 hlen
      generalize Value.agg r.n1 = z1
      generalize Value.agg r.n2 = z2
      generalize Value.agg r.f1 = z3
      generalize Value.agg r.f2 = z4
      go_simp
      go_wp2
      go_ret
      exact ⟨rfl, HBW.out⟩
end Go.Proofs.Ytlelgboklkmkdaa
