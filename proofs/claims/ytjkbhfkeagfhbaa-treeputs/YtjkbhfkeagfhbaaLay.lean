/-
  THE ROOM's layNodes by contract.
-/
import Derived.Test.YtjkbhfkeagfhbaaLentF
import Derived.Test.YtjkbhfkeagfhbaaInW
import Derived.Test.YtjkbhfkeagfhbaaBare
import Derived.Test.YtjkbhfkeagfhbaaMapP
namespace Go.Proofs.Ytjkbhfkeagfhbaa
open Go.RowKit

/-- what layNodes and its fellows leave -/
def LayTo (R : Nat) (w : World) (s : Sg) (w' : World) (s' : Sg) (kv : Value) (f : F) : Prop :=
  RM w' R s' ∧ To R w s w' s' ∧ s'.ls.length = s.ls.length + f.size + 1 ∧ HasSD w' (fun b => w.heap.size ≤ b ∧ b < w'.heap.size ∧ ¬ XB R s' b) kv f
def LayOk (w0 : World) (R : Nat) (f : F) : Prop := ∀ (vl : Value) (k : Nat) (w : World) (s : Sg), HasS w0 vl f → Below R w0 w → RM w R s → 0 < k → k ≤ 40 → f.weight ≤ 20000 → s.ls.length + f.size ≤ 60000 →
    Calls Try.prog 70 #[.pointer (some ⟨R, 0, none⟩), vl, .int .i64 k] w fun e w' => ∃ kv s', e = .returned kv ∧ LayTo R w s w' s' kv f
def KidOk (w0 : World) (R : Nat) (ks : F) : Prop := ∀ (c : Array Value) (nm : ByteArray) (v : Vd) (m : Md) (w : World) (s : Sg), HasN w0 c nm v m ks → Below R w0 w → RM w R s → ks.weight ≤ 20000 → s.ls.length + ks.size ≤ 60000 →
    Calls Try.prog 96 #[.pointer (some ⟨R, 0, none⟩), .agg c] w fun e w' => ∃ kv s', e = .returned (.agg (nc nm v m kv)) ∧ LayTo R w s w' s' kv ks
theorem LayTo.later {R : Nat} {w w2 w3 w4 : World} {s s' : Sg} {kv : Value} {f : F} (h : LayTo R w2 s w3 s' kv f) (hm : RM w R s) (hg : Below w.heap.size w w2) (h4 : ∀ b, b < w.heap.size ∨ w2.heap.size ≤ b → w4.heap[b]? = w3.heap[b]?) (hb4 : Below w.heap.size w3 w4) : LayTo R w s w4 s' kv f := by
  obtain ⟨h1, h2, h3, h5⟩ := h
  have hR : R < w.heap.size := hm.lt (.inl (.inl rfl))
  have hs := hg.size
  have hs2 := h2.bel.size
  have hs4 := hb4.size
  refine ⟨h1.keep (fun b hb => h4 b ?_) hs4, ((To.grow hg (by omega)).trans h2).late hb4 (by omega), h3, h5.keep fun b hb => ⟨h4 b (.inr hb.1), by omega, by omega, hb.2.2⟩⟩
  rcases h2.rb b hb with e | e
  · exact .inl (hm.lt e)
  · exact .inr e
set_option maxRecDepth 100000 in
set_option maxHeartbeats 2000000 in
theorem kid_of_lay (w0 : World) (R : Nat) (ks : F) (hl : LayOk w0 R ks) : KidOk w0 R ks := by
  intro c nm v m w s ⟨kv0, hc, hS⟩ hb hm hw hn
  have hsz : c.size = 41 := by rw [hc]; exact nc_size ..
  have hgB : Below w.heap.size w ((w.alloc (.cells c 30)).alloc (.cells z30 30)) := (G.alloc _ _).trans (G.alloc _ _)
  have hRl : R < w.heap.size := hm.lt (.inl (.inl rfl))
  have hV0 := (Var.new w c).grow (G.alloc (w.alloc (.cells c 30)) (.cells z30 30))
  have hV1 := Var.new (w.alloc (.cells c 30)) z30
  rw [World.size_alloc] at hV1
  have C70 := hl kv0 4 _ s hS (hb.trans (hgB.mono (by omega))) (hm.grow hgB) (by omega) (by omega) hw hn
  obtain ⟨a, cap, rfl, _⟩ := hS.form
  have c40 := lies_cell hV0.lies 40 (.slice a ks.len cap) (by rw [hc]; exact nc_kids ..)
  have HX := hid (⟨hgB, hm, hV0, hV1, hc, by simp⟩ : Below w.heap.size w ((w.alloc (.cells c 30)).alloc (.cells z30 30)) ∧ RM w R s ∧ Var ((w.alloc (.cells c 30)).alloc (.cells z30 30)) w.heap.size c ∧ Var ((w.alloc (.cells c 30)).alloc (.cells z30 30)) (w.heap.size + 1) z30 ∧ c = nc nm v m (.slice a ks.len cap) ∧ ((w.alloc (.cells c 30)).alloc (.cells z30 30)).heap.size = w.heap.size + 2)
  clear hgB hm hV0 hV1 hc hl hS hb hw hn
  go_enter Try.func96, Try.ntmps96
  go_upto_region 1 with (with_reducible refine wpList_execW (.pointer (some ⟨(w.alloc (.cells c 30)).heap.size, 0, none⟩)) ((w.alloc (.cells c 30)).alloc (.cells z30 30)) ?_ ?_ ?_; exact exec_alloc30 rfl _; kernel_rfl)
  try simp only [Act.put, List.setIfInBounds_toArray, List.set_cons_zero, List.set_cons_succ, World.size_alloc]
  generalize (w.alloc (.cells c 30)).alloc (.cells z30 30) = w2 at *
  obtain ⟨B, hB⟩ : ∃ B, w.heap.size = B := ⟨_, rfl⟩
  rw [hB] at c40 HX ⊢
  have HB := hid hB
  clear hB
  go_wp2_with (first
    | (go_at_call 70; refine C70.mono ?_; rintro e w3 ⟨kv, s', rfl, hL⟩; have HL := hid hL; obtain ⟨a3, cap3, rfl, hl3⟩ := hL.2.2.2; clear hL C70; have hV0 : Var w3 B c := (HL.out.2.1.block B (by have := HX.out.2.2.2.2.2; omega) (fun e => by have := HX.out.2.1.lt (.inl e); have := HB.out; omega)).trans HX.out.2.2.1; have hfz : w3.frozen? ⟨B, 40, none⟩ = false := var_frozen hV0 40; have q40 := lies_cell hV0.lies 40 (.slice a ks.len cap) (by rw [HX.out.2.2.2.2.1]; exact nc_kids ..); have hVS : Var (w3.setCell ⟨B, 40, none⟩ (.slice a3 ks.len cap3)) B (nc nm v m (.slice a3 ks.len cap3)) := by { have := hV0.setCell 40 (.slice a3 ks.len cap3); rw [HX.out.2.2.2.2.1, nc_kset] at this; exact this }; have hVT : Var (w3.setCell ⟨B, 40, none⟩ (.slice a3 ks.len cap3)) (B + 1) z30 := (Below.heap_setCell _ _ _ _ (by show B + 1 ≠ B; omega)).trans ((HL.out.2.1.block (B + 1) (by have := HX.out.2.2.2.2.2; omega) (fun e => by have := HX.out.2.1.lt (.inl e); have := HB.out; omega)).trans HX.out.2.2.2.1); have HV := hid (⟨hVS, hVT⟩ : _ ∧ _); clear hVS hVT hV0 hl3)
    | (with_reducible refine wpList_exec (.agg (nc nm v m (.slice a3 ks.len cap3))) ?_ ?_ ?_; exact exec_load30 _ rfl B 0 rfl _ (nc_size ..) HV.out.1.lies; kernel_rfl)
    | (with_reducible refine wpList_skipW ((w3.setCell ⟨B, 40, none⟩ (.slice a3 ks.len cap3)).setRow (B + 1) (nc nm v m (.slice a3 ks.len cap3))) ?_ ?_ ?_; exact exec_store30 _ _ rfl (B + 1) _ z30 rfl rfl _ HV.out.2 (nc_size ..) z30_size (nc_one _ _ _ _ rfl); kernel_rfl))
  refine bodyPost_ret (results_cell_row (P := Try.prog) (p := 4) (ty := 30) rfl _ _ (B + 1) 30 (nc nm v m (.slice a3 ks.len cap3)) (0, 0) _ rfl HV.out.2.set under30 rfl (by rw [size30, nc_size])) rfl ?_
  refine ⟨_, s', rfl, HL.out.later HX.out.2.1 (by rw [HB.out]; exact HX.out.1) (fun b hb => ?_) ⟨rfl, rfl, rfl, by simp, fun b hb => ?_⟩⟩
  · have h1 := HX.out.2.2.2.2.2
    have h2 := HB.out
    exact (setRow_other _ (B + 1) b _ (by omega)).trans (Below.heap_setCell _ _ _ b (by show b ≠ B; omega))
  · have h2 := HB.out
    exact (setRow_other _ (B + 1) b _ (by omega)).trans (Below.heap_setCell _ _ _ b (by show b ≠ B; omega))
end Go.Proofs.Ytjkbhfkeagfhbaa
namespace Go.Proofs.Ytjkbhfkeagfhbaa
open Go.RowKit

theorem owns_lit30 (w : World) : (w.alloc (.cells #[] 30)).ownsRow w.heap.size 30 41 (.slice (some ⟨w.heap.size, 0, none⟩) 0 0) 0 [] :=
  ⟨by simp, .inr ⟨_, 0, #[], rfl, Nat.le_refl _, World.alloc_heap_new w _, Nat.le_refl _, Nat.zero_le _, by simp, by simp⟩⟩
/-- behind j children -/
def L1 (R : Nat) (w : World) (s : Sg) (f : F) (wr : World) (j : Nat) (u : Value) : Prop := ∃ (sr : Sg) (xs : List Value) (T : Nat → Prop), LS R w s wr sr u j xs T ∧ RCellsD wr (f.take j) T xs ∧ sr.ls.length = s.ls.length + (f.take j).size
/-- behind j marks -/
def L2 (R : Nat) (w : World) (s : Sg) (f : F) (wr : World) (j : Nat) (u : Value) : Prop := ∃ (sr : Sg) (xs : List Value) (T : Nat → Prop), LS R w s wr sr u (f.len + j) (xs ++ markC Vd.zero Md.zero j) T ∧ RCellsD wr f T xs ∧ sr.ls.length = s.ls.length + f.size
theorem L1.start {R : Nat} {w : World} {s : Sg} {f : F} (hm : RM w R s) : L1 R w s f (w.alloc (.cells #[] 30)) 0 (.slice (some ⟨w.heap.size, 0, none⟩) 0 0) := by
  have hR : R < w.heap.size := hm.lt (.inl (.inl rfl))
  have hg : Below w.heap.size w (w.alloc (.cells #[] 30)) := G.alloc _ _
  refine ⟨s, [], fun _ => False, ⟨hm.grow hg, To.grow hg (by omega), owns_lit30 w, fun b hb e => ?_, fun b hb => hb.elim⟩, ?_, ?_⟩
  · simp [Value.ownBlock] at hb
    have := hm.lt e
    omega
  · rw [F.take_zero]; rfl
  · rw [F.take_zero]; rfl
theorem L1.next {R : Nat} {w wr w2 w4 : World} {s sr s2 : Sg} {f ks : F} {j : Nat} {u u' kv : Value} {xs : List Value} {T : Nat → Prop} {nm : ByteArray} {v : Vd} {m : Md} (hR : R < w.heap.size) (hl : LS R w s wr sr u j xs T) (hc : RCellsD wr (f.take j) T xs) (hn : sr.ls.length = s.ls.length + (f.take j).size)
    (hd : f.drop j = .cons nm v m ks (f.drop (j + 1))) (ht : LayTo R wr sr w2 s2 kv ks) (ho : w4.ownsRow w.heap.size 30 41 u' (j + 1) (xs ++ (nc nm v m kv).toList)) (hg : (w2.alloc (.cells (nc nm v m kv) 30)).grownBy w4 u.ownBlock) (hat : u'.ownBlock = u.ownBlock ∨ u'.ownBlock = some (w2.alloc (.cells (nc nm v m kv) 30)).heap.size) : L1 R w s f w4 (j + 1) u' := by
  obtain ⟨h1, h2, h3, h4⟩ := ht
  obtain ⟨k1, k2⟩ := hl.call h1 h2
  obtain ⟨k3, k4⟩ := k1.app (by omega) ho hg hat
  refine ⟨s2, _, _, k3, ?_, ?_⟩
  · rw [F.take_more f j nm v m ks _ hd]
    refine RCellsD.snoc (S2 := fun b => wr.heap.size ≤ b ∧ b < w2.heap.size ∧ ¬ XB R s2 b) (h4.keep fun b hb => ⟨k4 b (.inr hb), hb⟩) (fun b hb e => ?_) (hc.keep (S' := T) fun b hb => ⟨(k4 b (.inl hb)).trans (k2 b hb), hb⟩)
    have := (hl.ts b hb).2.1
    have := e.1
    omega
  · rw [h3, hn, F.take_more f j nm v m ks _ hd, F.app_size]
    simp only [F.size]
    omega
theorem L2.start {R : Nat} {w wr : World} {s : Sg} {f : F} {u : Value} {N : Nat} (h : L1 R w s f wr N u) (hN : f.len = N) : L2 R w s f wr 0 u := by
  obtain ⟨sr, xs, T, h1, h2, h3⟩ := h
  rw [F.take_all f N (by omega)] at h2 h3
  subst hN
  exact ⟨sr, xs, T, by simpa [markC] using h1, h2, h3⟩
theorem L2.next {R : Nat} {w wr w4 : World} {s sr : Sg} {f : F} {j : Nat} {u u' : Value} {xs : List Value} {T : Nat → Prop} (hR : R < w.heap.size) (hl : LS R w s wr sr u (f.len + j) (xs ++ markC Vd.zero Md.zero j) T) (hc : RCellsD wr f T xs) (hn : sr.ls.length = s.ls.length + f.size)
    (ho : w4.ownsRow w.heap.size 30 41 u' (f.len + j + 1) ((xs ++ markC Vd.zero Md.zero j) ++ (nc (wordB j) Vd.zero Md.zero (.slice none 0 0)).toList)) (hg : (wr.alloc (.cells (nc (wordB j) Vd.zero Md.zero (.slice none 0 0)) 30)).grownBy w4 u.ownBlock) (hat : u'.ownBlock = u.ownBlock ∨ u'.ownBlock = some (wr.alloc (.cells (nc (wordB j) Vd.zero Md.zero (.slice none 0 0)) 30)).heap.size) : L2 R w s f w4 (j + 1) u' := by
  obtain ⟨k3, k4⟩ := hl.app (by omega) ho hg hat
  refine ⟨sr, xs, T, ?_, hc.keep fun b hb => ⟨k4 b hb, hb⟩, hn⟩
  rw [markC, ← List.append_assoc]
  exact k3
/-- the word by name -/
theorem one_newV (w : World) (x : Value) (ty : TypeId) : ∀ j u, [x][j]? = some u → (w.alloc (.cells #[x] ty)).cell? ((⟨w.heap.size, 0, none⟩ : Addr).add j) = some u := fun j u hj => by
  have : j = 0 := by have := (List.getElem?_eq_some_iff.1 hj).1; simp at this; omega
  subst this
  simp at hj
  subst hj
  rw [Addr.add_mid]
  have h := World.alloc_heap_new w (.cells #[x] ty)
  simp only [World.cell?, h]
  rfl
theorem info28 : (Try.prog.info? 28).map (fun i => (i.zero, i.size, i.bytes)) = some (some (.slice none 0 0), 1, 24) := by kernel_rfl
theorem info3b : (Try.prog.info? 3).map (fun i => (i.zero, i.size, i.bytes)) = some (some (.int .i64 0), 1, 8) := by kernel_rfl

theorem RM.five {wr w5 : World} {R : Nat} {v1 v2 : Value} {ls : List Kr} {c1 : Obj} (hm : RM wr R ⟨v1, v2, ls⟩) (g5 : (wr.alloc c1).grownBy w5 v1.ownBlock) (v1' : Value) (c2 : Obj) :
    w5.cell? ⟨R, 22, none⟩ = some v1 ∧ w5.frozen? ⟨R, 22, none⟩ = false ∧ w5.cell? ⟨R, 23, none⟩ = some v2 ∧ ((w5.setCell ⟨R, 22, none⟩ v1').alloc c2).ownsRow (R + 1) 3 1 v2 ls.length (ls.map fun e => .int .i64 e.n) ∧ R + 1 ≤ w5.heap.size := by
  have hs := g5.size
  simp only [World.size_alloc] at hs
  have h1 := World.ownsRow.lt hm.o1
  have h2 := World.ownsRow.lt hm.o2
  have hR : R < wr.heap.size := hm.lt (.inl (.inl rfl))
  have e5 : ∀ b, b < wr.heap.size → v1.ownBlock ≠ some b → w5.heap[b]? = wr.heap[b]? := fun b hb hn => (g5.block b (by simp; omega) (Ne.symm hn)).trans (Below.heap_alloc wr _ b hb)
  have r5 := e5 R hR fun e => by have := (h1 R e).1; omega
  refine ⟨cell_sameB r5 hm.c22, frozen_sameB r5 (hm.fz 22), cell_sameB r5 hm.c23, World.ownsRow.alloc (owns_sameB hm.o2 fun b hb => ?_) _, by omega⟩
  exact (setCell_blockB (by have := (h2 b hb).1; omega)).trans (e5 b (h2 b hb).2 fun e => hm.ne b e hb)
theorem RM.seven {wr w5 w7 : World} {R : Nat} {v1 v2 v1' : Value} {ls : List Kr} {c1 c2 : Obj} (hm : RM wr R ⟨v1, v2, ls⟩) (g5 : (wr.alloc c1).grownBy w5 v1.ownBlock) (g7 : ((w5.setCell ⟨R, 22, none⟩ v1').alloc c2).grownBy w7 v2.ownBlock) :
    w7.cell? ⟨R, 23, none⟩ = some v2 ∧ w7.frozen? ⟨R, 23, none⟩ = false := by
  have hs := g5.size
  simp only [World.size_alloc] at hs
  have h1 := World.ownsRow.lt hm.o1
  have h2 := World.ownsRow.lt hm.o2
  have hR : R < wr.heap.size := hm.lt (.inl (.inl rfl))
  have r5 : w5.heap[R]? = wr.heap[R]? := (g5.block R (by simp; omega) (fun e => by have := (h1 R e.symm).1; omega)).trans (Below.heap_alloc wr _ R hR)
  have r7 : w7.heap[R]? = (w5.setCell ⟨R, 22, none⟩ v1').heap[R]? := (g7.block R (by simp; omega) fun e => by have := (h2 R e.symm).1; omega).trans (Below.heap_alloc _ _ R (by rw [setCell_sizeB]; omega))
  exact ⟨cell_sameB r7 ((World.cell?_setCell_other _ _ _ _ (by simp)).trans (cell_sameB r5 hm.c23)), frozen_sameB r7 ((frozen_setG w5 R 22 23 _).trans (frozen_sameB r5 (hm.fz 23)))⟩

set_option maxRecDepth 100000 in
set_option maxHeartbeats 4000000 in
theorem lay_step (w0 : World) (R : Nat) (f : F) (hR0 : w0.heap.size = R) (HK : ∀ ks : F, ks.size < f.size → KidOk w0 R ks) : LayOk w0 R f := by
  intro vl k w s hS hb hm hk0 hk hw hn
  obtain ⟨a, cap, rfl, _⟩ := hS.form
  obtain ⟨N, hN⟩ : ∃ N, f.len = N := ⟨_, rfl⟩
  have hN2 : N ≤ 20000 := by have := f.len_le_size; have := F.size_le_weight f; omega
  have hRl : R < w.heap.size := hm.lt (.inl (.inl rfl))
  have HL : Hid (L1 R w s f (w.alloc (.cells #[] 30)) 0 (.slice (some ⟨w.heap.size, 0, none⟩) 0 0)) := L1.start hm
  have HS : Hid (HasS w0 (.slice a f.len cap) f ∧ f.len = N ∧ f.weight ≤ 20000 ∧ s.ls.length + f.size ≤ 60000 ∧ Below R w0 w ∧ w0.heap.size = R) := ⟨hS, hN, hw, hn, hb, hR0⟩
  have HKK := hid HK
  rw [hN]
  clear hS hN hw hn hb HK hm hR0
  obtain ⟨i0, hi, hz0, hz1, hz2⟩ := info_parts info30
  go_enter Try.func70, Try.ntmps70
  go_wp2_with fail
  go_loopw [7, 8] (fun u i wr => ∃ j : Nat, i = .int .i64 j ∧ j ≤ N ∧ (∃ ao uc, u = .slice ao j uc) ∧ Hid (L1 R w s f wr j u)) (fun _ i _ => N - iOf i)
  case atStart => exact ⟨0, rfl, Nat.zero_le _, ⟨_, _, rfl⟩, HL.out⟩
  case round =>
    clear HL
    obtain ⟨j, rfl, hj, ⟨ao, uc, rfl⟩, HI⟩ := hrel
    by_cases hlt : j < N
    · have hltI : (j : Int) < (N : Int) := by omega
      obtain ⟨g2, o2, cp, nm1, v1, m1, ks1, c1, hv1, hd1, hN1, hc1⟩ := HS.out.1.at (k := j) (by rw [HS.out.2.1]; exact hlt)
      obtain rfl : a = some ⟨g2, o2, none⟩ := by injection hv1
      clear hv1
      obtain ⟨sr, xs, T, hls, hcs, hns⟩ := HI.out
      have hksz := F.kids_size hd1
      have hwt : ks1.weight ≤ 20000 := by
        have h1 := HS.out.2.2.1
        have h2 := congrArg F.weight (F.app_take_drop f j)
        rw [F.app_weight, hd1, F.weight] at h2
        omega
      have hnt : sr.ls.length + ks1.size ≤ 60000 := by
        have h1 := HS.out.2.2.2.1
        have h2 := congrArg F.size (F.app_take_drop f j)
        rw [F.app_size, hd1, F.size] at h2
        omega
      have hbw : Below R w0 wr := HS.out.2.2.2.2.1.trans hls.hto.bel
      have HL1 : Hid (Lies wr g2 (o2 + j * 41) c1 ∧ c1.size = 41) := ⟨Lies.below hc1 (by rw [HS.out.2.2.2.2.2]; exact hbw), by obtain ⟨_, rfl, _⟩ := hN1; exact nc_size ..⟩
      have CC := HKK.out ks1 (by omega) c1 nm1 v1 m1 wr sr hN1 hbw hls.rm hwt hnt
      have HY := hid (⟨hls, hcs, hns, hd1⟩ : LS R w s wr sr (.slice ao j uc) j xs T ∧ RCellsD wr (f.take j) T xs ∧ sr.ls.length = s.ls.length + (f.take j).size ∧ f.drop j = .cons nm1 v1 m1 ks1 (f.drop (j + 1)))
      clear hls hcs hns hd1 hN1 hc1 hksz hwt hnt hbw HI
      go_wp2_with (first
        | (with_reducible refine wpList_exec (.agg c1) ?_ ?_ ?_; exact exec_load30 _ rfl g2 (o2 + j * 41) rfl c1 HL1.out.2 HL1.out.1; kernel_rfl)
        | (go_at_call 96; refine CC.mono ?_; rintro e w2 ⟨kv2, s2, rfl, hn2⟩; have HN2 := hid hn2; obtain ⟨c2, hc2⟩ : ∃ c2, nc nm1 v1 m1 kv2 = c2 := ⟨_, rfl⟩; have HC2 := hid hc2; have HZ2 : Hid (c2.size = 41 ∧ c2.all (·.oneCell') = true) := by { obtain ⟨_, _, _, a3, cp3, rfl, _⟩ := hn2; rw [← hc2]; exact ⟨nc_size .., nc_one _ _ _ _ rfl⟩ }; have OW : Hid ((w2.alloc (.cells c2 30)).ownsRow w.heap.size 30 41 (.slice ao j uc) j xs) := World.ownsRow.alloc (HY.out.1.call hn2.1 hn2.2.1).1.own _; have hsz2 : w.heap.size ≤ w2.heap.size := Nat.le_trans HY.out.1.hto.bel.size hn2.2.1.bel.size; rw [hc2]; clear CC hn2 hc2)
        | (with_reducible refine wpList_execW (.slice (some ⟨w2.heap.size, 0, none⟩) 1 1) (w2.alloc (.cells c2 30)) ?_ ?_ ?_; exact exec_slice1 _ rfl c2 rfl HZ2.out.1 _; kernel_rfl)
        | (at_builtin; refine wpList_append_own_at _ rfl _ _ 28 rfl w.heap.size 30 i0 (.agg z30) 41 128 Try.underlying28 hi hz0 hz1 hz2 z30_size (by decide) (.slice ao j uc) j xs rfl OW.out ⟨w2.heap.size, 0, none⟩ 1 1 c2.toList rfl (by simpa using HZ2.out.1) (fun j u hj => by rw [Addr.add_mid]; exact lies_new w2 c2 30 j u (by simpa using hj)) (fun u hu => (Array.all_eq_true_iff_forall_mem.1 HZ2.out.2) u (by simpa using hu)) (by unfold maxLen; omega) (by omega) (by simp; omega) ?_; intro u' w4 ho4 hg4 _ hat4; have R4 : Hid (L1 R w s f w4 (j + 1) u') := by { have e2 := HC2.out; subst e2; exact L1.next hRl HY.out.1 HY.out.2.1 HY.out.2.2.1 HY.out.2.2.2 HN2.out ho4 hg4 hat4 }; obtain ⟨g', cap', rfl⟩ := row_form ho4; clear ho4 hg4 hat4))
      go_roundw
      case rel => exact ⟨j + 1, by go_num, by omega, ⟨_, _, rfl⟩, R4.out⟩
      case measure => simp; omega
    · have hltI : ¬ (j : Int) < (N : Int) := by omega
      obtain rfl : N = j := by omega
      have H2 : Hid (L2 R w s f wr 0 (.slice ao N uc)) := L2.start HI.out HS.out.2.1
      clear HI
      go_wp2_with fail
      go_loopw [7, 9] (fun u i wr => ∃ j : Nat, i = .int .i64 j ∧ j ≤ k ∧ (∃ ao uc, u = .slice ao (N + j) uc) ∧ Hid (L2 R w s f wr j u)) (fun _ i _ => k - iOf i)
      case atStart => exact ⟨0, rfl, Nat.zero_le _, ⟨_, _, rfl⟩, H2.out⟩
      case round =>
        clear H2
        obtain ⟨j, rfl, hj, ⟨ao, uc, rfl⟩, HI⟩ := hrel
        by_cases hlt : j < k
        · have hltI : (j : Int) < (k : Int) := by omega
          obtain ⟨sr, xs, T, hls, hcs, hns⟩ := HI.out
          have CW := word_any j wr (by omega)
          obtain ⟨x, hx⟩ : ∃ x, wordB j = x := ⟨_, rfl⟩
          have HXX := hid hx
          have HZ2 : Hid ((nc x Vd.zero Md.zero (.slice none 0 0)).size = 41 ∧ (nc x Vd.zero Md.zero (.slice none 0 0)).all (·.oneCell') = true) := ⟨nc_size .., nc_one _ _ _ _ rfl⟩
          have OW : Hid ((wr.alloc (.cells (nc x Vd.zero Md.zero (.slice none 0 0)) 30)).ownsRow w.heap.size 30 41 (.slice ao (N + j) uc) (N + j) (xs ++ markC Vd.zero Md.zero j)) := by have h := World.ownsRow.alloc hls.own (.cells (nc x Vd.zero Md.zero (.slice none 0 0)) 30); rw [HS.out.2.1] at h; exact h
          have hsz2 : w.heap.size ≤ wr.heap.size := hls.hto.bel.size
          have HY := hid (⟨hls, hcs, hns⟩ : LS R w s wr sr (.slice ao (N + j) uc) (f.len + j) (xs ++ markC Vd.zero Md.zero j) T ∧ RCellsD wr f T xs ∧ sr.ls.length = s.ls.length + f.size)
          rw [hx] at CW
          clear hls hcs hns hx HI
          go_wp2_with (first
            | (go_at_call 79; refine CW.mono ?_; rintro e w2 ⟨rfl, e2⟩; subst e2)
            | (with_reducible refine wpList_execW (.slice (some ⟨w2.heap.size, 0, none⟩) 1 1) (w2.alloc (.cells (nc x Vd.zero Md.zero (.slice none 0 0)) 30)) ?_ ?_ ?_; exact exec_slice1 _ rfl (nc x Vd.zero Md.zero (.slice none 0 0)) rfl HZ2.out.1 _; kernel_rfl)
            | (at_builtin; refine wpList_append_own_at _ rfl _ _ 28 rfl w.heap.size 30 i0 (.agg z30) 41 128 Try.underlying28 hi hz0 hz1 hz2 z30_size (by decide) (.slice ao (N + j) uc) (N + j) (xs ++ markC Vd.zero Md.zero j) rfl OW.out ⟨w2.heap.size, 0, none⟩ 1 1 (nc x Vd.zero Md.zero (.slice none 0 0)).toList rfl (by simpa using HZ2.out.1) (fun j u hj => by rw [Addr.add_mid]; exact lies_new w2 (nc x Vd.zero Md.zero (.slice none 0 0)) 30 j u (by simpa using hj)) (fun u hu => (Array.all_eq_true_iff_forall_mem.1 HZ2.out.2) u (by simpa using hu)) (by unfold maxLen; omega) (by omega) (by simp; omega) ?_; intro u' w4 ho4 hg4 _ hat4; have R4 : Hid (L2 R w s f w4 (j + 1) u') := by { have e2 := HXX.out; subst e2; exact L2.next hRl HY.out.1 HY.out.2.1 HY.out.2.2 (by rw [HS.out.2.1]; exact ho4) hg4 hat4 }; obtain ⟨g', cap', rfl⟩ := row_form ho4; clear ho4 hg4 hat4))
          go_roundw
          case rel => exact ⟨j + 1, by go_num, by omega, ⟨_, _, by rw [Nat.add_assoc]⟩, R4.out⟩
          case measure => simp; omega
        · have hltI : ¬ (j : Int) < (k : Int) := by omega
          obtain rfl : k = j := by omega
          obtain ⟨⟨v1, v2, ls⟩, xs, T, hls, hcs, hns⟩ := HI.out
          rw [HS.out.2.1] at hls
          have hns' : ls.length ≤ 60000 := by have := HS.out.2.2.2.1; simp only [] at hns; omega
          obtain ⟨g, hg⟩ : ∃ g, ao = some ⟨g, 0, none⟩ := by
            obtain ⟨k', rfl⟩ : ∃ k', k = k' + 1 := ⟨k - 1, by omega⟩
            obtain ⟨g, uc', e⟩ := row_form (n := N + k') hls.own
            injection e with e1 _ _
            exact ⟨g, e1⟩
          subst hg
          have hcap : N + k ≤ uc := by
            obtain ⟨_, q | ⟨g', cap', cur, hv, _, _, hn, _⟩⟩ := hls.own
            · simp at q
            · injection hv with _ _ e
              rw [e]; exact hn
          have hcapI : (N : Int) + (k : Int) ≤ (uc : Int) := by omega
          have hm := hls.rm
          obtain ⟨a1, p1, rfl⟩ := owns_form (show wr.ownsRow (R + 1) 28 1 v1 ls.length _ from hm.o1)
          obtain ⟨a2, p2, rfl⟩ := owns_form (show wr.ownsRow (R + 1) 3 1 v2 ls.length _ from hm.o2)
          have c22 : wr.cell? ⟨R, 22, none⟩ = some (.slice a1 ls.length p1) := hm.c22
          have hsR : R + 1 ≤ wr.heap.size := hm.lt (.inl (.inl rfl))
          have HO1 : Hid ((wr.alloc (.cells #[.slice (some ⟨g, 0, none⟩) (N + k) uc] 28)).ownsRow (R + 1) 28 1 (.slice a1 ls.length p1) ls.length (ls.map Kr.v)) := World.ownsRow.alloc hm.o1 _
          have HY := hid (⟨hls, hcs, hns⟩ : LS R w s wr ⟨.slice a1 ls.length p1, .slice a2 ls.length p2, ls⟩ (.slice (some ⟨g, 0, none⟩) (N + k) uc) (N + k) (xs ++ markC Vd.zero Md.zero k) T ∧ RCellsD wr f T xs ∧ ls.length = s.ls.length + f.size)
          obtain ⟨L, hL⟩ : ∃ L, ls.length = L := ⟨_, rfl⟩
          have HLL := hid hL
          rw [hL] at c22 HO1 hns'
          clear hls hcs hns HI hm hL
          obtain ⟨i2, hi2, hy0, hy1, hy2⟩ := info_parts info28
          obtain ⟨i3, hi3, hx0, hx1, hx2⟩ := info_parts info3b
          go_wp2_with (first
            | (at_builtin; refine wpList_append_own_at _ rfl _ _ 45 rfl (R + 1) 28 i2 (.slice none 0 0) 1 24 Try.underlying45 hi2 hy0 hy1 hy2 rfl (by decide) (.slice a1 L p1) L (ls.map Kr.v) rfl HO1.out ⟨wr.heap.size, 0, none⟩ 1 1 [.slice (some ⟨g, 0, none⟩) (N + k) uc] rfl rfl (one_newV wr _ 28) (by intro u hu; simp at hu; subst hu; rfl) (by unfold maxLen; omega) (by omega) (by simp; omega) ?_; intro v1' w5 o5 g5 _ a5; have HO5 := hid (⟨o5, g5, a5⟩ : _ ∧ _ ∧ _); obtain ⟨b1, p3, rfl⟩ := row_form o5; clear o5 g5 a5; obtain ⟨q22, f22, q23, OO2, hs5⟩ := RM.five HY.out.1.rm (by rw [HLL.out]; exact HO5.out.2.1) (.slice (some ⟨b1, 0, none⟩) (L + 1) p3) (.cells #[.int .i64 N] 3); rw [HLL.out] at q22 q23; have OW2 := hid OO2; clear OO2)
            | (at_builtin; refine wpList_append_own_at _ rfl _ _ 34 rfl (R + 1) 3 i3 (.int .i64 0) 1 8 Try.underlying34 hi3 hx0 hx1 hx2 rfl (by decide) (.slice a2 L p2) L (ls.map fun e => .int .i64 e.n) rfl (by have h := OW2.out; rw [HLL.out] at h; exact h) ⟨w5.heap.size, 0, none⟩ 1 1 [.int .i64 N] rfl rfl (by have h := one_newV (w5.setCell ⟨R, 22, none⟩ (.slice (some ⟨b1, 0, none⟩) (L + 1) p3)) (.int .i64 N) 3; rw [setCell_sizeB] at h; exact h) (by intro u hu; simp at hu; subst hu; rfl) (by unfold maxLen; omega) (by omega) (by simp; omega) ?_; intro v2' w7 o7 g7 _ a7; have HO7 := hid (⟨o7, g7, a7⟩ : _ ∧ _ ∧ _); obtain ⟨b2, p4, rfl⟩ := row_form o7; clear o7 g7 a7; obtain ⟨t23, f23⟩ := RM.seven HY.out.1.rm (by rw [HLL.out]; exact HO5.out.2.1) (by rw [HLL.out]; exact HO7.out.2.1); rw [HLL.out] at t23))
          go_ret
          have HD := LS.done (v1' := .slice (some ⟨b1, 0, none⟩) (L + 1) p3) (v2' := .slice (some ⟨b2, 0, none⟩) (L + 1) p4) HY.out.1 (by rw [HY.out.2.1.len, HS.out.2.1]) hN2 hk (by rw [HLL.out]; exact HO5.out.1) (by rw [HLL.out]; exact HO5.out.2.1) (by rw [HLL.out]; exact HO5.out.2.2) (by rw [HLL.out]; exact HO7.out.1) (by rw [HLL.out]; exact HO7.out.2.1) (by rw [HLL.out]; exact HO7.out.2.2)
          refine ⟨_, rfl, _, HD.1, HD.2.1, ?_, LS.res HY.out.1 HS.out.2.1 HY.out.2.1 HD.2.2.1 HD.2.2.2.1 HD.2.2.2.2⟩
          simp only [List.length_append, List.length_singleton]
          rw [HY.out.2.2]
/-- layNodes, of whatever raw data -/
theorem lay_any (w0 : World) (R : Nat) (hR0 : w0.heap.size = R) : ∀ (Z : Nat) (f : F), f.size < Z → LayOk w0 R f := by
  intro Z
  induction Z with
  | zero => intro f h; omega
  | succ Z ih => exact fun f hZ => lay_step w0 R f hR0 fun ks hk => kid_of_lay w0 R ks (ih ks (by omega))
end Go.Proofs.Ytjkbhfkeagfhbaa
