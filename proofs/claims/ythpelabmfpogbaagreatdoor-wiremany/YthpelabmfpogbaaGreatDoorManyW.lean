/-
  WireMany: the walk of the law.
-/
import Derived.Test.YthpelabmfpogbaaGreatDoorMany2
import Derived.Deep.DeepCutAuto
namespace Go.Proofs.YthpelabmfpogbaaGreatDoor
open Go.RowKit Wire Bk

theorem wrap_fit (z : Int) (h1 : -9223372036854775808 ≤ z) (h2 : z ≤ 9223372036854775807) : IntKind.i64.wrap z = z := by rw [IntKind.wrap_i64]; omega

set_option maxHeartbeats 12000000 in
set_option maxRecDepth 100000 in
theorem many_short (vb vs : Value) (bl : List Int) (N : Nat) (L : List OpD) (w : World) (hb : Has w vb bl) (hBb : Bytes bl) (hops : HasOps w vs L) (hlb : bl.length ≤ 4096) (hN : 2 ≤ N ∧ N ≤ 20) (hL : L.length ≤ 60) :
    Calls Tryz.prog 5 #[vb, .int .i64 N, vs] w fun e w' => e = .returned (.bool true) ∧ Below w.heap.size w w' := by
  obtain ⟨ab, cb, rfl, hcb⟩ := hb.form
  obtain ⟨so, sc, rfl, hop⟩ := hops
  have HB : Hid (Has w (.slice ab bl.length cb) bl) := hb
  have HYB : Hid (Bytes bl) := hBb
  have HOP : Hid (∀ (i : Nat) (x : OpD), L[i]? = some x → x.ok ∧ ∃ g o, so = some ⟨g, o, none⟩ ∧ ∀ j y, (opCells x)[j]? = some y → w.cell? ⟨g, o + i * 4 + j, none⟩ = some y) := hop
  clear hb hBb hop
  go_enter Tryz.func5, Tryz.ntmps5
  go_upto_region 6 with (refine wpList_book rfl rfl rfl _ rfl rfl ?_)
  go_wp2
  have HX : Hid (∃ B, MA w (w.alloc bookObj) w.heap.size w.heap.size 0 B [] (.slice none 0 0)) :=
    ⟨_, book_new w w.heap.size (Nat.le_refl _), by simp, .nil, World.ownsRow_nil _ _ _ _, by simp [Value.ownBlock], (Below.refl _ _).alloc (Nat.le_refl _) _⟩
  go_loopw [8, 9] (fun v i wi => ∃ (j : Nat) (ps : List Pr), j ≤ N ∧ i = .int .i64 j ∧ Hid (ps.length = j ∧ (∀ p ∈ ps, Bytes p.l ∧ p.l.length ≤ 4096) ∧ MX w ps v 0 wi)) (fun v i _ => N - (intOf i).toNat)
  case atStart => exact ⟨0, [], Nat.zero_le _, rfl, rfl, by simp, HX.out⟩
  case round =>
    clear HX
    obtain ⟨j, ps, hj, rfl, HJ⟩ := hrel
    by_cases hjl : j < N
    · obtain ⟨hpl, hpb, B, hm⟩ := HJ.out
      have HM := hid hm
      have HPB := hid hpb
      have hlo : w.heap.size ≤ wr.heap.size := hm.bel.size
      clear hm HJ hpb
      obtain ⟨m, hm⟩ : ∃ m, min j bl.length = m := ⟨_, rfl⟩
      have hmb : m ≤ bl.length := by omega
      obtain ⟨A, hA⟩ : ∃ A, (if cb = m then ab else ab.map (·.add m)) = A := ⟨_, rfl⟩
      have HR : Hid (∀ wx, Below w.heap.size w wx → Has wx (.slice A (bl.length - m) (cb - m)) (bl.drop m)) := fun wx hx => has_cut (HB.out.below hx) hmb hA
      have HD : Hid (Below w.heap.size w wr) := HM.out.bel
      have BD : Hid (Below wr.heap.size wr wr.drew) := ⟨rfl, rfl, rfl, Nat.le_refl _, fun _ _ => rfl⟩
      have hdl : (bl.drop m).length ≤ 1048576 := by rw [List.length_drop]; omega
      go_wp2_with fail
      refine wp_region_any (by kernel_rfl) ?_
      change wpAny _ _ _ _ _ _ _ (World.drew _)
      refine wpAny_take (i := 0) (v := .slice ab bl.length cb) rfl (by kernel_rfl) (by kernel_rfl) (by kernel_rfl) (fun _ _ _ h => h) (Or.inl ⟨by kernel_rfl, ?_⟩) ?_
      · intro wz; go_simp
      refine wpAny_take (i := 1) (v := .int .i64 j) rfl (by kernel_rfl) (by kernel_rfl) (by kernel_rfl) (fun _ _ _ h => h) (Or.inl ⟨by kernel_rfl, ?_⟩) ?_
      · intro wz; go_simp
      refine wpAny_take (i := 2) (v := .slice ab bl.length cb) rfl (by kernel_rfl) (by kernel_rfl) (by kernel_rfl) (fun _ _ _ h => h) (Or.inl ⟨by kernel_rfl, ?_⟩) ?_
      · intro wz; go_simp
      refine wpAny_take (i := 3) (v := .int .i64 bl.length) rfl (by kernel_rfl) (by kernel_rfl) (by kernel_rfl) (fun _ _ _ h => h) (Or.inl ⟨by kernel_rfl, ?_⟩) ?_
      · intro wz; go_simp
      refine wpAny_take (i := 4) (v := .int .i64 m) rfl (by kernel_rfl) (by kernel_rfl) (by kernel_rfl) (fun _ _ _ h => h) (Or.inl ⟨by kernel_rfl, ?_⟩) ?_
      · intro wz; go_simp; split <;> omega
      refine wpAny_take (i := 5) (v := .slice A (bl.length - m) (cb - m)) rfl (by kernel_rfl) (by kernel_rfl) (by kernel_rfl) (fun _ _ _ h => h) (Or.inl ⟨by kernel_rfl, ?_⟩) ?_
      · intro wz; go_simp
      refine wpAny_take (i := 7) (v := .slice ab bl.length cb) rfl (by kernel_rfl) (by kernel_rfl) (by kernel_rfl) (fun _ _ _ h => h) (Or.inl ⟨by kernel_rfl, ?_⟩) ?_
      · intro wz; go_simp
      refine wpAny_take (i := 8) (v := .int .i64 j) rfl (by kernel_rfl) (by kernel_rfl) (by kernel_rfl) (fun _ _ _ h => h) (Or.inl ⟨by kernel_rfl, ?_⟩) ?_
      · intro wz; go_simp
      refine wpAny_take (i := 9) (v := .slice ab bl.length cb) rfl (by kernel_rfl) (by kernel_rfl) (by kernel_rfl) (fun _ _ _ h => h) (Or.inl ⟨by kernel_rfl, ?_⟩) ?_
      · intro wz; go_simp
      refine wpAny_take (i := 10) (v := .int .i64 bl.length) rfl (by kernel_rfl) (by kernel_rfl) (by kernel_rfl) (fun _ _ _ h => h) (Or.inl ⟨by kernel_rfl, ?_⟩) ?_
      · intro wz; go_simp
      refine wpAny_take (i := 11) (v := .int .i64 m) rfl (by kernel_rfl) (by kernel_rfl) (by kernel_rfl) (fun _ _ _ h => h) (Or.inl ⟨by kernel_rfl, ?_⟩) ?_
      · intro wz; go_simp; split <;> omega
      refine wpAny_take (i := 12) (v := .slice A (bl.length - m) (cb - m)) rfl (by kernel_rfl) (by kernel_rfl) (by kernel_rfl) (fun _ _ _ h => h) (Or.inl ⟨by kernel_rfl, ?_⟩) ?_
      · intro wz; go_simp
      try simp only [Act.put, List.getElem_toArray, List.getElem_cons_zero, List.getElem_cons_succ, List.setIfInBounds_toArray, List.set_cons_zero, List.set_cons_succ]
      refine wpAny_ready (rs := [6, 15]) (by kernel_rfl) (by simp) ?_
      refine AllReady.cons rfl (fun K' hK' => ?_) (AllReady.cons rfl (fun K' hK' => ?_) AllReady.nil)
      · go_simp
        refine (read_any _ (bl.drop m) _ (HR.out _ (Below.up HD.out BD.out)) hdl).mono ?_
        rintro e w1 ⟨R, rfl, hR, hr, hb1⟩
        have B1 : Hid (Below wr.heap.size wr w1) := Below.up BD.out hb1
        have G1 : Hid (∃ a, wr.heap.size ≤ a ∧ a ≤ R ∧ Rdr w1 a R (bl.drop m) 0 0 0) := ⟨_, Below.size BD.out, hR, hr⟩
        have L1 : Hid (R < w1.heap.size) := Rdr.lt hr
        clear hr hb1 hR
        refine hK' _ _ ?_
        clear hK' K'
        try simp only [Act.put, List.getElem_toArray, List.getElem_cons_zero, List.getElem_cons_succ, List.setIfInBounds_toArray, List.set_cons_zero, List.set_cons_succ]
        refine wpAny_ready (rs := [13, 15]) (by kernel_rfl) (by simp) ?_
        refine AllReady.cons rfl (fun K' hK' => ?_) (AllReady.cons rfl (fun K' hK' => ?_) AllReady.nil)
        · go_simp
          refine (refRead_any _ (bl.drop m) _ (HR.out _ (Below.up (Below.up HD.out B1.out) (below0 w1))) hdl).mono ?_
          rintro e w2 ⟨M, rfl, hM, hm, hb2⟩
          have B2 : Hid (Below w1.heap.size w1 w2) := Below.up (below0 w1) hb2
          have G2 : Hid (∃ c, R < c ∧ c ≤ M ∧ RfS w2 c M (bl.drop m) ⟨0, 0, 0⟩) := ⟨_, Nat.lt_of_lt_of_le L1.out (Below.size (below0 w1)), hM, hm⟩
          clear hm hb2 hM
          refine hK' _ _ ?_
          clear hK' K'
          refine wpAny_take (i := 14) (v := .agg #[.pointer (some ⟨R, 0, none⟩), .pointer (some ⟨M, 0, none⟩)]) rfl (by kernel_rfl) (by kernel_rfl) (by kernel_rfl) (fun _ _ _ h => h) (Or.inl ⟨by kernel_rfl, ?_⟩) ?_
          · intro wz; go_simp
          try simp only [Act.put, List.getElem_toArray, List.getElem_cons_zero, List.getElem_cons_succ, List.setIfInBounds_toArray, List.set_cons_zero, List.set_cons_succ]
          refine wpAny_ready (rs := [15]) (by kernel_rfl) (by simp) ?_
          refine AllReady.cons rfl (fun K' hK' => ?_) AllReady.nil
          go_simp
          refine hK' _ _ ?_
          clear hK' K'
          try simp only [Act.put, List.getElem_toArray, List.getElem_cons_zero, List.getElem_cons_succ, List.setIfInBounds_toArray, List.set_cons_zero, List.set_cons_succ]
          refine wpAny_ready (rs := [16]) (by kernel_rfl) (by simp) ?_
          refine AllReady.cons rfl (fun K' hK' => ?_) AllReady.nil
          go_simp
          refine hK' _ _ ?_
          clear hK' K'
          refine wpAny_done (by kernel_rfl) ?_ _
          have MD : Hid (Made wr (w2.alloc (.cells #[.pointer (some ⟨R, 0, none⟩), .pointer (some ⟨M, 0, none⟩)] 63)) (w2.heap.size) R M (bl.drop m)) := by
            obtain ⟨a, ha1, ha2, hr⟩ := G1.out
            obtain ⟨c, hc1, hc2, hm⟩ := G2.out
            exact made_new B1.out B2.out ha1 ha2 hc1 hc2 hr hm
          clear B1 B2 G1 G2 L1
          obtain ⟨wz, ewz⟩ : ∃ wz, w2.alloc (.cells #[.pointer (some ⟨R, 0, none⟩), .pointer (some ⟨M, 0, none⟩)] 63) = wz := ⟨_, rfl⟩
          obtain ⟨bx, ebx⟩ : ∃ bx, w2.heap.size = bx := ⟨_, rfl⟩
          rw [ewz] at MD
          rw [ewz]
          rw [ebx] at MD
          rw [ebx]
          clear ewz ebx
          obtain ⟨c0, c1, hbx⟩ := MD.out.cells
          have MM : Hid (∃ p : Pr, p.R = R ∧ p.M = M ∧ p.l = bl.drop m ∧ MA w (wz.alloc (.cells #[.pointer (some ⟨R, 0, none⟩), .pointer (some ⟨M, 0, none⟩)] 63)) w.heap.size w.heap.size 0 B ps u8 ∧ Two (wz.alloc (.cells #[.pointer (some ⟨R, 0, none⟩), .pointer (some ⟨M, 0, none⟩)] 63)) w.heap.size w.heap.size 0 B p.a p.R p.c p.M p.l ⟨0, 0, 0⟩ ∧ (∀ q ∈ ps, q.M < p.a) ∧ ∀ b, u8.ownBlock = some b → p.off b) := by
            obtain ⟨a, c, ha, haR, hRc, hcM, hr, hf⟩ := MD.out.rd
            have bz := below1 wz (.cells #[.pointer (some ⟨R, 0, none⟩), .pointer (some ⟨M, 0, none⟩)] 63)
            have lz := hf.lt
            exact ⟨⟨a, R, c, M, bl.drop m⟩, rfl, rfl, rfl, HM.out.more hlo (Below.up MD.out.bel bz) (p := ⟨a, R, c, M, bl.drop m⟩) (s := ⟨0, 0, 0⟩) (Rdr.below hr bz) (hf.kept fun k _ hk => bz.block k (Nat.lt_of_le_of_lt hk lz)) ha haR hRc hcM⟩
          obtain ⟨p, rfl, rfl, hpL, hma, hp2, hap, hoff⟩ := MM.out
          have HMA := hid hma
          have HP2 := hid hp2
          have HAP := hid hap
          have HOF := hid hoff
          have HPL := hid hpL
          have hlz : w.heap.size ≤ (wz.alloc (.cells #[.pointer (some ⟨p.R, 0, none⟩), .pointer (some ⟨p.M, 0, none⟩)] 63)).heap.size := hma.bel.size
          clear hma hp2 hap hoff hpL MM
          go_wp2_with (at_builtin; refine wpList_append_pair rfl (.tmp 56) (.tmp 58) rfl HMA.out hlz HP2.out HAP.out HOF.out (by omega) wz.heap.size rfl rfl (by simp) (by simp) ?_; intro v' w' hma')
          have HN := hid hma'
          clear hma' HMA HP2 HAP HOF
          exact ⟨⟨j + 1, ps ++ [p], by omega, by go_num, by simp [hpl], fun q hq => by
            rcases List.mem_append.1 hq with hq | hq
            · exact HPB.out q hq
            · obtain rfl : q = p := by simpa using hq
              rw [HPL.out, List.length_drop]
              exact ⟨fun b hb => HYB.out b (List.mem_of_mem_drop hb), by omega⟩, B, HN.out⟩, by simp [intOf]; omega⟩
        · go_simp
          refine hK' _ _ ?_
          clear hK' K'
          refine wpAny_ready (rs := [13]) (by kernel_rfl) (by simp) ?_
          refine AllReady.cons rfl (fun K' hK' => ?_) AllReady.nil
          go_simp
          refine (refRead_any _ (bl.drop m) _ (HR.out _ (Below.up (Below.up HD.out B1.out) (below1 w1 _))) hdl).mono ?_
          rintro e w2 ⟨M, rfl, hM, hm, hb2⟩
          have B2 : Hid (Below w1.heap.size w1 w2) := Below.up (below1 w1 _) hb2
          have G2 : Hid (∃ c, w1.heap.size < c ∧ c ≤ M ∧ RfS w2 c M (bl.drop m) ⟨0, 0, 0⟩) := ⟨_, by simp, hM, hm⟩
          have X2 := hid (boxed hb2)
          clear hm hb2 hM
          refine hK' _ _ ?_
          clear hK' K'
          refine wpAny_take (i := 14) (v := .agg #[.pointer (some ⟨R, 0, none⟩), .pointer (some ⟨M, 0, none⟩)]) rfl (by kernel_rfl) (by kernel_rfl) (by kernel_rfl) (fun _ _ _ h => h) (Or.inl ⟨by kernel_rfl, ?_⟩) ?_
          · intro wz; go_simp
          try simp only [Act.put, List.getElem_toArray, List.getElem_cons_zero, List.getElem_cons_succ, List.setIfInBounds_toArray, List.set_cons_zero, List.set_cons_succ]
          obtain ⟨c0, c1, z0, z1⟩ := X2.out.facts
          refine wpAny_ready (rs := [16]) (by kernel_rfl) (by simp) ?_
          refine AllReady.cons rfl (fun K' hK' => ?_) AllReady.nil
          go_simp
          refine hK' _ _ ?_
          clear hK' K'
          refine wpAny_done (by kernel_rfl) ?_ _
          clear c0 c1 z0 z1
          have MD : Hid (Made wr ((w2.setCell ⟨w1.heap.size, 0, none⟩ (.pointer (some ⟨R, 0, none⟩))).setCell ⟨w1.heap.size, 1, none⟩ (.pointer (some ⟨M, 0, none⟩))) (w1.heap.size) R M (bl.drop m)) := by
            obtain ⟨a, ha1, ha2, hr⟩ := G1.out
            obtain ⟨c, hc1, hc2, hm⟩ := G2.out
            have l1 := L1.out
            exact made_set B1.out B2.out ha1 ha2 (by omega) hc2 hr hm B1.out.size X2.out (.inr l1) (.inl hc1)
          clear B1 B2 G1 G2 L1 X2
          obtain ⟨wz, ewz⟩ : ∃ wz, (w2.setCell ⟨w1.heap.size, 0, none⟩ (.pointer (some ⟨R, 0, none⟩))).setCell ⟨w1.heap.size, 1, none⟩ (.pointer (some ⟨M, 0, none⟩)) = wz := ⟨_, rfl⟩
          obtain ⟨bx, ebx⟩ : ∃ bx, w1.heap.size = bx := ⟨_, rfl⟩
          rw [ewz] at MD
          rw [ewz]
          rw [ebx] at MD
          rw [ebx]
          clear ewz ebx
          obtain ⟨c0, c1, hbx⟩ := MD.out.cells
          have MM : Hid (∃ p : Pr, p.R = R ∧ p.M = M ∧ p.l = bl.drop m ∧ MA w (wz.alloc (.cells #[.pointer (some ⟨R, 0, none⟩), .pointer (some ⟨M, 0, none⟩)] 63)) w.heap.size w.heap.size 0 B ps u8 ∧ Two (wz.alloc (.cells #[.pointer (some ⟨R, 0, none⟩), .pointer (some ⟨M, 0, none⟩)] 63)) w.heap.size w.heap.size 0 B p.a p.R p.c p.M p.l ⟨0, 0, 0⟩ ∧ (∀ q ∈ ps, q.M < p.a) ∧ ∀ b, u8.ownBlock = some b → p.off b) := by
            obtain ⟨a, c, ha, haR, hRc, hcM, hr, hf⟩ := MD.out.rd
            have bz := below1 wz (.cells #[.pointer (some ⟨R, 0, none⟩), .pointer (some ⟨M, 0, none⟩)] 63)
            have lz := hf.lt
            exact ⟨⟨a, R, c, M, bl.drop m⟩, rfl, rfl, rfl, HM.out.more hlo (Below.up MD.out.bel bz) (p := ⟨a, R, c, M, bl.drop m⟩) (s := ⟨0, 0, 0⟩) (Rdr.below hr bz) (hf.kept fun k _ hk => bz.block k (Nat.lt_of_le_of_lt hk lz)) ha haR hRc hcM⟩
          obtain ⟨p, rfl, rfl, hpL, hma, hp2, hap, hoff⟩ := MM.out
          have HMA := hid hma
          have HP2 := hid hp2
          have HAP := hid hap
          have HOF := hid hoff
          have HPL := hid hpL
          have hlz : w.heap.size ≤ (wz.alloc (.cells #[.pointer (some ⟨p.R, 0, none⟩), .pointer (some ⟨p.M, 0, none⟩)] 63)).heap.size := hma.bel.size
          clear hma hp2 hap hoff hpL MM
          go_wp2_with (at_builtin; refine wpList_append_pair rfl (.tmp 56) (.tmp 58) rfl HMA.out hlz HP2.out HAP.out HOF.out (by omega) wz.heap.size rfl rfl (by simp) (by simp) ?_; intro v' w' hma')
          have HN := hid hma'
          clear hma' HMA HP2 HAP HOF
          exact ⟨⟨j + 1, ps ++ [p], by omega, by go_num, by simp [hpl], fun q hq => by
            rcases List.mem_append.1 hq with hq | hq
            · exact HPB.out q hq
            · obtain rfl : q = p := by simpa using hq
              rw [HPL.out, List.length_drop]
              exact ⟨fun b hb => HYB.out b (List.mem_of_mem_drop hb), by omega⟩, B, HN.out⟩, by simp [intOf]; omega⟩
      · go_simp
        refine hK' _ _ ?_
        clear hK' K'
        refine wpAny_ready (rs := [6]) (by kernel_rfl) (by simp) ?_
        refine AllReady.cons rfl (fun K' hK' => ?_) AllReady.nil
        go_simp
        refine (read_any _ (bl.drop m) _ (HR.out _ (Below.up HD.out (BD.out.alloc (Nat.le_refl _) _))) hdl).mono ?_
        rintro e w1 ⟨R, rfl, hR, hr, hb1⟩
        have B1 : Hid (Below wr.heap.size wr w1) := Below.up (BD.out.alloc (Nat.le_refl _) _) hb1
        have G1 : Hid (∃ a, wr.heap.size < a ∧ a ≤ R ∧ Rdr w1 a R (bl.drop m) 0 0 0) := ⟨_, by simp, hR, hr⟩
        have L1 : Hid (R < w1.heap.size) := Rdr.lt hr
        have X0 := boxed (w := wr.drew) hb1
        have X1 : Hid (BoxAt w1 wr.heap.size) := X0
        clear X0
        clear hr hb1 hR
        refine hK' _ _ ?_
        clear hK' K'
        try simp only [Act.put, List.getElem_toArray, List.getElem_cons_zero, List.getElem_cons_succ, List.setIfInBounds_toArray, List.set_cons_zero, List.set_cons_succ]
        refine wpAny_ready (rs := [13]) (by kernel_rfl) (by simp) ?_
        refine AllReady.cons rfl (fun K' hK' => ?_) AllReady.nil
        go_simp
        refine (refRead_any _ (bl.drop m) _ (HR.out _ (Below.up (Below.up HD.out B1.out) (below0 w1))) hdl).mono ?_
        rintro e w2 ⟨M, rfl, hM, hm, hb2⟩
        have B2 : Hid (Below w1.heap.size w1 w2) := Below.up (below0 w1) hb2
        have G2 : Hid (∃ c, R < c ∧ c ≤ M ∧ RfS w2 c M (bl.drop m) ⟨0, 0, 0⟩) := ⟨_, Nat.lt_of_lt_of_le L1.out (Below.size (below0 w1)), hM, hm⟩
        have X2 := hid (X1.out.up hb2)
        clear hm hb2 hM
        refine hK' _ _ ?_
        clear hK' K'
        refine wpAny_take (i := 14) (v := .agg #[.pointer (some ⟨R, 0, none⟩), .pointer (some ⟨M, 0, none⟩)]) rfl (by kernel_rfl) (by kernel_rfl) (by kernel_rfl) (fun _ _ _ h => h) (Or.inl ⟨by kernel_rfl, ?_⟩) ?_
        · intro wz; go_simp
        try simp only [Act.put, List.getElem_toArray, List.getElem_cons_zero, List.getElem_cons_succ, List.setIfInBounds_toArray, List.set_cons_zero, List.set_cons_succ]
        obtain ⟨c0, c1, z0, z1⟩ := X2.out.facts
        refine wpAny_ready (rs := [16]) (by kernel_rfl) (by simp) ?_
        refine AllReady.cons rfl (fun K' hK' => ?_) AllReady.nil
        go_simp
        refine hK' _ _ ?_
        clear hK' K'
        refine wpAny_done (by kernel_rfl) ?_ _
        clear c0 c1 z0 z1
        have MD : Hid (Made wr ((w2.setCell ⟨wr.heap.size, 0, none⟩ (.pointer (some ⟨R, 0, none⟩))).setCell ⟨wr.heap.size, 1, none⟩ (.pointer (some ⟨M, 0, none⟩))) (wr.heap.size) R M (bl.drop m)) := by
          obtain ⟨a, ha1, ha2, hr⟩ := G1.out
          obtain ⟨c, hc1, hc2, hm⟩ := G2.out
          exact made_set B1.out B2.out (by omega) ha2 hc1 hc2 hr hm (Nat.le_refl _) X2.out (.inl ha1) (.inl (by omega))
        clear B1 B2 G1 G2 L1 X1 X2
        obtain ⟨wz, ewz⟩ : ∃ wz, (w2.setCell ⟨wr.heap.size, 0, none⟩ (.pointer (some ⟨R, 0, none⟩))).setCell ⟨wr.heap.size, 1, none⟩ (.pointer (some ⟨M, 0, none⟩)) = wz := ⟨_, rfl⟩
        obtain ⟨bx, ebx⟩ : ∃ bx, wr.heap.size = bx := ⟨_, rfl⟩
        rw [ewz] at MD
        rw [ewz]
        rw [ebx] at MD
        rw [ebx]
        clear ewz ebx
        obtain ⟨c0, c1, hbx⟩ := MD.out.cells
        have MM : Hid (∃ p : Pr, p.R = R ∧ p.M = M ∧ p.l = bl.drop m ∧ MA w (wz.alloc (.cells #[.pointer (some ⟨R, 0, none⟩), .pointer (some ⟨M, 0, none⟩)] 63)) w.heap.size w.heap.size 0 B ps u8 ∧ Two (wz.alloc (.cells #[.pointer (some ⟨R, 0, none⟩), .pointer (some ⟨M, 0, none⟩)] 63)) w.heap.size w.heap.size 0 B p.a p.R p.c p.M p.l ⟨0, 0, 0⟩ ∧ (∀ q ∈ ps, q.M < p.a) ∧ ∀ b, u8.ownBlock = some b → p.off b) := by
          obtain ⟨a, c, ha, haR, hRc, hcM, hr, hf⟩ := MD.out.rd
          have bz := below1 wz (.cells #[.pointer (some ⟨R, 0, none⟩), .pointer (some ⟨M, 0, none⟩)] 63)
          have lz := hf.lt
          exact ⟨⟨a, R, c, M, bl.drop m⟩, rfl, rfl, rfl, HM.out.more hlo (Below.up MD.out.bel bz) (p := ⟨a, R, c, M, bl.drop m⟩) (s := ⟨0, 0, 0⟩) (Rdr.below hr bz) (hf.kept fun k _ hk => bz.block k (Nat.lt_of_le_of_lt hk lz)) ha haR hRc hcM⟩
        obtain ⟨p, rfl, rfl, hpL, hma, hp2, hap, hoff⟩ := MM.out
        have HMA := hid hma
        have HP2 := hid hp2
        have HAP := hid hap
        have HOF := hid hoff
        have HPL := hid hpL
        have hlz : w.heap.size ≤ (wz.alloc (.cells #[.pointer (some ⟨p.R, 0, none⟩), .pointer (some ⟨p.M, 0, none⟩)] 63)).heap.size := hma.bel.size
        clear hma hp2 hap hoff hpL MM
        go_wp2_with (at_builtin; refine wpList_append_pair rfl (.tmp 56) (.tmp 58) rfl HMA.out hlz HP2.out HAP.out HOF.out (by omega) wz.heap.size rfl rfl (by simp) (by simp) ?_; intro v' w' hma')
        have HN := hid hma'
        clear hma' HMA HP2 HAP HOF
        exact ⟨⟨j + 1, ps ++ [p], by omega, by go_num, by simp [hpl], fun q hq => by
          rcases List.mem_append.1 hq with hq | hq
          · exact HPB.out q hq
          · obtain rfl : q = p := by simpa using hq
            rw [HPL.out, List.length_drop]
            exact ⟨fun b hb => HYB.out b (List.mem_of_mem_drop hb), by omega⟩, B, HN.out⟩, by simp [intOf]; omega⟩
    · obtain rfl : j = N := by omega
      obtain ⟨hpl, hpb, hx⟩ := HJ.out
      obtain ⟨g, cap, hv⟩ := hx.form (by omega)
      rw [hpl] at hv
      subst hv
      have HX := hid hx
      have HPB := hid hpb
      clear hx hpb HJ
      go_wp2
      go_loopw [11] (fun i wi => ∃ (t : Nat), t ≤ L.length ∧ i = .int .i64 t ∧ Hid (∃ n, n ≤ t * j ∧ MX w ps (.slice (some ⟨g, 0, none⟩) j cap) n wi)) (fun i _ => L.length - (intOf i).toNat)
      case atStart => exact ⟨0, Nat.zero_le _, rfl, 0, Nat.zero_le _, HX.out⟩
      case round =>
        clear HX
        obtain ⟨t, ht, rfl, HJ⟩ := hrel
        by_cases htl : t < L.length
        · obtain ⟨⟨kd, sec, most, nn⟩, hop⟩ : ∃ q, L[t]? = some q := ⟨_, List.getElem?_eq_getElem htl⟩
          obtain ⟨ok, go, o, rfl, hcs⟩ := HOP.out t _ hop
          clear hop
          have OK : Hid (-9223372036854775808 ≤ nn ∧ nn ≤ 9223372036854775807) := ok
          have HC := hid hcs
          clear hcs ok
          go_wp2
          go_loopw [12] (fun i wi => ∃ (u : Nat), u ≤ j ∧ i = .int .i64 u ∧ Hid (∃ n, n ≤ t * j + u ∧ MX w ps (.slice (some ⟨g, 0, none⟩) j cap) n wi)) (fun i _ => j - (intOf i).toNat)
          case atStart =>
            obtain ⟨n, hn, hx⟩ := HJ.out
            exact ⟨0, Nat.zero_le _, rfl, n, by omega, hx⟩
          case round =>
            clear HJ
            obtain ⟨u, hu, rfl, HU⟩ := hrel
            by_cases hul : u < j
            · obtain ⟨n, hn, hx⟩ := HU.out
              have HX := hid hx
              clear hx HU
              obtain ⟨x, ex⟩ : ∃ x, (t + u * 7) % j = x := ⟨_, rfl⟩
              have hxj : x < j := by rw [← ex]; exact Nat.mod_lt _ (by omega)
              have fx : Int.tmod ((t : Int) + (u : Int) * 7) (j : Int) = (x : Int) := by rw [Int.tmod_eq_emod_of_nonneg (by omega), ← ex]; push_cast; rfl
              clear ex
              obtain ⟨p, hp⟩ : ∃ p, ps[x]? = some p := ⟨_, List.getElem?_eq_getElem (by omega)⟩
              obtain ⟨pc0, pc1⟩ := HX.out.pc hp
              have oc0 : wr.cell? ⟨go, o + t * 4, none⟩ = some (.int .i64 kd) := bcell HX.out.bel (HC.out 0 _ rfl)
              have oc1 : wr.cell? ⟨go, o + t * 4 + 1, none⟩ = some (.bool sec) := bcell HX.out.bel (HC.out 1 _ rfl)
              have oc2 : wr.cell? ⟨go, o + t * 4 + 2, none⟩ = some (.int .u64 most) := bcell HX.out.bel (HC.out 2 _ rfl)
              have oc3 : wr.cell? ⟨go, o + t * 4 + 3, none⟩ = some (.int .i64 nn) := bcell HX.out.bel (HC.out 3 _ rfl)
              have hnb : n ≤ 2000 := by
                have : t * j ≤ 60 * 20 := Nat.mul_le_mul (by omega) (by omega)
                omega
              have CD := hid ((HX.out.up (w' := wr.drew) ⟨rfl, rfl, rfl, Nat.le_refl _, fun _ _ => rfl⟩).does hp (HPB.out p (List.mem_of_getElem? hp)).1 (by have := (HPB.out p (List.mem_of_getElem? hp)).2; omega) kd sec most nn (1000 * t + 20 * u) OK.out (by omega) (by omega))
              rw [show ((1000 * t + 20 * u : Nat) : Int) = IntKind.i64.wrap (IntKind.i64.wrap (1000 * (t : Int)) + IntKind.i64.wrap (20 * (u : Int))) by rw [wrap_fit (1000 * (t : Int)) (by omega) (by omega), wrap_fit (20 * (u : Int)) (by omega) (by omega), wrap_fit _ (by omega) (by omega)]; omega] at CD
              have KK := hid (fun wz (n' : Nat) (hz : MX w ps (.slice (some ⟨g, 0, none⟩) j cap) n' wz) => (⟨(hz.pc hp).1, (hz.pc hp).2, bcell hz.bel (HC.out 0 _ rfl), bcell hz.bel (HC.out 1 _ rfl), bcell hz.bel (HC.out 2 _ rfl), bcell hz.bel (HC.out 3 _ rfl)⟩ : wz.cell? ⟨g, x * 2, none⟩ = some (.pointer (some ⟨p.R, 0, none⟩)) ∧ wz.cell? ⟨g, x * 2 + 1, none⟩ = some (.pointer (some ⟨p.M, 0, none⟩)) ∧ wz.cell? ⟨go, o + t * 4, none⟩ = some (.int .i64 kd) ∧ wz.cell? ⟨go, o + t * 4 + 1, none⟩ = some (.bool sec) ∧ wz.cell? ⟨go, o + t * 4 + 2, none⟩ = some (.int .u64 most) ∧ wz.cell? ⟨go, o + t * 4 + 3, none⟩ = some (.int .i64 nn)))
              go_wp2
              go_region_held3 (fun w' => w'.cell? ⟨g, x * 2, none⟩ = some (.pointer (some ⟨p.R, 0, none⟩)) ∧ w'.cell? ⟨g, x * 2 + 1, none⟩ = some (.pointer (some ⟨p.M, 0, none⟩)) ∧ w'.cell? ⟨go, o + t * 4, none⟩ = some (.int .i64 kd) ∧ w'.cell? ⟨go, o + t * 4 + 1, none⟩ = some (.bool sec) ∧ w'.cell? ⟨go, o + t * 4 + 2, none⟩ = some (.int .u64 most) ∧ w'.cell? ⟨go, o + t * 4 + 3, none⟩ = some (.int .i64 nn)) (first | go_keep | (refine ⟨?_, ?_, ?_, ?_, ?_, ?_⟩ <;> assumption))
                (first
                | (go_at_call 19
                   refine CD.out.mono ?_
                   rintro e w1 ⟨rfl, n', hn', hx'⟩
                   obtain ⟨k0, k1, k2, k3, k4, k5⟩ := KK.out w1 n' hx'
                   have HX' := hid hx'
                   clear hx'))
              all_goals
                clear CD KK k0 k1 k2 k3 k4 k5
                go_wp2
                exact ⟨⟨u + 1, by omega, by go_num, n', by omega, HX'.out⟩, by simp [intOf]; omega⟩
            · obtain rfl : u = j := by omega
              go_wp2
              obtain ⟨n, hn, hx⟩ := HU.out
              exact ⟨⟨t + 1, by omega, by go_num, n, by rw [Nat.succ_mul]; omega, hx⟩, by simp [intOf]; omega⟩
        · obtain rfl : t = L.length := by omega
          obtain ⟨n, hn, hx⟩ := HJ.out
          have hnb : n ≤ 2000 := by
            have : L.length * j ≤ 60 * 20 := Nat.mul_le_mul (by omega) (by omega)
            omega
          have HX := hid hx
          clear hx HJ
          go_wp2
          go_loopw [14] (fun i wi => ∃ (u : Nat), u ≤ j ∧ i = .int .i64 u ∧ Hid (MX w ps (.slice (some ⟨g, 0, none⟩) j cap) n wi)) (fun i _ => j - (intOf i).toNat)
          case atStart => exact ⟨0, Nat.zero_le _, rfl, HX.out⟩
          case round =>
            clear HX
            obtain ⟨u, hu, rfl, HX⟩ := hrel
            by_cases hul : u < j
            · obtain ⟨p, hp⟩ : ∃ p, ps[u]? = some p := ⟨_, List.getElem?_eq_getElem (by omega)⟩
              obtain ⟨pc0, pc1⟩ := HX.out.pc hp
              have CS := hid (HX.out.stands hp)
              go_wp2_with fail
              refine CS.out.mono ?_
              rintro e we ⟨rfl, hx1⟩
              have HX3 := hid hx1
              clear hx1 CS HX pc0 pc1
              go_wp2
              exact ⟨⟨u + 1, by omega, by go_num, HX3.out⟩, by simp [intOf]; omega⟩
            · obtain rfl : u = j := by omega
              have CH := hid (HX.out.hold (by omega))
              go_wp2_with fail
              refine CH.out.mono ?_
              rintro e we ⟨rfl, hx1⟩
              have HX3 := hid hx1
              clear hx1 CH HX
              go_wp2
              go_ret
              exact ⟨rfl, HX3.out.bel⟩
end Go.Proofs.YthpelabmfpogbaaGreatDoor
