import Derived.Test.YtbjjbgaomoihaaaGreatDoorGl
set_option maxRecDepth 100000
set_option maxHeartbeats 4000000
namespace Go.Proofs.YtbjjbgaomoihaaaGreatDoor.Bk
open Go.RowKit
theorem wpList_append_texts {w : World} {ops : Array Oper} {rest : List Oper} {o : Oper} {a : Act} {Q : Exit → Act → World → Prop} (hgd : o.guard = none) (s x : Operand)
    (ho : o.op = .call { callee := .builtin .append, args := #[s, x], argTypes := #[56, 56] })
    (lo : Nat) (v vx : Value) (m l : List ByteArray) (hs : a.eval s = v) (hx : a.eval x = vx) (hown : OwnsT w lo v m) (hhas : HasT w vx l)
    (hlen : m.length + l.length ≤ 1048576) (hbase : lo ≤ w.heap.size)
    (h : ∀ v' w', OwnsT w' lo v' (m ++ l) → Below lo w w' → wpList Tryz.prog ops Q rest (a.put o.dst v') w') : wpList Tryz.prog ops Q (o :: rest) a w := by
  obtain ⟨i0, hi, hz0, hz1, hz2⟩ := info_parts Tryz.info9
  rcases hhas with ⟨rfl, rfl⟩ | ⟨ad, cap, rfl, hc, hcell⟩
  · refine wpList_append_own_none hgd s x 56 ho lo 9 i0 1 Tryz.underlying56 hi v m.length (m.map Value.string) hs hown hx ?_
    exact h v w (by simpa using hown) (Below.refl _ _)
  · refine wpList_append_own w hgd s x 56 ho lo 9 i0 (.string ⟨#[]⟩) 1 16 Tryz.underlying56 hi hz0 hz1 hz2 rfl (by decide) v m.length (m.map Value.string) hs hown ad l.length cap (l.map Value.string) hx (by simp) ?_ ?_ ?_ ?_ hbase ?_
    · intro j u hj
      rw [List.getElem?_map] at hj
      obtain ⟨s0, hs0, rfl⟩ := Option.map_eq_some_iff.1 hj
      exact hcell j s0 hs0
    · intro u hu; obtain ⟨x, _, rfl⟩ := List.mem_map.1 hu; rfl
    · unfold maxLen; omega
    · omega
    · intro v' w' h1 h2 _
      refine h v' w' ?_ ((Below.refl lo w).grown h2 hbase fun k hk => (World.ownsRow.lt hown k hk).1)
      unfold OwnsT
      simpa using h1
end Go.Proofs.YtbjjbgaomoihaaaGreatDoor.Bk
namespace Go.Proofs.YtbjjbgaomoihaaaGreatDoor
open Go.RowKit Bk
theorem drop_names : ∀ (f : F) (k : Nat) {nm : ByteArray} {v : Vd} {m : Md} {ks r : F}, f.drop k = .cons nm v m ks r → namesF f → nameB (tl nm) = true ∧ namesF ks ∧ ks.depth + 1 ≤ f.depth
  | .nil, k, _, _, _, _, _, h, _ => by rw [F.drop_nil] at h; cases h
  | .cons a b c d e, 0, _, _, _, _, _, h, ⟨h1, h2, _⟩ => by
    rw [F.drop_zero] at h
    cases h
    exact ⟨h1, h2, by rw [F.depth]; omega⟩
  | .cons a b c d e, k + 1, _, _, _, _, _, h, ⟨_, _, h3⟩ => by
    obtain ⟨x, y, z⟩ := drop_names e k (by simpa [F.drop] using h) h3
    exact ⟨x, y, by rw [F.depth]; omega⟩
theorem drop_end {f : F} {k : Nat} (h : f.len ≤ k) : f.drop k = .nil := by
  have e := F.drop_len f k
  rw [Nat.sub_eq_zero_of_le h] at e
  cases hf : f.drop k with
  | nil => rfl
  | cons a b c d r => rw [hf, F.len] at e; omega
theorem owns_form2 {w : World} {lo : Nat} {v : Value} {l : List ByteArray} (h : OwnsT w lo v l) : ∃ p n c, v = .slice p n c := by
  obtain ⟨p, c, e⟩ := OwnsT.form h
  exact ⟨p, _, c, e⟩
def BehOk (ks : F) : Prop := ∀ (nm : ByteArray) (v : Vd) (m : Md) (c : Array Value) (w : World) (p : ByteArray), HasN w c nm v m ks → namesF ks → p.size + 256 * ks.depth ≤ 1000000 → ks.size ≤ 1000 →
    Calls Tryz.prog 9 #[.agg c, .string p] w fun e w' => ∃ u, e = .returned u ∧ OwnsT w' w.heap.size u (behF ks p ++ [p]) ∧ G w w'
theorem behind_any : ∀ (Z : Nat) (ks : F), ks.size < Z → BehOk ks := by
  intro Z
  induction Z with
  | zero => intro f h; omega
  | succ Z ih =>
    intro ks hZ nm v m c w p ⟨kv, hc, hS⟩ hnm hp hsz
    obtain ⟨a, cap, rfl, _⟩ := hS.form
    obtain ⟨N, hN⟩ : ∃ N, ks.len = N := ⟨_, rfl⟩
    have hN2 : N ≤ 1000 := by have := ks.len_le_size; omega
    rw [hN] at hc
    obtain ⟨B, hB⟩ : ∃ B, w.heap.size = B := ⟨_, rfl⟩
    obtain ⟨w1, hw1⟩ : ∃ w1, w.alloc (.cells c 30) = w1 := ⟨_, rfl⟩
    have g1 : G w w1 := by rw [← hw1]; exact G.alloc w _
    have v1 : Var w1 B c := by rw [← hw1, ← hB]; exact Var.new w c
    have H2 : Hid (G w w1 ∧ Var w1 B c ∧ ∃ L, OwnsT w1 (B + 1) (.slice none 0 0) L ∧ behF ks p = L ++ behF (ks.drop 0) p) := ⟨g1, v1, [], OwnsT.nil _ _, by rw [F.drop_zero]; rfl⟩
    have HS := hid (⟨hS, hN, hZ, hnm, hp, hsz, hc, hB⟩ : _ ∧ _ ∧ _ ∧ _ ∧ _ ∧ _ ∧ _ ∧ _)
    have HIH := hid ih
    clear hc hS hN hZ ih g1 v1 hnm hp hsz
    have hb2 : p.size = 0 ∨ ¬ p.size = 0 := Classical.em _
    go_enter Tryz.func9, Tryz.ntmps9
    go_upto_region 2 with fail
    clear hw1 hB
    go_wp2
    go_loopg [5, 6] N (fun gh u i wr => ∃ k : Nat, k ≤ N ∧ gh = N - k ∧ i = .int .i64 (k : Int) ∧ Hid (G w wr ∧ Var wr B c ∧ ∃ L, OwnsT wr (B + 1) u L ∧ behF ks p = L ++ behF (ks.drop k) p))
    case atStart => exact ⟨0, Nat.zero_le _, rfl, rfl, H2.out⟩
    case round =>
      clear H2
      obtain ⟨k, hk, rfl, rfl, HI⟩ := hrel
      have q40 : wr.cell? ⟨B, 40, none⟩ = some (.slice a N cap) := (cell_of_row _ _ 40 _ _ _ HI.out.2.1).trans (by rw [HS.out.2.2.2.2.2.2.1]; exact nc_kids ..)
      have hBw := HS.out.2.2.2.2.2.2.2
      by_cases hlt : k < N
      · have i1 : (k : Int) < (N : Int) := by omega
        obtain ⟨g2, o2, cp, nm1, v1, m1, ks1, c1, hv1, hd1, hN1, hc1⟩ := HS.out.1.at (k := k) (by rw [HS.out.2.1]; exact hlt)
        obtain rfl : a = some ⟨g2, o2, none⟩ := by injection hv1
        clear hv1
        have hksz := F.kids_size hd1
        obtain ⟨hn1, hns1, hdp1⟩ := drop_names ks k hd1 HS.out.2.2.2.1
        have hbs := bel_size (q := p) hn1
        have hpp := HS.out.2.2.2.2.1
        have hss := HS.out.2.2.2.2.2.1
        have hZZ := HS.out.2.2.1
        have cn : wr.cell? ⟨g2, o2 + k * 41, none⟩ = some (.string nm1) := by
          obtain ⟨kv1, e1, _⟩ := hN1
          have := hc1 0 (.string nm1) (by rw [e1]; simp [nc])
          exact HI.out.1.cell this
        have lk : Lies wr g2 (o2 + k * 41) c1 := fun j u hj => HI.out.1.cell (hc1 j u hj)
        have sk : c1.size = 41 := by obtain ⟨_, rfl, _⟩ := hN1; exact nc_size ..
        have CC := HIH.out ks1 (by omega) nm1 v1 m1 c1 wr (bel p nm1) (hN1.below HI.out.1) hns1 (by omega) (by omega)
        obtain ⟨bq, hbq⟩ : ∃ bq, bel p nm1 = bq := ⟨_, rfl⟩
        have hps : p.size ≤ 1000000 := by omega
        have hnz : nm1.size ≤ 255 := by have := (name_len hn1).2; rw [tl_len] at this; exact this
        rw [hbq] at CC
        obtain ⟨L, hL⟩ := HI.out.2.2
        obtain ⟨pu, cu, rfl⟩ := OwnsT.form hL.1
        have HL := hid hL
        have HC := hid CC
        have hll : L.length + (behF ks1 bq ++ [bq]).length ≤ 1048576 := by
          have h1 := congrArg List.length hL.2
          rw [behF_len, List.length_append] at h1
          rw [List.length_append, behF_len]
          simp only [List.length_singleton]
          omega
        have hcat : behF ks p = (L ++ (behF ks1 bq ++ [bq])) ++ behF (ks.drop (k + 1)) p := by
          rw [hL.2, hd1, behF, hbq]
          simp
        have HK := hid (⟨lk, sk, hcat, trivial, hll, HI.out.2.1.lt⟩ : _ ∧ _ ∧ _ ∧ True ∧ _ ∧ _)
        clear hcat hll
        clear hL CC hd1 lk hN1 hc1 hn1 hns1 hdp1 hbs hpp hZZ hksz
        unfold bel at hbq
        rcases hb2 with hb2 | hb2
        · rw [if_pos hb2] at hbq
          have e : p.toList = [] := List.length_eq_zero_iff.1 (by have := tl_len p; unfold tl at this; omega)
          have b1 : (p.toList == []) = true := by simp [e]
          have b2 : p.toList.isEmpty = true := by simp [e]
          subst hbq
          go_wp2_with (first
            | ((with_reducible refine wpList_exec (.agg c1) ?_ ?_ ?_); exact exec_load30 _ rfl g2 (o2 + k * 41) rfl c1 HK.out.2.1 HK.out.1; kernel_rfl)
            | (go_at_call 9; refine HC.out.mono ?_; rintro e w2 ⟨u2, rfl, ho2, hg2⟩; obtain ⟨p2, n2, c2, rfl⟩ := owns_form2 ho2; have HO2 := hid (⟨ho2, hg2⟩ : _ ∧ _); clear ho2 hg2)
            | (refine wpList_append_texts rfl _ _ rfl (B + 1) _ _ L _ rfl rfl (owns_grow HL.out.1 HO2.out.2) (OwnsT.has HO2.out.1) HK.out.2.2.2.2.1 (by have := HO2.out.2.size; have := HK.out.2.2.2.2.2; omega) ?_; intro v' w3 ho3 hb3; have HO3 := hid (⟨ho3, hb3⟩ : _ ∧ _); clear ho3 hb3))
          go_roundg (N - (k + 1))
          case measure => omega
          case rel =>
            refine ⟨k + 1, by omega, rfl, by go_num, ?_⟩
            refine ⟨Below.trans (HI.out.1.trans HO2.out.2) (HO3.out.2.mono (by have := HS.out.2.2.2.2.2.2.2; omega)), ?_, _, HO3.out.1, HK.out.2.2.1⟩
            exact (HO3.out.2.block B (Nat.lt_succ_self B)).trans ((Below.block HO2.out.2 B HK.out.2.2.2.2.2).trans HI.out.2.1)
        · rw [if_neg hb2] at hbq
          have e : ¬ p.toList = [] := fun e => hb2 (by have := tl_len p; unfold tl at this; rw [e] at this; simpa using this.symm)
          have b1 : (p.toList == []) = false := by simpa using e
          have b2 : p.toList.isEmpty = false := by simpa using e
          have a1 : ¬ 9223372036854775807 < p.size + 1 := by omega
          have a2 : ¬ 9223372036854775807 < p.size + 1 + nm1.size := by omega
          subst hbq
          go_wp2_with (first
            | ((with_reducible refine wpList_exec (.agg c1) ?_ ?_ ?_); exact exec_load30 _ rfl g2 (o2 + k * 41) rfl c1 HK.out.2.1 HK.out.1; kernel_rfl)
            | (go_at_call 9; refine HC.out.mono ?_; rintro e w2 ⟨u2, rfl, ho2, hg2⟩; obtain ⟨p2, n2, c2, rfl⟩ := owns_form2 ho2; have HO2 := hid (⟨ho2, hg2⟩ : _ ∧ _); clear ho2 hg2)
            | (refine wpList_append_texts rfl _ _ rfl (B + 1) _ _ L _ rfl rfl (owns_grow HL.out.1 HO2.out.2) (OwnsT.has HO2.out.1) HK.out.2.2.2.2.1 (by have := HO2.out.2.size; have := HK.out.2.2.2.2.2; omega) ?_; intro v' w3 ho3 hb3; have HO3 := hid (⟨ho3, hb3⟩ : _ ∧ _); clear ho3 hb3))
          go_roundg (N - (k + 1))
          case measure => omega
          case rel =>
            refine ⟨k + 1, by omega, rfl, by go_num, ?_⟩
            refine ⟨Below.trans (HI.out.1.trans HO2.out.2) (HO3.out.2.mono (by have := HS.out.2.2.2.2.2.2.2; omega)), ?_, _, HO3.out.1, HK.out.2.2.1⟩
            exact (HO3.out.2.block B (Nat.lt_succ_self B)).trans ((Below.block HO2.out.2 B HK.out.2.2.2.2.2).trans HI.out.2.1)
      · obtain rfl : k = N := by omega
        have i1 : ¬ ((k : Int) < (k : Int)) := by omega
        obtain ⟨L, hO, hE⟩ := HI.out.2.2
        obtain ⟨pu, cu, rfl⟩ := OwnsT.form hO
        rw [drop_end (by rw [HS.out.2.1]; exact Nat.le_refl _)] at hE
        have hlen : L.length ≤ 1000 := by
          have h1 := congrArg List.length hE
          rw [behF_len, List.length_append] at h1
          have := HS.out.2.2.2.2.2.1
          omega
        have HF := hid (⟨HI.out.1, hO, hE, HI.out.2.1.lt⟩ : _ ∧ _ ∧ _ ∧ _)
        clear HI hO hE
        go_wp2_with (refine wpList_append_one rfl _ _ rfl (B + 1) _ L p wr.heap.size rfl rfl (cell_of_row _ _ 0 _ _ _ (World.alloc_heap_new wr (.cells #[.string p] 9))) (owns_grow HF.out.2.1 (G.alloc _ _)) (by omega) (by have := HF.out.2.2.2; rw [World.size_alloc]; omega) ?_; rintro pa pl pc w' rfl ho hgr hb; have HO := hid (⟨ho, hgr⟩ : _ ∧ _); clear ho hgr hb)
        go_ret
        refine ⟨.slice pa (L.length + 1) pc, rfl, ?_, ?_⟩
        · rw [HF.out.2.2.1, behF, List.append_nil]
          exact OwnsT.mono HO.out.1 (Nat.le_succ B)
        · exact Below.trans (HF.out.1.trans (G.alloc wr _)) ((grown_below HO.out.2 (owns_grow HF.out.2.1 (G.alloc wr (.cells #[.string p] 9))) (by have := HF.out.2.2.2; rw [World.size_alloc]; omega)).mono (by have := HS.out.2.2.2.2.2.2.2; omega))
end Go.Proofs.YtbjjbgaomoihaaaGreatDoor
