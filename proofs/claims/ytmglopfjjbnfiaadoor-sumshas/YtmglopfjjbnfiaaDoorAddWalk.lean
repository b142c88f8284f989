/-
  (*sum.Hash).Add by contract: the walk.
-/
import Derived.Test.YtmglopfjjbnfiaaDoorAdd
namespace Go.Proofs.YtmglopfjjbnfiaaDoor
open Go.RowKit

theorem i64_rem64 (n : Nat) : Int.tmod (n : Int) 64 = ((n % 64 : Nat) : Int) := by
  rw [Int.tmod_eq_emod_of_nonneg (by omega)]; omega

def HashAt2 (V : Sha.V) (rst l : List Nat) : Prop := Sha.Inv Sha.mix l rst V

theorem vok_mix {V : Sha.V} {b : List Nat} : vok (Sha.mix V b) := by
  unfold Sha.mix Sha.plus vok
  exact ⟨Nat.mod_lt _ (by decide), Nat.mod_lt _ (by decide), Nat.mod_lt _ (by decide), Nat.mod_lt _ (by decide), Nat.mod_lt _ (by decide), Nat.mod_lt _ (by decide), Nat.mod_lt _ (by decide), Nat.mod_lt _ (by decide)⟩

set_option maxHeartbeats 1000000 in
set_option maxRecDepth 100000 in
theorem add_any (K : Nat) (T : TypeId) (l b : List Nat) (v : Value) (w : World) (hH : HashAt w K T l) (hv : Has w v b) (ho : Off K v) (hB : Bytes b) (hT : Tabs w) (hK : 3 ≤ K) (hl : l.length + b.length < 1152921504606846976) :
    Calls Tryd.prog 31 #[.pointer (some ⟨K, 0, none⟩), v] w fun e w' => e = .returned (.tuple #[]) ∧ HashAt w' K T (l ++ b) ∧ But K w w' := by
  have HB : Hid (Bytes b) := hB
  have HT : Hid (Tabs w) := hT
  obtain ⟨ao0, cap0, rfl, _⟩ := hv.form
  clear hB hT
  go_enter Tryd.func31, Tryd.ntmps31
  go_wp2
  go_loopw [1] (fun v wr => ∃ (dn bs : List Nat) (ao : Option Addr) (cap : Nat), v = .slice ao bs.length cap ∧ Hid (b = dn ++ bs) ∧ Hid (HashAt wr K T (l ++ dn)) ∧ Hid (Has w (.slice ao bs.length cap) bs) ∧ Hid (Off K (.slice ao bs.length cap)) ∧ Hid (But K w wr)) (fun v _ => match v with | .slice _ n _ => n | _ => 0)
  case atStart => exact ⟨[], b, ao0, cap0, rfl, rfl, by show HashAt w K T (l ++ []); rw [List.append_nil]; exact hH, hv, ho, But.refl _ _⟩
  case round =>
    clear hH hv ho
    obtain ⟨dn, bs, ao, cap, rfl, HE, HH, HV, HO, HW⟩ := hrel
    by_cases h0 : bs.length = 0
    · obtain rfl : bs = [] := List.eq_nil_of_length_eq_zero h0
      have R : Hid (HashAt wr K T (l ++ b) ∧ But K w wr) := ⟨by have h := HH.out; have e := HE.out; rw [List.append_nil] at e; rw [e]; exact h, HW.out⟩
      clear HE HH HV HO HW
      go_wp2
      go_end0
      exact ⟨rfl, R.out⟩
    · obtain ⟨a, rfl, hcap, hcell⟩ : ∃ a, ao = some a ∧ bs.length ≤ cap ∧ Hid (∀ i, i < bs.length → wr.cell? (a.add i) = some (vb (bs.getD i 0))) := by
        rcases HV.out.but HW.out HO.out with ⟨_, h⟩ | ⟨a, c, e, h⟩
        · rw [h] at h0; exact absurd rfl h0
        · simp only [Value.slice.injEq, true_and] at e
          obtain ⟨rfl, rfl⟩ := e
          exact ⟨a, rfl, h⟩
      have hpos : (0 : Int) < (bs.length : Int) := by omega
      obtain ⟨V, rst, hg, hInv, hVok, hRb⟩ := HH.out
      obtain ⟨n, hn⟩ : ∃ n, n = (l ++ dn).length := ⟨_, rfl⟩
      rw [← hn] at hg
      have hnb : n + bs.length < 1152921504606846976 := by
        have e := HE.out
        rw [e] at hl
        rw [hn]; simp at hl ⊢; omega
      have c72 : wr.cell? ⟨K, 72, none⟩ = some (.int .i64 (n : Int)) := by
        rw [cell_of_row wr K 72 _ _ _ hg, hcells_count hInv.len]
      have hrem := i64_rem64 n
      obtain ⟨r, hr⟩ : ∃ r, r = n % 64 := ⟨_, rfl⟩
      rw [← hr] at hrem
      have hr64 : r < 64 := by omega
      have hsl := slice96 K 8 r hr64
      obtain ⟨m, hm⟩ : ∃ m, m = min bs.length (64 - r) := ⟨_, rfl⟩
      have HM : Hid (m ≤ bs.length ∧ r + m ≤ 64 ∧ 0 < m ∧ m = Nat.min bs.length (64 - r)) := by
        refine ⟨by omega, by omega, by omega, ?_⟩
        rw [hm]
      have HG : Hid (wr.heap[K]? = some (.cells (hcells V rst n) T (0, 0))) := hg
      have HI : Hid (Sha.Inv Sha.mix (l ++ dn) rst V) := hInv
      have HN : Hid (n = (l ++ dn).length ∧ r = n % 64) := ⟨hn, hr⟩
      have HVR : Hid (vok V ∧ Bytes rst) := ⟨hVok, hRb⟩
      have HLEN : Hid (((bs.take m).map vb).length = m) := by show _ = _; simp; have := HM.out.1; omega
      have HCL : Hid (((bs.take m).map vb).length = Nat.min bs.length (64 - r)) := by show _ = _; rw [HLEN.out]; exact HM.out.2.2.2
      have HSRC : Hid (∀ j v, ((bs.take m).map vb)[j]? = some v → wr.cell? (a.add j) = some v) := by
        intro j v hj
        have hjm : j < m := by have := (List.getElem?_eq_some_iff.1 hj).1; rw [HLEN.out] at this; exact this
        have hjb : j < bs.length := by have := HM.out.1; omega
        rw [hcell.out j hjb]
        rw [List.getElem?_map, List.getElem?_take, if_pos hjm, List.getElem?_eq_getElem hjb] at hj
        simpa [List.getD, List.getElem?_eq_getElem hjb] using hj
      have HFIT : Hid (8 + r + ((bs.take m).map vb).length ≤ (hcells V rst n).size) := by
        show _ ≤ _
        rw [HLEN.out, hcells_size hInv.len]; have := HM.out; omega
      have HONE : Hid (∀ v ∈ (bs.take m).map vb, v.oneCell' = true) := by
        intro v hv; obtain ⟨x, _, rfl⟩ := List.mem_map.1 hv; rfl
      have HFIN : Hid (((hcells V rst n).toList.take (8 + r) ++ ((bs.take m).map vb ++ (hcells V rst n).toList.drop (8 + r + ((bs.take m).map vb).length))).toArray = hcells V (Sha.splice rst r (bs.take m)) n) :=
        hcells_splice hInv.len r (bs.take m) (by simp; have := HM.out; omega)
      have HNEXT : Hid (∀ wf, HashAt wf K T (l ++ (dn ++ bs.take m)) → But K w wf → ∃ (dn' bs' : List Nat) (ao' : Option Addr) (cap' : Nat), Value.slice (some (if cap = m then a else a.add m)) (bs.length - m) (cap - m) = .slice ao' bs'.length cap' ∧ Hid (b = dn' ++ bs') ∧ Hid (HashAt wf K T (l ++ dn')) ∧ Hid (Has w (.slice ao' bs'.length cap') bs') ∧ Hid (Off K (.slice ao' bs'.length cap')) ∧ Hid (But K w wf)) := by
        intro wf h1 h2
        refine ⟨dn ++ bs.take m, bs.drop m, _, _, by rw [List.length_drop], ?_, h1, ?_, ?_, h2⟩
        · show _ = _
          rw [List.append_assoc, List.take_append_drop]; exact HE.out
        · have := HV.out.drop m HM.out.1
          rw [List.length_drop]; exact this
        · intro a' n' c' e' hn'
          simp only [Value.slice.injEq, Option.some.injEq] at e'
          have hblk : a.block ≠ K := HO.out a _ _ rfl (by omega)
          rw [← e'.1]
          split
          · exact hblk
          · unfold Addr.add; split <;> exact hblk
      have HSTEP : Hid ((r + m < 64 → HashAt2 V (Sha.splice rst r (bs.take m)) (l ++ (dn ++ bs.take m))) ∧ (r + m = 64 → HashAt2 (Sha.mix V (Sha.splice rst r (bs.take m))) (Sha.splice rst r (bs.take m)) (l ++ (dn ++ bs.take m))) ∧ vok V ∧ Bytes (Sha.splice rst r (bs.take m)) ∧ (l ++ (dn ++ bs.take m)).length = n + m) := by
        have hlm : (bs.take m).length = m := by have := HLEN.out; simpa using this
        have hbb : Bytes (bs.take m) := fun x hx => HB.out x (by rw [HE.out]; exact List.mem_append_right _ (List.mem_of_mem_take hx))
        have hsb : Bytes (Sha.splice rst r (bs.take m)) := fun x hx => by
          unfold Sha.splice at hx
          simp only [List.mem_append] at hx
          rcases hx with hx | hx | hx
          · exact hRb x (List.mem_of_mem_take hx)
          · exact hbb x hx
          · exact hRb x (List.mem_of_mem_drop hx)
        have e : r = (l ++ dn).length % 64 := by rw [hr, hn]
        refine ⟨fun h => ?_, fun h => ?_, hVok, hsb, ?_⟩
        · have := Sha.inv_part hInv (bs.take m) (by rw [← e, hlm]; exact h)
          rw [← e] at this
          unfold HashAt2; rw [← List.append_assoc]; exact this
        · have := Sha.inv_full hInv (bs.take m) (by rw [← e, hlm]; exact h)
          rw [← e] at this
          unfold HashAt2; rw [← List.append_assoc]; exact this
        · rw [← List.append_assoc, List.length_append, ← hn, hlm]
      clear hg hInv hn hr hVok hRb hm HV HH
      go_wp2
      refine wp_region_any (by kernel_rfl) ?_
      change wpAny _ _ _ _ _ _ _ (World.drew _)
      refine wpAny_take (i := 0) (v := .pointer (some ⟨K, 0, none⟩)) rfl (by kernel_rfl) (by kernel_rfl) (by kernel_rfl) (fun _ _ _ h => h) (Or.inl ⟨by kernel_rfl, ?_⟩) ?_
      · intro wz; go_simp
      refine wpAny_take (i := 1) (v := .pointer (some ⟨K, 0, none⟩)) rfl (by kernel_rfl) (by kernel_rfl) (by kernel_rfl) (fun _ _ _ h => h) (Or.inl ⟨by kernel_rfl, ?_⟩) ?_
      · intro wz; go_simp
      refine wpAny_take (i := 2) (v := .pointer (some ⟨K, 8, none⟩)) rfl (by kernel_rfl) (by kernel_rfl) (by kernel_rfl) (fun _ _ _ h => h) (Or.inl ⟨by kernel_rfl, ?_⟩) ?_
      · intro wz; go_simp
      refine wpAny_take (i := 3) (v := .pointer (some ⟨K, 0, none⟩)) rfl (by kernel_rfl) (by kernel_rfl) (by kernel_rfl) (fun _ _ _ h => h) (Or.inl ⟨by kernel_rfl, ?_⟩) ?_
      · intro wz; go_simp
      refine wpAny_take (i := 4) (v := .pointer (some ⟨K, 0, none⟩)) rfl (by kernel_rfl) (by kernel_rfl) (by kernel_rfl) (fun _ _ _ h => h) (Or.inl ⟨by kernel_rfl, ?_⟩) ?_
      · intro wz; go_simp
      refine wpAny_take (i := 5) (v := .pointer (some ⟨K, 72, none⟩)) rfl (by kernel_rfl) (by kernel_rfl) (by kernel_rfl) (fun _ _ _ h => h) (Or.inl ⟨by kernel_rfl, ?_⟩) ?_
      · intro wz; go_simp
      refine wpAny_take (i := 9) (v := .slice (some a) bs.length cap) rfl (by kernel_rfl) (by kernel_rfl) (by kernel_rfl) (fun _ _ _ h => h) (Or.inl ⟨by kernel_rfl, ?_⟩) ?_
      · intro wz; go_simp
      refine wpAny_ready (rs := [6]) (by kernel_rfl) (by simp) ?_
      refine AllReady.cons rfl (fun K' hK' => ?_) AllReady.nil
      go_simp
      refine hK' _ _ ?_
      clear hK' K'
      refine wpAny_take (i := 7) (v := .int .i64 r) rfl (by kernel_rfl) (by kernel_rfl) (by kernel_rfl) (fun _ _ _ h => h) (Or.inl ⟨by kernel_rfl, ?_⟩) ?_
      · intro wz; go_simp
      refine wpAny_take (i := 8) (v := .slice (some ⟨K, 8 + r, none⟩) (64 - r) (64 - r)) rfl (by kernel_rfl) (by kernel_rfl) (by kernel_rfl) (fun _ _ _ h => h) (Or.inl ⟨by kernel_rfl, ?_⟩) ?_
      · intro wz; go_simp
      refine wpAny_ready (rs := [10]) (by kernel_rfl) (by simp) ?_
      refine AllReady.cons rfl (fun K' hK' => ?_) AllReady.nil
      refine step_copy_row rfl (.tmp 16) (.tmp 17) rfl K (8 + r) (64 - r) (64 - r) bs.length cap a (by simp [Act.eval, Act.put]) (by simp [Act.eval, Act.put]) (hcells V rst n) T HG.out ((bs.take m).map vb) HCL.out HSRC.out HFIT.out HONE.out (hcells V (Sha.splice rst r (bs.take m)) n) HFIN.out m HLEN.out ?_
      refine hK' _ _ ?_
      clear hK' K'
      refine wpAny_take (i := 11) (v := .int .i64 m) rfl (by kernel_rfl) (by kernel_rfl) (by kernel_rfl) (fun _ _ _ h => h) (Or.inl ⟨by kernel_rfl, ?_⟩) ?_
      · intro wz; go_simp
      refine wpAny_done (by kernel_rfl) ?_ _
      generalize hW : (World.drew wr).setRow K (hcells V (Sha.splice rst r (bs.take m)) n) = w2
      have HW2 : Hid (But K w w2) := by rw [← hW]; exact (HW.out.drewN 1).setRow _
      have HG2 : Hid (w2.heap[K]? = some (.cells (hcells V (Sha.splice rst r (bs.take m)) n) T (0, 0))) := by rw [← hW]; exact setRow_heap _ _ _ _ _ _ HG.out
      clear hW
      have HL2 : Hid ((Sha.splice rst r (bs.take m)).length = 64) := by
        show _ = _
        rw [Sha.length_splice (by rw [HI.out.len]; simp; have := HM.out; omega)]; exact HI.out.len
      have c72' : w2.cell? ⟨K, 72, none⟩ = some (.int .i64 (n : Int)) := by
        rw [cell_of_row w2 K 72 _ _ _ HG2.out, hcells_count HL2.out]
      have f72 : w2.frozen? ⟨K, 72, none⟩ = false := frozen_of_row w2 K 72 _ _ HG2.out
      obtain ⟨A, hA⟩ : ∃ A, A = (if cap = m then a else a.add m) := ⟨_, rfl⟩
      have hs2 := slice43 a bs.length cap m HM.out.1
      rw [← hA] at hs2
      have HA : Hid (A = (if cap = m then a else a.add m)) := hA
      clear hA c72 hrem hsl
      obtain ⟨n2, HN2, hn2I, hw2⟩ : ∃ n2 : Nat, Hid (n2 = n + m) ∧ (n : Int) + (m : Int) = (n2 : Int) ∧ IntKind.i64.wrap (n2 : Int) = (n2 : Int) :=
        ⟨n + m, rfl, by omega, by rw [IntKind.wrap_i64]; have := HM.out.1; omega⟩
      have hrem2 := i64_rem64 n2
      by_cases hz : n2 % 64 = 0
      · rw [hz] at hrem2
        obtain ⟨rst2, hrs⟩ : ∃ rst2, rst2 = Sha.splice rst r (bs.take m) := ⟨_, rfl⟩
        rw [← hrs] at HG2 HL2 HSTEP
        clear hrs
        have h64 : r + m = 64 := by
          have h1 := HN2.out; have h2 := HN.out.2; have h3 := HM.out
          omega
        go_simp
        go_wp2
        refine step_world (fun wf => wf.heap[K]? = some (.cells (hcells V rst2 n2) T (0, 0)) ∧ But K w wf) ⟨by rw [heap_setCell_same _ _ _ _ _ _ HG2.out, hcells_setCount HL2.out], HW2.out.setCell _ _⟩ fun w3 H3 => ?_
        have H3' : Hid (w3.heap[K]? = some (.cells (hcells V rst2 n2) T (0, 0)) ∧ But K w w3) := H3
        have CM : Hid (∀ wz, Tabs wz → Calls Tryd.prog 60 #[.agg ((vlist V).map vw).toArray, .agg (rst2.map vb).toArray] wz fun e w' => e = .returned (.agg (vagg (Sha.mix V rst2))) ∧ Below wz.heap.size wz w') := fun wz hz => mix_any V rst2 wz HSTEP.out.2.2.1 HL2.out HSTEP.out.2.2.2.1 hz
        have HTW : Hid (Tabs (w3.drew)) := (HT.out.but H3.2 hK).but (But.drewN (But.refl K w3) 1) hK
        have HC1 : Hid (∀ j v, ((vlist V).map vw)[j]? = some v → (w3.drew).cell? ⟨K, 0 + j, none⟩ = some v) := fun j v hj => by
          show w3.cell? ⟨K, 0 + j, none⟩ = some v
          rw [cell_of_row _ K _ _ _ _ H3.1]; exact hcells_mixed j v hj
        have HC2 : Hid (∀ j v, (rst2.map vb)[j]? = some v → (w3.drew).cell? ⟨K, 8 + j, none⟩ = some v) := fun j v hj => by
          show w3.cell? ⟨K, 8 + j, none⟩ = some v
          rw [cell_of_row _ K _ _ _ _ H3.1]; exact hcells_rest j v hj
        have HZ1 : Hid ((Tryd.prog.info? 94).map (·.size) = some ((vlist V).map vw).length) := by show _ = _; rw [show ((vlist V).map vw).length = 8 from rfl]; kernel_rfl
        have HZ2 : Hid ((Tryd.prog.info? 96).map (·.size) = some (rst2.map vb).length) := by show _ = _; rw [List.length_map, HL2.out]; kernel_rfl
        have HZ8 : Hid ((Tryd.prog.info? 94).map (·.size) = some (vagg (Sha.mix V rst2)).size) := by show _ = _; rw [show (vagg (Sha.mix V rst2)).size = 8 from rfl]; kernel_rfl
        have HOF : Hid (0 + (vagg (Sha.mix V rst2)).size ≤ (hcells V rst2 n2).size) := by show _ ≤ _; rw [hcells_size HL2.out, show (vagg (Sha.mix V rst2)).size = 8 from rfl]; omega
        have HA1 : Hid ((vagg (Sha.mix V rst2)).all (·.oneCell') = true) := all_vw _
        have hKs : K < w3.heap.size := (Array.getElem?_eq_some_iff.1 H3.1).1
        have HB4 : Hid (∀ w4, Below (w3.drew).heap.size (w3.drew) w4 → w4.heap[K]? = some (.cells (hcells V rst2 n2) T (0, 0))) := fun w4 h4 => (h4.block K hKs).trans H3.1
        have HFIN3 : Hid (∀ w4, Below (w3.drew).heap.size (w3.drew) w4 → ∃ (dn' bs' : List Nat) (ao' : Option Addr) (cap' : Nat), Value.slice (some A) (bs.length - m) (cap - m) = .slice ao' bs'.length cap' ∧ Hid (b = dn' ++ bs') ∧ Hid (HashAt (w4.setRow K (hcells (Sha.mix V rst2) rst2 n2)) K T (l ++ dn')) ∧ Hid (Has w (.slice ao' bs'.length cap') bs') ∧ Hid (Off K (.slice ao' bs'.length cap')) ∧ Hid (But K w (w4.setRow K (hcells (Sha.mix V rst2) rst2 n2)))) := fun w4 h4 => by
          have h := HNEXT.out (w4.setRow K (hcells (Sha.mix V rst2) rst2 n2)) ⟨Sha.mix V rst2, rst2, ?_, HSTEP.out.2.1 h64, vok_mix, HSTEP.out.2.2.2.1⟩ ((((H3.2.drewN 1).trans (But.of_below h4))).setRow _)
          · rw [← HA.out] at h; exact h
          · rw [HSTEP.out.2.2.2.2, ← HN2.out]
            exact setRow_heap _ _ _ _ _ _ (HB4.out w4 h4)
        clear H3 hKs HNEXT HSTEP HG2 HL2 HG HI HVR c72' f72 hs2 hrem2 hw2 hn2I
        refine wp_region_any (by kernel_rfl) ?_
        change wpAny _ _ _ _ _ _ _ (World.drew _)
        refine wpAny_take (i := 0) (v := .pointer (some ⟨K, 0, none⟩)) rfl (by kernel_rfl) (by kernel_rfl) (by kernel_rfl) (fun _ _ _ h => h) (Or.inl ⟨by kernel_rfl, ?_⟩) ?_
        · intro wz; go_simp
        refine wpAny_take (i := 1) (v := .pointer (some ⟨K, 0, none⟩)) rfl (by kernel_rfl) (by kernel_rfl) (by kernel_rfl) (fun _ _ _ h => h) (Or.inl ⟨by kernel_rfl, ?_⟩) ?_
        · intro wz; go_simp
        refine wpAny_take (i := 2) (v := .pointer (some ⟨K, 0, none⟩)) rfl (by kernel_rfl) (by kernel_rfl) (by kernel_rfl) (fun _ _ _ h => h) (Or.inl ⟨by kernel_rfl, ?_⟩) ?_
        · intro wz; go_simp
        refine wpAny_take (i := 3) (v := .pointer (some ⟨K, 0, none⟩)) rfl (by kernel_rfl) (by kernel_rfl) (by kernel_rfl) (fun _ _ _ h => h) (Or.inl ⟨by kernel_rfl, ?_⟩) ?_
        · intro wz; go_simp
        refine wpAny_take (i := 5) (v := .pointer (some ⟨K, 0, none⟩)) rfl (by kernel_rfl) (by kernel_rfl) (by kernel_rfl) (fun _ _ _ h => h) (Or.inl ⟨by kernel_rfl, ?_⟩) ?_
        · intro wz; go_simp
        refine wpAny_take (i := 6) (v := .pointer (some ⟨K, 0, none⟩)) rfl (by kernel_rfl) (by kernel_rfl) (by kernel_rfl) (fun _ _ _ h => h) (Or.inl ⟨by kernel_rfl, ?_⟩) ?_
        · intro wz; go_simp
        refine wpAny_take (i := 7) (v := .pointer (some ⟨K, 8, none⟩)) rfl (by kernel_rfl) (by kernel_rfl) (by kernel_rfl) (fun _ _ _ h => h) (Or.inl ⟨by kernel_rfl, ?_⟩) ?_
        · intro wz; go_simp
        simp only [Act.put, List.getElem_toArray, List.getElem_cons_zero, List.getElem_cons_succ, List.setIfInBounds_toArray, List.set_cons_zero, List.set_cons_succ]
        refine wpAny_ready (rs := [4, 8]) (by kernel_rfl) (by simp) ?_
        refine allReady_load rfl rfl 94 (.tmp 39) rfl K 0 rfl ((vlist V).map vw) (.array 8 49) HC1.out Tryd.underlying94 rfl HZ1.out ?_ (allReady_load rfl rfl 96 (.tmp 43) rfl K 8 rfl (rst2.map vb) (.array 64 5) HC2.out Tryd.underlying96 rfl HZ2.out ?_ AllReady.nil)
        · simp only [Act.put, List.getElem_toArray, List.getElem_cons_zero, List.getElem_cons_succ, List.setIfInBounds_toArray, List.set_cons_zero, List.set_cons_succ]
          refine wpAny_ready (rs := [8]) (by kernel_rfl) (by simp) ?_
          refine allReady_load rfl rfl 96 (.tmp 43) rfl K 8 rfl (rst2.map vb) (.array 64 5) HC2.out Tryd.underlying96 rfl HZ2.out ?_ AllReady.nil
          simp only [Act.put, List.getElem_toArray, List.getElem_cons_zero, List.getElem_cons_succ, List.setIfInBounds_toArray, List.set_cons_zero, List.set_cons_succ]
          refine wpAny_ready (rs := [9]) (by kernel_rfl) (by simp) ?_
          refine AllReady.cons rfl (fun K' hK' => ?_) AllReady.nil
          go_simp
          refine (CM.out _ HTW.out).mono ?_
          rintro e w4 ⟨rfl, hb4⟩
          refine hK' _ _ ?_
          clear hK' K'
          refine wpAny_take (i := 10) (v := .pointer (some ⟨K, 0, none⟩)) rfl (by kernel_rfl) (by kernel_rfl) (by kernel_rfl) (fun _ _ _ h => h) (Or.inl ⟨by kernel_rfl, ?_⟩) ?_
          · intro wz; go_simp
          refine wpAny_take (i := 11) (v := .pointer (some ⟨K, 0, none⟩)) rfl (by kernel_rfl) (by kernel_rfl) (by kernel_rfl) (fun _ _ _ h => h) (Or.inl ⟨by kernel_rfl, ?_⟩) ?_
          · intro wz; go_simp
          simp only [Act.put, List.getElem_toArray, List.getElem_cons_zero, List.getElem_cons_succ, List.setIfInBounds_toArray, List.set_cons_zero, List.set_cons_succ]
          refine wpAny_ready (rs := [12]) (by kernel_rfl) (by simp) ?_
          refine allReady_store rfl rfl 94 (.tmp 47) (.tmp 45) rfl K 0 (vagg (Sha.mix V rst2)) rfl rfl (hcells V rst2 n2) (hcells (Sha.mix V rst2) rst2 n2) T (HB4.out _ hb4) HZ8.out HOF.out HA1.out hcells_setMixed ?_ AllReady.nil
          refine wpAny_done (by kernel_rfl) ?_ _
          have HF := HFIN3.out _ hb4
          clear hb4
          generalize hW4 : w4.setRow K (hcells (Sha.mix V rst2) rst2 n2) = w5 at HF
          clear hW4
          have HF2 : Hid (∃ (dn' bs' : List Nat) (ao' : Option Addr) (cap' : Nat), Value.slice (some A) (bs.length - m) (cap - m) = .slice ao' bs'.length cap' ∧ Hid (b = dn' ++ bs') ∧ Hid (HashAt w5 K T (l ++ dn')) ∧ Hid (Has w (.slice ao' bs'.length cap') bs') ∧ Hid (Off K (.slice ao' bs'.length cap')) ∧ Hid (But K w w5)) := HF
          clear HF
          go_simp
          go_wp2
          go_roundw
          case rel => exact HF2.out
          case measure => show bs.length - m < bs.length; have := HM.out; omega
        · simp only [Act.put, List.getElem_toArray, List.getElem_cons_zero, List.getElem_cons_succ, List.setIfInBounds_toArray, List.set_cons_zero, List.set_cons_succ]
          refine wpAny_ready (rs := [4]) (by kernel_rfl) (by simp) ?_
          refine allReady_load rfl rfl 94 (.tmp 39) rfl K 0 rfl ((vlist V).map vw) (.array 8 49) HC1.out Tryd.underlying94 rfl HZ1.out ?_ AllReady.nil
          simp only [Act.put, List.getElem_toArray, List.getElem_cons_zero, List.getElem_cons_succ, List.setIfInBounds_toArray, List.set_cons_zero, List.set_cons_succ]
          refine wpAny_ready (rs := [9]) (by kernel_rfl) (by simp) ?_
          refine AllReady.cons rfl (fun K' hK' => ?_) AllReady.nil
          go_simp
          refine (CM.out _ HTW.out).mono ?_
          rintro e w4 ⟨rfl, hb4⟩
          refine hK' _ _ ?_
          clear hK' K'
          refine wpAny_take (i := 10) (v := .pointer (some ⟨K, 0, none⟩)) rfl (by kernel_rfl) (by kernel_rfl) (by kernel_rfl) (fun _ _ _ h => h) (Or.inl ⟨by kernel_rfl, ?_⟩) ?_
          · intro wz; go_simp
          refine wpAny_take (i := 11) (v := .pointer (some ⟨K, 0, none⟩)) rfl (by kernel_rfl) (by kernel_rfl) (by kernel_rfl) (fun _ _ _ h => h) (Or.inl ⟨by kernel_rfl, ?_⟩) ?_
          · intro wz; go_simp
          simp only [Act.put, List.getElem_toArray, List.getElem_cons_zero, List.getElem_cons_succ, List.setIfInBounds_toArray, List.set_cons_zero, List.set_cons_succ]
          refine wpAny_ready (rs := [12]) (by kernel_rfl) (by simp) ?_
          refine allReady_store rfl rfl 94 (.tmp 47) (.tmp 45) rfl K 0 (vagg (Sha.mix V rst2)) rfl rfl (hcells V rst2 n2) (hcells (Sha.mix V rst2) rst2 n2) T (HB4.out _ hb4) HZ8.out HOF.out HA1.out hcells_setMixed ?_ AllReady.nil
          refine wpAny_done (by kernel_rfl) ?_ _
          have HF := HFIN3.out _ hb4
          clear hb4
          generalize hW4 : w4.setRow K (hcells (Sha.mix V rst2) rst2 n2) = w5 at HF
          clear hW4
          have HF2 : Hid (∃ (dn' bs' : List Nat) (ao' : Option Addr) (cap' : Nat), Value.slice (some A) (bs.length - m) (cap - m) = .slice ao' bs'.length cap' ∧ Hid (b = dn' ++ bs') ∧ Hid (HashAt w5 K T (l ++ dn')) ∧ Hid (Has w (.slice ao' bs'.length cap') bs') ∧ Hid (Off K (.slice ao' bs'.length cap')) ∧ Hid (But K w w5)) := HF
          clear HF
          go_simp
          go_wp2
          go_roundw
          case rel => exact HF2.out
          case measure => show bs.length - m < bs.length; have := HM.out; omega
      · have hz2 : (((n2 % 64 : Nat) : Int) == 0) = false := by simp; omega
        have HLT : Hid (r + m < 64) := by
          show _ < _
          have h1 := HN2.out; have h2 := HN.out.2; have h3 := HM.out
          omega
        obtain ⟨r2, hr2⟩ : ∃ r2, r2 = n2 % 64 := ⟨_, rfl⟩
        rw [← hr2] at hrem2 hz2
        clear hr2 hz
        go_simp
        go_wp2
        go_roundw
        case rel =>
          have h := HNEXT.out (w2.setCell ⟨K, 72, none⟩ (.int .i64 (n2 : Int))) ⟨V, _, ?_, HSTEP.out.1 HLT.out, HSTEP.out.2.2.1, HSTEP.out.2.2.2.1⟩ (HW2.out.setCell _ _)
          · rw [← HA.out] at h; exact h
          · rw [HSTEP.out.2.2.2.2, ← HN2.out, heap_setCell_same _ _ _ _ _ _ HG2.out, hcells_setCount HL2.out]
        case measure => show bs.length - m < bs.length; have := HM.out; omega
end Go.Proofs.YtmglopfjjbnfiaaDoor
