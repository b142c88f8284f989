/-
  slices.Backward as an iterator.
-/
import Derived.Test.YtpngnhpnjkepjaaDoorRSkipW
import Derived.Test.YtpngnhpnjkepjaaDoorSeq
import Derived.Test.YtpngnhpnjkepjaaDoorRefFits
namespace Go.Proofs.YtpngnhpnjkepjaaDoor
open Go.RowKit Go.Shelf
attribute [local go_sem] Oper.semAt_some

def revs (N : Nat) : List Nat := (List.range N).reverse
abbrev ixs {N : Nat} (ys : List (Fin N)) : List Nat := ys.map fun x => x.1
theorem revs_take {N n : Nat} (h : n < N) : (revs N).take (n + 1) = (revs N).take n ++ [N - 1 - n] := by
  have h1 : (revs N)[n]? = some (N - 1 - n) := by
    unfold revs
    rw [List.getElem?_reverse (by simpa using h), List.length_range, List.getElem?_range (by omega)]
  rw [List.take_add_one, h1]; rfl
def KeepB (Bs gr : Nat) (W W' : World) : Prop := KeepsWalks W W' ∧ W'.heap[Bs]? = W.heap[Bs]? ∧ W'.heap[gr]? = W.heap[gr]?
theorem keepB_t {Bs gr : Nat} {A B C : World} (h : KeepB Bs gr A B) (k : KeepB Bs gr B C) : KeepB Bs gr A C := ⟨h.1.trans k.1, k.2.1.trans h.2.1, k.2.2.trans h.2.2⟩
theorem keepB_b {Bs gr : Nat} {w : World} (hB : Bs < w.heap.size) (hg : gr < w.heap.size) (W : World) (l : Nat) (o o' : Obj) (hl : w.heap.size ≤ l) (h : W.heap[l]? = some o) (_ : o.isCells = false) (hw : o.isWalk = false) : KeepB Bs gr W (W.putObj l o') :=
  ⟨KeepsWalks.putObj _ h hw, World.putObj_heap_other (by omega), World.putObj_heap_other (by omega)⟩
set_option maxRecDepth 100000 in
theorem backF_any (ao : Option Addr) (N cap : Nat) (w : World) :
    Calls Tryd.prog 37 #[.slice ao N cap] w fun e w' => e = .returned (.func (.func 56) #[] #[.pointer (some ⟨w.heap.size, 0, none⟩)]) ∧ w' = w.alloc (.cells #[.slice ao N cap] 64) := by
  have hmf : ∀ (fn : Fn) (first cap : Array Value) (w : World), (Instr.makeFunc fn first cap).run Tryd.prog w = .ok (.func fn first cap) w := fun _ _ _ _ => rfl
  go_enter Tryd.func37, Tryd.ntmps37
  go_wp2
  go_ret
  exact ⟨rfl, rfl⟩
set_option maxRecDepth 100000 in
set_option maxHeartbeats 2000000 in
theorem back1_in (F : Fence) (n : Nat) (h56 : F.fn 56) (hro : F.round = none) (hn : 1 ≤ n) (l Bs gr N cap : Nat) (ao : Option Addr) (ps : List Value) (hN : N ≤ 1048576) (J Jx : List (Fin N) → World → Prop) (W : World)
    (hY : ∀ pre x W1, J pre W1 → pre.length < N → YieldAt F (n - 1) Tryd.prog l #[.int .i64 (x.1 : Int), ps.getD x.1 undef] W1 fun e W' =>
      (e = .returned (.bool true) ∧ J (pre ++ [x]) W' ∧ KeepB Bs gr W1 W') ∨ (e = .returned (.bool false) ∧ Jx (pre ++ [x]) W'))
    (hc1 : W.cell? ⟨Bs, 0, none⟩ = some (.slice ao N cap)) (hrow : N = 0 ∨ ao = some ⟨gr, 0, none⟩) (hcs : ∀ i, i < N → W.cell? ⟨gr, i, none⟩ = some (ps.getD i undef)) (h0 : J [] W) :
    CallsIn F n Tryd.prog 56 #[.func (.yield l) #[] #[], .pointer (some ⟨Bs, 0, none⟩)] W fun e W' => (∃ v, e = .returned v) ∧
      ((∃ ys, ixs ys = revs N ∧ J ys W') ∨ (∃ pre, ixs pre <+: revs N ∧ Jx pre W')) := by
  have HC : Hid (∀ i, i < N → W.cell? ⟨gr, i, none⟩ = some (ps.getD i undef)) := hcs
  clear hcs
  refine callsIn_of_wp Tryd.func56 rfl h56 ?_ hro
  simp only [Tryd.ntmps56, List.size_toArray, List.length_cons, List.length_nil, Nat.reduceAdd, Nat.reduceSub, Array.replicate_succ, Array.replicate_zero, List.push_toArray, List.append_toArray, List.nil_append, List.cons_append]
  gi_wp2
  gi_loopw [3] (fun x wr => ∃ (m : Nat) (ys : List (Fin N)), x = .int .i64 ((N : Int) - 1 - (m : Int)) ∧ m ≤ N ∧ wr.cell? ⟨Bs, 0, none⟩ = some (.slice ao N cap) ∧ Hid (J ys wr ∧ ixs ys = (revs N).take m ∧ (wr.heap[gr]? = W.heap[gr]?))) (fun x _ => iN x)
  case atStart => exact ⟨0, [], by go_num, Nat.zero_le _, hc1, h0, by simp, rfl⟩
  case round =>
    obtain ⟨m, ys, rfl, hmN, hcb, HI⟩ := hrel
    by_cases hlt : m < N
    · obtain ⟨i, hi⟩ : ∃ i, N - 1 - m = i := ⟨_, rfl⟩
      have hiN : i < N := by omega
      have hI : (N : Int) - 1 - (m : Int) = (i : Int) := by omega
      rw [hI]
      have hao : ao = some ⟨gr, 0, none⟩ := by rcases hrow with h | h; omega; exact h
      subst hao
      have hcg : wr.cell? ⟨gr, i, none⟩ = some (ps.getD i undef) := (World.cell?_of_block HI.out.2.2).trans (HC.out i hiN)
      have hylen : ys.length < N := by
        have h1 := congrArg List.length HI.out.2.1
        rw [List.length_map, List.length_take] at h1; omega
      obtain ⟨fn, tmps, assign, body, hy, hR⟩ := hY ys ⟨i, hiN⟩ _ HI.out.1 hylen
      dsimp only at hy
      have HN : Hid (ixs (ys ++ [⟨i, hiN⟩]) = (revs N).take (m + 1)) := by
        show _ = _
        rw [revs_take hlt, ← HI.out.2.1, hi]; simp
      have HG : Hid (wr.heap[gr]? = W.heap[gr]?) := HI.out.2.2
      have i1 : (0 : Int) ≤ (i : Int) := by omega
      have i2 : (i : Int) < (N : Int) := by omega
      generalize ps.getD i undef = c at *
      clear HI
      gi_wp2
      refine hR.mono ?_
      rintro e W3 (⟨rfl, hJ3, hk3, hb3, hg3⟩ | ⟨rfl, hJx3⟩)
      · have c3 : W3.cell? ⟨Bs, 0, none⟩ = some (.slice (some ⟨gr, 0, none⟩) N cap) := (World.cell?_of_block hb3).trans hcb
        have HJ3 : Hid (J (ys ++ [⟨i, hiN⟩]) W3 ∧ W3.heap[gr]? = W.heap[gr]?) := ⟨hJ3, hg3.trans HG.out⟩
        clear hJ3 hk3 hb3 hg3 hR hy
        gi_wp2
        go_roundw
        case rel => exact ⟨m + 1, _, by go_num, by omega, c3, HJ3.out.1, HN.out, HJ3.out.2⟩
        case measure => simp [iN]
      · have HX3 : Hid (Jx (ys ++ [⟨i, hiN⟩]) W3) := hJx3
        have PRE : Hid (ixs (ys ++ [⟨i, hiN⟩]) <+: revs N) := by
          show _ <+: _
          rw [HN.out]; exact List.take_prefix _ _
        clear hJx3 hR hy
        gi_wp2
        refine bodyPost_ret (results_none rfl _ _ _) rfl ?_
        exact ⟨⟨_, rfl⟩, .inr ⟨_, PRE.out, HX3.out⟩⟩
    · have hm2 : m = N := by omega
      subst hm2
      have HE : Hid (∃ ys, ixs ys = revs m ∧ J ys wr) := ⟨ys, by rw [HI.out.2.1, List.take_of_length_le (by simp [revs])], HI.out.1⟩
      have hI : (m : Int) - 1 - (m : Int) = -1 := by omega
      rw [hI]
      clear HI
      gi_wp2
      exact ⟨rfl, _, results_none rfl _ _ _, ⟨_, rfl⟩, .inl HE.out⟩
end Go.Proofs.YtpngnhpnjkepjaaDoor
