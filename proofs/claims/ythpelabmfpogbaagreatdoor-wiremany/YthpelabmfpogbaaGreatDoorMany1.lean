/-
  WireMany: what is left of a slice behind its first j elements; a new pair behind the pairs of a slice.
-/
import Derived.Test.YthpelabmfpogbaaGreatDoorMany0
import Derived.DataElems
namespace Go.Proofs.YthpelabmfpogbaaGreatDoor
open Go.RowKit Wire Bk

theorem has_rest {w : World} {a : Addr} {cb j : Nat} {bl : List Int} (h : Has w (.slice (some a) bl.length cb) bl) (hj : j ≤ bl.length) : Has w (.slice (some (a.add j)) (bl.length - j) (cb - j)) (bl.drop j) := by
  rcases h with ⟨h, _⟩ | ⟨a', cap, hv, hc, h⟩
  · simp at h
  · simp only [Value.slice.injEq, Option.some.injEq] at hv
    obtain ⟨rfl, -, rfl⟩ := hv
    refine .inr ⟨_, _, by rw [List.length_drop], by rw [List.length_drop]; omega, fun i hi => ?_⟩
    rw [List.length_drop] at hi
    rw [Addr.add_add, h (j + i) (by omega)]
    simp [List.getD]

theorem has_gone {w : World} {a : Option Addr} {bl : List Int} {j : Nat} (hj : bl.length ≤ j) : Has w (.slice a 0 0) (bl.drop j) := by
  rw [List.drop_eq_nil_of_le hj]
  rcases a with _ | a
  · exact .inl ⟨rfl, rfl⟩
  · exact .inr ⟨a, 0, rfl, Nat.le_refl _, by simp⟩

theorem MA.append {w0 w w' : World} {lo K n : Nat} {B : Nat → Prop} {ps : List Pr} {v v' : Value} {p : Pr} {s : St} (h : MA w0 w lo K n B ps v) (hlo : lo ≤ w.heap.size) (t : Two w lo K n B p.a p.R p.c p.M p.l s) (hap : ∀ q ∈ ps, q.M < p.a) (hoff : ∀ b, v.ownBlock = some b → p.off b)
    (own : w'.ownsRow lo 63 2 v' (ps.length + 1) (ps.flatMap Pr.cells ++ p.cells)) (g : w.grownBy w' v.ownBlock) (hv : v'.ownBlock = v.ownBlock ∨ v'.ownBlock = some w.heap.size) : MA w0 w' lo K n B (ps ++ [p]) v' := by
  have bk : BookOk w' lo K n B := h.book.keep g.size (fun b hb => g.block b (h.book.lt b hb) (fun e => (h.nv b e.symm).1 hb)) g.os g.tape g.output
  have keep : ∀ q s, (∀ b, v.ownBlock = some b → Pr.off q b) → Two w lo K n B q.a q.R q.c q.M q.l s → Two w' lo K n B q.a q.R q.c q.M q.l s := fun q s ho tq => by
    have z1 := tq.lt
    have z2 := tq.le2
    have z3 := tq.le
    have zM := tq.rf.lt
    exact tq.beside bk (fun k y1 y2 => ⟨g.block k (by omega) (fun e => (ho k e.symm).1 ⟨y1, y2⟩), tq.nR k y1 y2⟩) (fun k y1 y2 => ⟨g.block k (by omega) (fun e => (ho k e.symm).2 ⟨y1, y2⟩), tq.nM k y1 y2⟩)
  refine ⟨bk, fun q hq => ?_, ?_, ?_, fun b hb => ?_, h.bel.trans ((Below.refl lo w).grown g hlo fun k hk => (World.ownsRow.lt h.own k hk).1)⟩
  · rcases List.mem_append.1 hq with hq | hq
    · obtain ⟨s', tq⟩ := h.two q hq
      exact ⟨s', keep q s' (fun b hb => (h.nv b hb).2 q hq) tq⟩
    · obtain rfl : q = p := by simpa using hq
      exact ⟨s, keep q s hoff t⟩
  · rw [List.pairwise_append]
    exact ⟨h.apart, by simp, fun q hq r hr => by obtain rfl : r = p := by simpa using hr
                                                 exact hap q hq⟩
  · simpa using own
  · have nw : ∀ q s, Two w lo K n B q.a q.R q.c q.M q.l s → Pr.off q w.heap.size := fun q s tq => by
      have z1 := tq.lt
      have z2 := tq.le2
      have z3 := tq.le
      have zM := tq.rf.lt
      exact ⟨by omega, by omega⟩
    rcases hv with hv | hv
    · rw [hv] at hb
      refine ⟨(h.nv b hb).1, fun q hq => ?_⟩
      rcases List.mem_append.1 hq with hq | hq
      · exact (h.nv b hb).2 q hq
      · obtain rfl : q = p := by simpa using hq
        exact hoff b hb
    · rw [hv] at hb
      obtain rfl := Option.some.inj hb
      refine ⟨fun hB => Nat.lt_irrefl _ (h.book.lt _ hB), fun q hq => ?_⟩
      rcases List.mem_append.1 hq with hq | hq
      · obtain ⟨s', tq⟩ := h.two q hq
        exact nw q s' tq
      · obtain rfl : q = p := by simpa using hq
        exact nw q s t

theorem info63 : (Tryz.prog.info? 63).map (fun i => (i.zero, i.size, i.bytes)) = some (some (.agg #[.pointer none, .pointer none]), 2, 16) := by kernel_rfl
theorem under64 : Tryz.prog.underlying 64 = some (.slice 63) := by kernel_rfl

theorem wpList_append_pair {w0 w : World} {ops : Array Oper} {rest : List Oper} {o : Oper} {a : Act} {Q : Exit → Act → World → Prop} (hgd : o.guard = none) (sx x : Operand)
    (ho : o.op = .call { callee := .builtin .append, args := #[sx, x], argTypes := #[64, 64] })
    {lo K n : Nat} {B : Nat → Prop} {ps : List Pr} {v : Value} {p : Pr} {s : St} (h : MA w0 w lo K n B ps v) (hlo : lo ≤ w.heap.size) (t : Two w lo K n B p.a p.R p.c p.M p.l s) (hap : ∀ q ∈ ps, q.M < p.a) (hoff : ∀ b, v.ownBlock = some b → p.off b)
    (hl : ps.length ≤ 1000) (g : Nat) (hs : a.eval sx = v) (hx : a.eval x = .slice (some ⟨g, 0, none⟩) 1 1)
    (hc0 : w.cell? ⟨g, 0, none⟩ = some (.pointer (some ⟨p.R, 0, none⟩))) (hc1 : w.cell? ⟨g, 1, none⟩ = some (.pointer (some ⟨p.M, 0, none⟩)))
    (hk : ∀ v' w', MA w0 w' lo K n B (ps ++ [p]) v' → wpList Tryz.prog ops Q rest (a.put o.dst v') w') : wpList Tryz.prog ops Q (o :: rest) a w := by
  obtain ⟨i0, hi, hz0, hz1, hz2⟩ := info_parts info63
  refine wpList_append_own_at w hgd sx x 64 ho lo 63 i0 (.agg #[.pointer none, .pointer none]) 2 16 under64 hi hz0 hz1 hz2 rfl (by decide) v ps.length _ hs h.own ⟨g, 0, none⟩ 1 1 p.cells hx rfl ?_ ?_ ?_ ?_ hlo ?_
  · intro j u hj
    rw [Addr.add_lit, Nat.zero_add]
    match j, hj with
    | 0, hj => rw [hc0]; exact hj
    | 1, hj => rw [hc1]; exact hj
  · intro u hu
    simp only [Pr.cells, List.mem_cons, List.not_mem_nil, or_false] at hu
    rcases hu with rfl | rfl <;> rfl
  · unfold maxLen; omega
  · omega
  · intro v' w' h1 h2 _ h4
    exact hk v' w' (h.append hlo t hap hoff h1 h2 h4)
end Go.Proofs.YthpelabmfpogbaaGreatDoor
