/-
  of: the walk.
-/
import Derived.Test.YtpngnhpnjkepjaaGreatDoorROf
import Derived.Deep.Cut
namespace Go.Proofs.YtpngnhpnjkepjaaGreatDoor
open Go.RowKit
attribute [local go_sem] run_store_func

theorem exec_append1' {o : Oper} {a : Act} {R : Value → World → Prop} (T E : TypeId) (i0 : TypeInfo) (hT : Tryz.prog.underlying T = some (.slice E)) (hi : Tryz.prog.info? E = some i0) (hz0 : i0.zero = some .nilFunc) (hz1 : i0.size = 1) (hz2 : i0.bytes = 8) (s x : Operand)
    (ho : o.op = .call { callee := .builtin .append, args := #[s, x], argTypes := #[T, T] }) (lo : Nat) (v c : Value) (cs : List Value) (K : Nat) (w : World) (hs : a.eval s = v) (hx : a.eval x = .slice (some ⟨K, 0, none⟩) 1 1)
    (hown : w.ownsRow lo E 1 v cs.length cs) (hK : w.heap[K]? = some (.cells #[c] E)) (h1 : c.oneCell' = true) (hlen : cs.length ≤ 1048576) (hb : lo ≤ w.heap.size)
    (hk : ∀ v' w', w'.ownsRow lo E 1 v' (cs ++ [c]).length (cs ++ [c]) → w.grownBy w' v.ownBlock → (v'.ownBlock = v.ownBlock ∨ v'.ownBlock = some w.heap.size) → R v' w') : ∃ v' w', (execOp a.eval o).run Tryz.prog w = .ok (.value v') w' ∧ R v' w' := by
  obtain ⟨v', w', h1, h2, h3, h4⟩ := exec_append1 (o := o) (a := a) T E i0 hT hi hz0 hz1 hz2 s x ho lo v c cs K w hs hx hown hK h1 hlen hb
  exact ⟨v', w', h1, hk v' w' h2 h3 h4⟩
theorem AllN.some {s : Nat} {Inv : World → Prop} {md : Region.Mode} {ops : Array Oper} {Q : Exit → Act → World → Prop} (i d : Nat) {oi : Oper} {k : Nat} {listed : Array Bool} {a : Act} {w : World} {rs : List Nat} (hi : ops[i]? = Option.some oi) (hk : (oi.dst == Option.some d && Region.wanted oi (yielded ops a.tmps)) = true)
    (hx : ∃ v w', (execOp a.eval oi).run Tryz.prog w = .ok (.value v) w' ∧ Inv w' ∧ wpN s Inv md ops Q k (listed.setIfInBounds i true) (a.put (Option.some d) v) w')
    (hs : AllN s Inv md ops Q k listed a w rs) : AllN s Inv md ops Q k listed a w (i :: rs) := by
  obtain ⟨v, w', h1, h2, h3⟩ := hx
  exact AllN.value i d v w' hi hk h1 h2 h3 hs
/-- rules that can be asked -/
def HasV (w : World) (v : Value) (cs : List Value) : Prop :=
  (v = .slice none 0 0 ∧ cs = []) ∨ ∃ g cap, v = .slice (some ⟨g, 0, none⟩) cs.length cap ∧ g < w.heap.size ∧ ∀ i c, cs[i]? = some c → w.cell? ⟨g, i, none⟩ = some c
def IsRules (w : World) (p : Nat) (L : List Ru) : Prop := ∃ v sv pv cs ps, w.heap[p]? = some (.cells #[v, sv, pv] 74) ∧ HasR w v L ∧ HasV w sv cs ∧ HasV w pv ps ∧ All2 (IsM (fun b => b < w.heap.size) w) cs (skipsOf L) ∧ All2 (IsP (fun b => b < w.heap.size) w) ps (prefsOf L)
theorem HasV.of_owns {w : World} {lo : Nat} {T : TypeId} {v : Value} {cs : List Value} (h : w.ownsRow lo T 1 v cs.length cs) : HasV w v cs := by
  have h0 := h
  obtain ⟨_, h | ⟨g, cap, cur, hv, hg, hh, hn, hm, hs, ht⟩⟩ := h
  · exact .inl ⟨h.1, List.length_eq_zero_iff.1 h.2⟩
  · subst hv
    refine .inr ⟨g, cap, rfl, (Array.getElem?_eq_some_iff.1 hh).1, fun i c hi => ?_⟩
    have hl := (List.getElem?_eq_some_iff.1 hi).1
    rw [World.ownsRow.cellAt h0 _ (by omega)]
    exact hi
theorem HasV.up {w w' : World} {v : Value} {cs : List Value} (h : HasV w v cs) (hb : Below w.heap.size w w') : HasV w' v cs := by
  rcases h with h | ⟨g, cap, hv, hg, h⟩
  · exact .inl h
  · exact .inr ⟨g, cap, hv, Nat.lt_of_lt_of_le hg hb.size, fun i c hi => (hb.cell (p := ⟨g, i, none⟩) hg).trans (h i c hi)⟩
theorem IsRules.up {w w' : World} {p : Nat} {L : List Ru} (h : IsRules w p L) (hb : Below w.heap.size w w') : IsRules w' p L := by
  obtain ⟨v, sv, pv, cs, ps, h1, h2, h3, h4, h5, h6⟩ := h
  exact ⟨v, sv, pv, cs, ps, heap_up h1 hb, h2.up hb, h3.up hb, h4.up hb, h5.mono fun c p hc => hc.up (fun b hb' => Nat.lt_of_lt_of_le hb' hb.size) fun b hb' => hb.block b hb', h6.mono fun c p hc => hc.up (fun b hb' => Nat.lt_of_lt_of_le hb' hb.size) fun b hb' => hb.block b hb'⟩
theorem OfS.rules {w wr : World} {v sv pv : Value} {p0 : Nat} {cs ps : List Value} {D : Nat → Prop} {L : List Ru} (h : OfS w wr v sv pv p0 cs ps D L) (hv : HasR wr v L) : IsRules wr p0 L :=
  ⟨v, sv, pv, cs, ps, h.blk, hv, .of_owns h.so, .of_owns h.po, h.sc.mono fun _ _ hc => hc.up h.dl fun _ _ => rfl, h.pc.mono fun _ _ hc => hc.up h.dl fun _ _ => rfl⟩
/-- the rules' list -/
def IsL (w : World) (p : Nat) (L : List Ru) : Prop := ∃ v sv pv, w.heap[p]? = some (.cells #[v, sv, pv] 74) ∧ HasR w v L
/-- rules in blocks from lo on -/
def IsNew (lo : Nat) (w : World) (p : Nat) (L : List Ru) : Prop := ∃ v sv pv, w.heap[p]? = some (.cells #[v, sv, pv] 74) ∧ HasR w v L ∧ lo ≤ p ∧ ∀ b, v.ownBlock = some b → lo ≤ b
theorem IsNew.isL {lo : Nat} {w : World} {p : Nat} {L : List Ru} (h : IsNew lo w p L) : IsL w p L := by obtain ⟨v, sv, pv, h1, h2, _⟩ := h; exact ⟨v, sv, pv, h1, h2⟩
theorem three_heap {w : World} {g : Nat} {a b c : Value} {T : TypeId} (h : w.heap[g]? = some (.cells #[a, b, c] T)) : w.cell? ⟨g, 0, none⟩ = some a ∧ w.cell? ⟨g, 1, none⟩ = some b ∧ w.cell? ⟨g, 2, none⟩ = some c ∧ w.frozen? ⟨g, 1, none⟩ = false ∧ w.frozen? ⟨g, 2, none⟩ = false := by
  simp [World.cell?, World.frozen?, h]
theorem Tryz.info74 : (Tryz.prog.info? 74).map (fun i => (i.zero, i.size, i.bytes)) = some (some (.agg #[.slice none 0 0, .slice none 0 0, .slice none 0 0]), 3, 72) := by kernel_rfl
theorem owns_form {w : World} {lo : Nat} {e : TypeId} {size : Nat} {v : Value} {n : Nat} {xs : List Value} (h : w.ownsRow lo e size v n xs) : ∃ ao cap, v = .slice ao n cap := by
  obtain ⟨_, ⟨h, h0⟩ | ⟨g, cap, cur, hv, _⟩⟩ := h
  · subst h0; exact ⟨none, 0, h⟩
  · exact ⟨_, cap, hv⟩
set_option maxHeartbeats 4000000 in
set_option maxRecDepth 100000 in
theorem of_any (v : Value) (L : List Ru) (w : World) (hv : HasR w v L) (hL : ∀ r ∈ L, r.1 = 1 ∨ r.1 = 2 ∨ r.1 = 3) (hn : L.length ≤ 1048576) :
    Calls Tryz.prog 14 #[v] w fun e w' => ∃ p, e = .returned (.pointer (some ⟨p, 0, none⟩)) ∧ (IsRules w' p L ∧ (∃ sv pv, w'.heap[p]? = some (.cells #[v, sv, pv] 74)) ∧ w.heap.size ≤ p) ∧ Below w.heap.size w w' := by
  obtain ⟨i0, hi, hz0, hz1, hz2⟩ := info_parts Tryz.info57
  obtain ⟨i6, hi6, hz60, hz61, hz62⟩ := info_parts Tryz.info74
  obtain ⟨i3, hi3, hz30, hz31, hz32⟩ := info_parts Tryz.info53
  obtain ⟨i8, hi8, hz80, hz81, hz82⟩ := info_parts Tryz.info84
  have HV : Hid (HasR w v L) := hv
  have HL : Hid (∀ r ∈ L, r.1 = 1 ∨ r.1 = 2 ∨ r.1 = 3) := hL
  obtain ⟨ao, cap, hvf⟩ := hv.form
  clear hv hL
  obtain ⟨N, hN⟩ : ∃ N, L.length = N := ⟨_, rfl⟩
  rw [hN] at hvf hn
  have HN : Hid (L.length = N) := hN
  subst hvf
  clear hN
  go_enter Tryz.func14, Tryz.ntmps14
  go_wp2
  go_loopw [11] (fun k wr => ∃ n : Nat, k = .int .i64 (n : Int) ∧ n ≤ N ∧ Hid (∃ sv pv cs ps D, OfS w wr (.slice ao N cap) sv pv w.heap.size cs ps D (L.take n) ∧ cs.length ≤ n ∧ ps.length ≤ n)) (fun k wr => N - iOf k)
  case atStart =>
    refine ⟨0, rfl, Nat.zero_le _, .slice none 0 0, .slice none 0 0, [], [], fun _ => False, ⟨World.alloc_heap_new _ _, World.ownsRow_nil _ _ _ _, World.ownsRow_nil _ _ _ _, by simp [skipsOf, All2], by simp [prefsOf, All2], ?_, ?_, ?_, fun h => h, ?_, ?_, fun _ h => h.elim, (Below.refl _ w).alloc (Nat.le_refl _) _⟩, Nat.le_refl _, Nat.le_refl _⟩
    all_goals simp [Value.ownBlock]
  case round =>
    obtain ⟨n, rfl, hnN, HS⟩ := hrel
    by_cases hlt : n < N
    · have i1 : (n : Int) < (N : Int) := by omega
      obtain ⟨sv, pv, cs, ps, D, hS, hcl, hpl⟩ := HS.out
      obtain ⟨r, hr⟩ : ∃ r, L[n]? = some r := ⟨_, List.getElem?_eq_getElem (by rw [HN.out]; exact hlt)⟩
      have hr3 := HL.out r (List.mem_of_getElem? hr)
      have htk : L.take (n + 1) = L.take n ++ [r] := by rw [List.take_add_one, hr]; rfl
      have HTK : Hid (L.take (n + 1) = L.take n ++ [r]) := htk
      have hvw : HasR wr (.slice ao N cap) L := HV.out.up hS.be
      have hcell : ∃ g, ao = some ⟨g, 0, none⟩ ∧ g < wr.heap.size ∧ wr.cell? ⟨g, n * 2, none⟩ = some (.int .i64 (r.1 : Int)) ∧ wr.cell? ⟨g, n * 2 + 1, none⟩ = some (.string (ofB r.2)) := by
        rcases hvw with ⟨_, e⟩ | ⟨_, g, cp, e, hg, hc⟩
        · subst e; simp at hr
        · cases e; exact ⟨g, rfl, hg, (hc n r hr).1, (hc n r hr).2⟩
      obtain ⟨g, rfl, hgl, hc0, hc1⟩ := hcell
      obtain ⟨k, p⟩ := r
      simp only at hc0 hc1 hr3
      have HSS : Hid (OfS w wr (.slice (some ⟨g, 0, none⟩) N cap) sv pv w.heap.size cs ps D (L.take n)) := hS
      obtain ⟨b0, b1, b2, f1, f2⟩ := three_heap hS.blk
      have hp0 : w.heap.size < wr.heap.size := (Array.getElem?_eq_some_iff.1 hS.blk).1
      obtain ⟨so, sc, hsf⟩ := owns_form hS.so
      obtain ⟨po, pc, hpf⟩ := owns_form hS.po
      have HSO : Hid (wr.ownsRow w.heap.size 53 1 sv cs.length cs) := hS.so
      have HPO : Hid (wr.ownsRow w.heap.size 84 1 pv ps.length ps) := hS.po
      have hx := World.alloc_heap_new wr (.cells #[.int .i64 (k : Int), .string (ofB p)] 57)
      clear hS HS hvw hr htk
      subst hsf hpf
      rcases hr3 with rfl | rfl | rfl
      · replace hc0 : wr.cell? ⟨g, n * 2, none⟩ = some (.int .i64 1) := hc0
        replace hx : (wr.alloc (.cells #[.int .i64 1, .string (ofB p)] 57)).heap[wr.heap.size]? = some (.cells #[.int .i64 1, .string (ofB p)] 57) := hx
        go_upto_region 7 with fail
        refine wp_region_N 12 (fun W => W.heap[w.heap.size]? = some (.cells #[.slice (some ⟨g, 0, none⟩) N cap, .slice so cs.length sc, .slice po ps.length pc] 74) ∧ W.heap[wr.heap.size]? = some (.cells #[.int .i64 1, .string (ofB p)] 57)) ?_
        have hI : (wr.alloc (.cells #[.int .i64 1, .string (ofB p)] 57)).drew.heap[w.heap.size]? = some (.cells #[.slice (some ⟨g, 0, none⟩) N cap, .slice so cs.length sc, .slice po ps.length pc] 74) ∧ (wr.alloc (.cells #[.int .i64 1, .string (ofB p)] 57)).drew.heap[wr.heap.size]? = some (.cells #[.int .i64 1, .string (ofB p)] 57) := ⟨heap_old _ HSS.out.blk, hx⟩
        have hbW : Below wr.heap.size wr (wr.alloc (.cells #[.int .i64 1, .string (ofB p)] 57)).drew := ((Below.refl _ wr).alloc (Nat.le_refl _) _).drew
        generalize (wr.alloc (.cells #[.int .i64 1, .string (ofB p)] 57)).drew = w0 at *
        try simp only [Act.put, List.setIfInBounds_toArray, List.set_cons_zero, List.set_cons_succ]
        refine tN 0 19 (.pointer (some ⟨w.heap.size, 0, none⟩)) rfl (by kernel_rfl) hI (fun _ _ _ h => h) (fun wz hz => ?_) ?_
        · rfl
        try simp only [Act.put, List.setIfInBounds_toArray, List.set_cons_zero, List.set_cons_succ]
        refine tN 1 20 (.pointer (some ⟨w.heap.size, 0, none⟩)) rfl (by kernel_rfl) hI (fun _ _ _ h => h) (fun wz hz => ?_) ?_
        · rfl
        try simp only [Act.put, List.setIfInBounds_toArray, List.set_cons_zero, List.set_cons_succ]
        refine tN 2 21 (.pointer (some ⟨w.heap.size, 0, none⟩)) rfl (by kernel_rfl) hI (fun _ _ _ h => h) (fun wz hz => ?_) ?_
        · go_simp
        try simp only [Act.put, List.setIfInBounds_toArray, List.set_cons_zero, List.set_cons_succ]
        refine tN 3 22 (.pointer (some ⟨w.heap.size, 1, none⟩)) rfl (by kernel_rfl) hI (fun _ _ _ h => h) (fun wz hz => ?_) ?_
        · go_simp
        try simp only [Act.put, List.setIfInBounds_toArray, List.set_cons_zero, List.set_cons_succ]
        refine tN 4 23 (.slice so cs.length sc) rfl (by kernel_rfl) hI (fun _ _ _ h => h) (fun wz hz => ?_) ?_
        · obtain ⟨z0, z1, z2, _, _⟩ := three_heap hz.1; go_simp
        try simp only [Act.put, List.setIfInBounds_toArray, List.set_cons_zero, List.set_cons_succ]
        refine tN 5 24 (.pointer (some ⟨wr.heap.size, 1, none⟩)) rfl (by kernel_rfl) hI (fun _ _ _ h => h) (fun wz hz => ?_) ?_
        · go_simp
        try simp only [Act.put, List.setIfInBounds_toArray, List.set_cons_zero, List.set_cons_succ]
        refine tN 6 25 (.string (ofB p)) rfl (by kernel_rfl) hI (fun _ _ _ h => h) (fun wz hz => ?_) ?_
        · obtain ⟨z0, z1, _, _⟩ := two_heap hz.2; go_simp
        try simp only [Act.put, List.setIfInBounds_toArray, List.set_cons_zero, List.set_cons_succ]
        refine readyN [7] (by kernel_rfl) (by simp) ?_
        refine AllN.call 7 26 44 #[.string (ofB p)] rfl (by kernel_rfl) (by go_simp) ((matching_any (ofB p) w0).mono ?_) AllN.nil
        rintro e w1 ⟨rfl, hw1⟩
        have hb1 : w1.heap[w0.heap.size]? = some (.cells #[.string (ofB p)] 9) := by rw [hw1]; exact World.alloc_heap_new _ _
        have hB1 : Below w0.heap.size w0 w1 := by rw [hw1]; exact (Below.refl _ w0).alloc (Nat.le_refl _) _
        clear hw1
        refine ⟨_, rfl, ⟨heap_up hI.1 hB1, heap_up hI.2 hB1⟩, ?_⟩
        try simp only [Act.put, List.setIfInBounds_toArray, List.set_cons_zero, List.set_cons_succ]
        refine readyN [8] (by kernel_rfl) (by simp) ?_
        refine AllN.value 8 27 (.slice (some ⟨w1.heap.size, 0, none⟩) 1 1) (w1.alloc (.cells #[fM w0.heap.size] 53)) rfl (by kernel_rfl) (by unfold fM; go_simp) ⟨heap_old _ (heap_up hI.1 hB1), heap_old _ (heap_up hI.2 hB1)⟩ ?_ AllN.nil
        try simp only [Act.put, List.setIfInBounds_toArray, List.set_cons_zero, List.set_cons_succ]
        have hK2 := World.alloc_heap_new w1 (.cells #[fM w0.heap.size] 53)
        have hB2 : Below w0.heap.size w0 (w1.alloc (.cells #[fM w0.heap.size] 53)) := hB1.alloc hB1.size _
        have hI2 : (w1.alloc (.cells #[fM w0.heap.size] 53)).heap[w.heap.size]? = _ := heap_old _ (heap_up hI.1 hB1)
        have hI3 : (w1.alloc (.cells #[fM w0.heap.size] 53)).heap[wr.heap.size]? = _ := heap_old _ (heap_up hI.2 hB1)
        have hb2 := heap_old (.cells #[fM w0.heap.size] 53) hb1
        generalize w1.heap.size = Kb at *
        generalize w1.alloc (.cells #[fM w0.heap.size] 53) = w2 at *
        have hBW := hbW.trans (hB2.mono hbW.size)
        have hown2 := owns_same (w' := w2) HSO.out fun k _ hk => hBW.block k hk
        have hp2 : w.heap.size ≤ w2.heap.size := Nat.le_of_lt (Array.getElem?_eq_some_iff.1 hI2).1
        refine readyN [9] (by kernel_rfl) (by simp) ?_
        refine AllN.some 9 28 rfl (by kernel_rfl) ?_ AllN.nil
        refine exec_append1' 71 53 i3 Tryz.underlying71 hi3 hz30 hz31 hz32 (.tmp 23) (.tmp 27) rfl w.heap.size (.slice so cs.length sc) (fM w0.heap.size) cs Kb w2 rfl rfl hown2 hK2 rfl (by omega) hp2 ?_
        intro v' w3 ho3 hg3 hob
        have hnp : some w.heap.size ≠ (.slice so cs.length sc : Value).ownBlock := Ne.symm HSS.out.s0
        have hnx : some wr.heap.size ≠ (.slice so cs.length sc : Value).ownBlock := fun e => by have := (World.ownsRow.lt HSO.out wr.heap.size e.symm).2; omega
        have hI4 := (hg3.block _ (Array.getElem?_eq_some_iff.1 hI2).1 hnp).trans hI2
        have hI5 := (hg3.block _ (Array.getElem?_eq_some_iff.1 hI3).1 hnx).trans hI3
        refine ⟨⟨hI4, hI5⟩, ?_⟩
        try simp only [Act.put, List.setIfInBounds_toArray, List.set_cons_zero, List.set_cons_succ]
        obtain ⟨vo, vc, rfl⟩ := owns_form ho3
        obtain ⟨z0, z1, z2, y1, y2⟩ := three_heap hI4
        clear hI
        have hI := And.intro hI4 hI5
        refine readyN [10] (by kernel_rfl) (by simp) ?_
        refine AllN.value 10 29 (.pointer (some ⟨w.heap.size, 0, none⟩)) w3 rfl (by kernel_rfl) (by go_simp) hI ?_ AllN.nil
        try simp only [Act.put, List.setIfInBounds_toArray, List.set_cons_zero, List.set_cons_succ]
        refine readyN [11] (by kernel_rfl) (by simp) ?_
        refine AllN.value 11 30 (.pointer (some ⟨w.heap.size, 1, none⟩)) w3 rfl (by kernel_rfl) (by go_simp) hI ?_ AllN.nil
        try simp only [Act.put, List.setIfInBounds_toArray, List.set_cons_zero, List.set_cons_succ]
        refine readyN [12] (by kernel_rfl) (by simp) ?_
        refine AllN.last 12 (w3.setCell ⟨w.heap.size, 1, none⟩ (.slice vo (cs ++ [fM w0.heap.size]).length vc)) rfl (by kernel_rfl) (by go_simp) ?_ AllN.nil
        try simp only [Act.put, List.setIfInBounds_toArray, List.set_cons_zero, List.set_cons_succ]
        refine doneN (by kernel_rfl) ?_
        obtain ⟨W5, hW5⟩ : ∃ W5, w3.setCell ⟨w.heap.size, 1, none⟩ (.slice vo (cs ++ [fM w0.heap.size]).length vc) = W5 := ⟨_, rfl⟩
        have HS4 : Hid (∃ sv pv cs ps D, OfS w W5 (.slice (some ⟨g, 0, none⟩) N cap) sv pv w.heap.size cs ps D (L.take (n + 1)) ∧ cs.length ≤ n + 1 ∧ ps.length ≤ n + 1) := by
          rw [HTK.out, ← hW5]
          exact ⟨_, _, _, _, _, HSS.out.skip rfl w2 hBW hbW.size hb2 ho3 hg3 hob, by simp; omega, by omega⟩
        rw [hW5]
        clear hW5 ho3 hg3 hob hI hI4 hI5 z0 z1 z2 y1 y2 hnp hnx
        go_wp2
        go_roundw
        case rel => exact ⟨n + 1, by go_num, by omega, HS4⟩
        case measure => simp; omega
      · replace hc0 : wr.cell? ⟨g, n * 2, none⟩ = some (.int .i64 2) := hc0
        replace hx : (wr.alloc (.cells #[.int .i64 2, .string (ofB p)] 57)).heap[wr.heap.size]? = some (.cells #[.int .i64 2, .string (ofB p)] 57) := hx
        go_upto_region 9 with fail
        refine wp_region_N 12 (fun W => W.heap[w.heap.size]? = some (.cells #[.slice (some ⟨g, 0, none⟩) N cap, .slice so cs.length sc, .slice po ps.length pc] 74) ∧ W.heap[wr.heap.size]? = some (.cells #[.int .i64 2, .string (ofB p)] 57)) ?_
        have hI : (wr.alloc (.cells #[.int .i64 2, .string (ofB p)] 57)).drew.heap[w.heap.size]? = some (.cells #[.slice (some ⟨g, 0, none⟩) N cap, .slice so cs.length sc, .slice po ps.length pc] 74) ∧ (wr.alloc (.cells #[.int .i64 2, .string (ofB p)] 57)).drew.heap[wr.heap.size]? = some (.cells #[.int .i64 2, .string (ofB p)] 57) := ⟨heap_old _ HSS.out.blk, hx⟩
        have hbW : Below wr.heap.size wr (wr.alloc (.cells #[.int .i64 2, .string (ofB p)] 57)).drew := ((Below.refl _ wr).alloc (Nat.le_refl _) _).drew
        generalize (wr.alloc (.cells #[.int .i64 2, .string (ofB p)] 57)).drew = w0 at *
        try simp only [Act.put, List.setIfInBounds_toArray, List.set_cons_zero, List.set_cons_succ]
        refine tN 0 33 (.pointer (some ⟨w.heap.size, 0, none⟩)) rfl (by kernel_rfl) hI (fun _ _ _ h => h) (fun wz hz => ?_) ?_
        · rfl
        try simp only [Act.put, List.setIfInBounds_toArray, List.set_cons_zero, List.set_cons_succ]
        refine tN 1 34 (.pointer (some ⟨w.heap.size, 0, none⟩)) rfl (by kernel_rfl) hI (fun _ _ _ h => h) (fun wz hz => ?_) ?_
        · rfl
        try simp only [Act.put, List.setIfInBounds_toArray, List.set_cons_zero, List.set_cons_succ]
        refine tN 2 35 (.pointer (some ⟨w.heap.size, 0, none⟩)) rfl (by kernel_rfl) hI (fun _ _ _ h => h) (fun wz hz => ?_) ?_
        · go_simp
        try simp only [Act.put, List.setIfInBounds_toArray, List.set_cons_zero, List.set_cons_succ]
        refine tN 3 36 (.pointer (some ⟨w.heap.size, 2, none⟩)) rfl (by kernel_rfl) hI (fun _ _ _ h => h) (fun wz hz => ?_) ?_
        · go_simp
        try simp only [Act.put, List.setIfInBounds_toArray, List.set_cons_zero, List.set_cons_succ]
        refine tN 4 37 (.slice po ps.length pc) rfl (by kernel_rfl) hI (fun _ _ _ h => h) (fun wz hz => ?_) ?_
        · obtain ⟨z0, z1, z2, _, _⟩ := three_heap hz.1; go_simp
        try simp only [Act.put, List.setIfInBounds_toArray, List.set_cons_zero, List.set_cons_succ]
        refine tN 5 38 (.pointer (some ⟨wr.heap.size, 1, none⟩)) rfl (by kernel_rfl) hI (fun _ _ _ h => h) (fun wz hz => ?_) ?_
        · go_simp
        try simp only [Act.put, List.setIfInBounds_toArray, List.set_cons_zero, List.set_cons_succ]
        refine tN 6 39 (.string (ofB p)) rfl (by kernel_rfl) hI (fun _ _ _ h => h) (fun wz hz => ?_) ?_
        · obtain ⟨z0, z1, _, _⟩ := two_heap hz.2; go_simp
        try simp only [Act.put, List.setIfInBounds_toArray, List.set_cons_zero, List.set_cons_succ]
        refine readyN [7] (by kernel_rfl) (by simp) ?_
        refine AllN.call 7 40 45 #[.int .i64 1, .string (ofB p)] rfl (by kernel_rfl) (by go_simp) ((preferring_any 1 (ofB p) w0).mono ?_) AllN.nil
        rintro e w1 ⟨rfl, hw1⟩
        have hB1 : Below w0.heap.size w0 w1 := by rw [hw1]; exact (((Below.refl _ w0).alloc (Nat.le_refl _) _).alloc (by simp) _).alloc (by simp; omega) _
        have hg1 : w1.heap[w0.heap.size]? = some (.cells #[.int .i64 1] 3) := by rw [hw1]; exact heap_old _ (heap_old _ (World.alloc_heap_new _ _))
        have hm1 : w1.heap[w0.heap.size + 1]? = some (.cells #[.string (ofB p)] 9) := by rw [hw1]; refine heap_old _ ?_; have := World.alloc_heap_new (w0.alloc (.cells #[.int .i64 1] 3)) (.cells #[.string (ofB p)] 9); rwa [World.size_alloc] at this
        have hb1 : w1.heap[w0.heap.size + 2]? = some (.cells #[fM (w0.heap.size + 1)] 53) := by rw [hw1]; have := World.alloc_heap_new ((w0.alloc (.cells #[.int .i64 1] 3)).alloc (.cells #[.string (ofB p)] 9)) (.cells #[fM (w0.heap.size + 1)] 53); rwa [World.size_alloc, World.size_alloc] at this
        clear hw1
        refine ⟨_, rfl, ⟨heap_up hI.1 hB1, heap_up hI.2 hB1⟩, ?_⟩
        try simp only [Act.put, List.setIfInBounds_toArray, List.set_cons_zero, List.set_cons_succ]
        refine readyN [8] (by kernel_rfl) (by simp) ?_
        refine AllN.value 8 41 (.slice (some ⟨w1.heap.size, 0, none⟩) 1 1) (w1.alloc (.cells #[fP (w0.heap.size + 2) w0.heap.size] 84)) rfl (by kernel_rfl) (by unfold fP; go_simp) ⟨heap_old _ (heap_up hI.1 hB1), heap_old _ (heap_up hI.2 hB1)⟩ ?_ AllN.nil
        try simp only [Act.put, List.setIfInBounds_toArray, List.set_cons_zero, List.set_cons_succ]
        have hK2 := World.alloc_heap_new w1 (.cells #[fP (w0.heap.size + 2) w0.heap.size] 84)
        have hB2 : Below w0.heap.size w0 (w1.alloc (.cells #[fP (w0.heap.size + 2) w0.heap.size] 84)) := hB1.alloc hB1.size _
        have hI2 : (w1.alloc (.cells #[fP (w0.heap.size + 2) w0.heap.size] 84)).heap[w.heap.size]? = _ := heap_old _ (heap_up hI.1 hB1)
        have hI3 : (w1.alloc (.cells #[fP (w0.heap.size + 2) w0.heap.size] 84)).heap[wr.heap.size]? = _ := heap_old _ (heap_up hI.2 hB1)
        have hb2 := heap_old (.cells #[fP (w0.heap.size + 2) w0.heap.size] 84) hb1
        have hg2 := heap_old (.cells #[fP (w0.heap.size + 2) w0.heap.size] 84) hg1
        have hm2 := heap_old (.cells #[fP (w0.heap.size + 2) w0.heap.size] 84) hm1
        generalize w1.heap.size = Kb at *
        generalize w1.alloc (.cells #[fP (w0.heap.size + 2) w0.heap.size] 84) = w2 at *
        have hBW := hbW.trans (hB2.mono hbW.size)
        have hown2 := owns_same (w' := w2) HPO.out fun k _ hk => hBW.block k hk
        have hp2 : w.heap.size ≤ w2.heap.size := Nat.le_of_lt (Array.getElem?_eq_some_iff.1 hI2).1
        refine readyN [9] (by kernel_rfl) (by simp) ?_
        refine AllN.some 9 42 rfl (by kernel_rfl) ?_ AllN.nil
        refine exec_append1' 72 84 i8 Tryz.underlying72 hi8 hz80 hz81 hz82 (.tmp 37) (.tmp 41) rfl w.heap.size (.slice po ps.length pc) (fP (w0.heap.size + 2) w0.heap.size) ps Kb w2 rfl rfl hown2 hK2 rfl (by omega) hp2 ?_
        intro v' w3 ho3 hg3 hob
        have hnp : some w.heap.size ≠ (.slice po ps.length pc : Value).ownBlock := Ne.symm HSS.out.q0
        have hnx : some wr.heap.size ≠ (.slice po ps.length pc : Value).ownBlock := fun e => by have := (World.ownsRow.lt HPO.out wr.heap.size e.symm).2; omega
        have hI4 := (hg3.block _ (Array.getElem?_eq_some_iff.1 hI2).1 hnp).trans hI2
        have hI5 := (hg3.block _ (Array.getElem?_eq_some_iff.1 hI3).1 hnx).trans hI3
        refine ⟨⟨hI4, hI5⟩, ?_⟩
        try simp only [Act.put, List.setIfInBounds_toArray, List.set_cons_zero, List.set_cons_succ]
        obtain ⟨vo, vc, rfl⟩ := owns_form ho3
        obtain ⟨z0, z1, z2, y1, y2⟩ := three_heap hI4
        clear hI
        have hI := And.intro hI4 hI5
        refine readyN [10] (by kernel_rfl) (by simp) ?_
        refine AllN.value 10 43 (.pointer (some ⟨w.heap.size, 0, none⟩)) w3 rfl (by kernel_rfl) (by go_simp) hI ?_ AllN.nil
        try simp only [Act.put, List.setIfInBounds_toArray, List.set_cons_zero, List.set_cons_succ]
        refine readyN [11] (by kernel_rfl) (by simp) ?_
        refine AllN.value 11 44 (.pointer (some ⟨w.heap.size, 2, none⟩)) w3 rfl (by kernel_rfl) (by go_simp) hI ?_ AllN.nil
        try simp only [Act.put, List.setIfInBounds_toArray, List.set_cons_zero, List.set_cons_succ]
        refine readyN [12] (by kernel_rfl) (by simp) ?_
        refine AllN.last 12 (w3.setCell ⟨w.heap.size, 2, none⟩ (.slice vo (ps ++ [fP (w0.heap.size + 2) w0.heap.size]).length vc)) rfl (by kernel_rfl) (by go_simp) ?_ AllN.nil
        try simp only [Act.put, List.setIfInBounds_toArray, List.set_cons_zero, List.set_cons_succ]
        refine doneN (by kernel_rfl) ?_
        obtain ⟨W5, hW5⟩ : ∃ W5, w3.setCell ⟨w.heap.size, 2, none⟩ (.slice vo (ps ++ [fP (w0.heap.size + 2) w0.heap.size]).length vc) = W5 := ⟨_, rfl⟩
        have HS4 : Hid (∃ sv pv cs ps D, OfS w W5 (.slice (some ⟨g, 0, none⟩) N cap) sv pv w.heap.size cs ps D (L.take (n + 1)) ∧ cs.length ≤ n + 1 ∧ ps.length ≤ n + 1) := by
          rw [HTK.out, ← hW5]
          exact ⟨_, _, _, _, _, HSS.out.pref (r := (2, p)) (by simp) w2 hBW (b := w0.heap.size + 2) (g := w0.heap.size) (m := w0.heap.size + 1) (by have := hbW.size; omega) hbW.size (by have := hbW.size; omega) hb2 hg2 hm2 ho3 hg3 hob, by omega, by simp; omega⟩
        rw [hW5]
        clear hW5 ho3 hg3 hob hI hI4 hI5 z0 z1 z2 y1 y2 hnp hnx
        go_wp2
        go_roundw
        case rel => exact ⟨n + 1, by go_num, by omega, HS4⟩
        case measure => simp; omega
      · replace hc0 : wr.cell? ⟨g, n * 2, none⟩ = some (.int .i64 3) := hc0
        replace hx : (wr.alloc (.cells #[.int .i64 3, .string (ofB p)] 57)).heap[wr.heap.size]? = some (.cells #[.int .i64 3, .string (ofB p)] 57) := hx
        go_upto_region 11 with fail
        refine wp_region_N 12 (fun W => W.heap[w.heap.size]? = some (.cells #[.slice (some ⟨g, 0, none⟩) N cap, .slice so cs.length sc, .slice po ps.length pc] 74) ∧ W.heap[wr.heap.size]? = some (.cells #[.int .i64 3, .string (ofB p)] 57)) ?_
        have hI : (wr.alloc (.cells #[.int .i64 3, .string (ofB p)] 57)).drew.heap[w.heap.size]? = some (.cells #[.slice (some ⟨g, 0, none⟩) N cap, .slice so cs.length sc, .slice po ps.length pc] 74) ∧ (wr.alloc (.cells #[.int .i64 3, .string (ofB p)] 57)).drew.heap[wr.heap.size]? = some (.cells #[.int .i64 3, .string (ofB p)] 57) := ⟨heap_old _ HSS.out.blk, hx⟩
        have hbW : Below wr.heap.size wr (wr.alloc (.cells #[.int .i64 3, .string (ofB p)] 57)).drew := ((Below.refl _ wr).alloc (Nat.le_refl _) _).drew
        generalize (wr.alloc (.cells #[.int .i64 3, .string (ofB p)] 57)).drew = w0 at *
        try simp only [Act.put, List.setIfInBounds_toArray, List.set_cons_zero, List.set_cons_succ]
        refine tN 0 47 (.pointer (some ⟨w.heap.size, 0, none⟩)) rfl (by kernel_rfl) hI (fun _ _ _ h => h) (fun wz hz => ?_) ?_
        · rfl
        try simp only [Act.put, List.setIfInBounds_toArray, List.set_cons_zero, List.set_cons_succ]
        refine tN 1 48 (.pointer (some ⟨w.heap.size, 0, none⟩)) rfl (by kernel_rfl) hI (fun _ _ _ h => h) (fun wz hz => ?_) ?_
        · rfl
        try simp only [Act.put, List.setIfInBounds_toArray, List.set_cons_zero, List.set_cons_succ]
        refine tN 2 49 (.pointer (some ⟨w.heap.size, 0, none⟩)) rfl (by kernel_rfl) hI (fun _ _ _ h => h) (fun wz hz => ?_) ?_
        · go_simp
        try simp only [Act.put, List.setIfInBounds_toArray, List.set_cons_zero, List.set_cons_succ]
        refine tN 3 50 (.pointer (some ⟨w.heap.size, 2, none⟩)) rfl (by kernel_rfl) hI (fun _ _ _ h => h) (fun wz hz => ?_) ?_
        · go_simp
        try simp only [Act.put, List.setIfInBounds_toArray, List.set_cons_zero, List.set_cons_succ]
        refine tN 4 51 (.slice po ps.length pc) rfl (by kernel_rfl) hI (fun _ _ _ h => h) (fun wz hz => ?_) ?_
        · obtain ⟨z0, z1, z2, _, _⟩ := three_heap hz.1; go_simp
        try simp only [Act.put, List.setIfInBounds_toArray, List.set_cons_zero, List.set_cons_succ]
        refine tN 5 52 (.pointer (some ⟨wr.heap.size, 1, none⟩)) rfl (by kernel_rfl) hI (fun _ _ _ h => h) (fun wz hz => ?_) ?_
        · go_simp
        try simp only [Act.put, List.setIfInBounds_toArray, List.set_cons_zero, List.set_cons_succ]
        refine tN 6 53 (.string (ofB p)) rfl (by kernel_rfl) hI (fun _ _ _ h => h) (fun wz hz => ?_) ?_
        · obtain ⟨z0, z1, _, _⟩ := two_heap hz.2; go_simp
        try simp only [Act.put, List.setIfInBounds_toArray, List.set_cons_zero, List.set_cons_succ]
        refine readyN [7] (by kernel_rfl) (by simp) ?_
        refine AllN.call 7 54 45 #[.int .i64 2, .string (ofB p)] rfl (by kernel_rfl) (by go_simp) ((preferring_any 2 (ofB p) w0).mono ?_) AllN.nil
        rintro e w1 ⟨rfl, hw1⟩
        have hB1 : Below w0.heap.size w0 w1 := by rw [hw1]; exact (((Below.refl _ w0).alloc (Nat.le_refl _) _).alloc (by simp) _).alloc (by simp; omega) _
        have hg1 : w1.heap[w0.heap.size]? = some (.cells #[.int .i64 2] 3) := by rw [hw1]; exact heap_old _ (heap_old _ (World.alloc_heap_new _ _))
        have hm1 : w1.heap[w0.heap.size + 1]? = some (.cells #[.string (ofB p)] 9) := by rw [hw1]; refine heap_old _ ?_; have := World.alloc_heap_new (w0.alloc (.cells #[.int .i64 2] 3)) (.cells #[.string (ofB p)] 9); rwa [World.size_alloc] at this
        have hb1 : w1.heap[w0.heap.size + 2]? = some (.cells #[fM (w0.heap.size + 1)] 53) := by rw [hw1]; have := World.alloc_heap_new ((w0.alloc (.cells #[.int .i64 2] 3)).alloc (.cells #[.string (ofB p)] 9)) (.cells #[fM (w0.heap.size + 1)] 53); rwa [World.size_alloc, World.size_alloc] at this
        clear hw1
        refine ⟨_, rfl, ⟨heap_up hI.1 hB1, heap_up hI.2 hB1⟩, ?_⟩
        try simp only [Act.put, List.setIfInBounds_toArray, List.set_cons_zero, List.set_cons_succ]
        refine readyN [8] (by kernel_rfl) (by simp) ?_
        refine AllN.value 8 55 (.slice (some ⟨w1.heap.size, 0, none⟩) 1 1) (w1.alloc (.cells #[fP (w0.heap.size + 2) w0.heap.size] 84)) rfl (by kernel_rfl) (by unfold fP; go_simp) ⟨heap_old _ (heap_up hI.1 hB1), heap_old _ (heap_up hI.2 hB1)⟩ ?_ AllN.nil
        try simp only [Act.put, List.setIfInBounds_toArray, List.set_cons_zero, List.set_cons_succ]
        have hK2 := World.alloc_heap_new w1 (.cells #[fP (w0.heap.size + 2) w0.heap.size] 84)
        have hB2 : Below w0.heap.size w0 (w1.alloc (.cells #[fP (w0.heap.size + 2) w0.heap.size] 84)) := hB1.alloc hB1.size _
        have hI2 : (w1.alloc (.cells #[fP (w0.heap.size + 2) w0.heap.size] 84)).heap[w.heap.size]? = _ := heap_old _ (heap_up hI.1 hB1)
        have hI3 : (w1.alloc (.cells #[fP (w0.heap.size + 2) w0.heap.size] 84)).heap[wr.heap.size]? = _ := heap_old _ (heap_up hI.2 hB1)
        have hb2 := heap_old (.cells #[fP (w0.heap.size + 2) w0.heap.size] 84) hb1
        have hg2 := heap_old (.cells #[fP (w0.heap.size + 2) w0.heap.size] 84) hg1
        have hm2 := heap_old (.cells #[fP (w0.heap.size + 2) w0.heap.size] 84) hm1
        generalize w1.heap.size = Kb at *
        generalize w1.alloc (.cells #[fP (w0.heap.size + 2) w0.heap.size] 84) = w2 at *
        have hBW := hbW.trans (hB2.mono hbW.size)
        have hown2 := owns_same (w' := w2) HPO.out fun k _ hk => hBW.block k hk
        have hp2 : w.heap.size ≤ w2.heap.size := Nat.le_of_lt (Array.getElem?_eq_some_iff.1 hI2).1
        refine readyN [9] (by kernel_rfl) (by simp) ?_
        refine AllN.some 9 56 rfl (by kernel_rfl) ?_ AllN.nil
        refine exec_append1' 72 84 i8 Tryz.underlying72 hi8 hz80 hz81 hz82 (.tmp 51) (.tmp 55) rfl w.heap.size (.slice po ps.length pc) (fP (w0.heap.size + 2) w0.heap.size) ps Kb w2 rfl rfl hown2 hK2 rfl (by omega) hp2 ?_
        intro v' w3 ho3 hg3 hob
        have hnp : some w.heap.size ≠ (.slice po ps.length pc : Value).ownBlock := Ne.symm HSS.out.q0
        have hnx : some wr.heap.size ≠ (.slice po ps.length pc : Value).ownBlock := fun e => by have := (World.ownsRow.lt HPO.out wr.heap.size e.symm).2; omega
        have hI4 := (hg3.block _ (Array.getElem?_eq_some_iff.1 hI2).1 hnp).trans hI2
        have hI5 := (hg3.block _ (Array.getElem?_eq_some_iff.1 hI3).1 hnx).trans hI3
        refine ⟨⟨hI4, hI5⟩, ?_⟩
        try simp only [Act.put, List.setIfInBounds_toArray, List.set_cons_zero, List.set_cons_succ]
        obtain ⟨vo, vc, rfl⟩ := owns_form ho3
        obtain ⟨z0, z1, z2, y1, y2⟩ := three_heap hI4
        clear hI
        have hI := And.intro hI4 hI5
        refine readyN [10] (by kernel_rfl) (by simp) ?_
        refine AllN.value 10 57 (.pointer (some ⟨w.heap.size, 0, none⟩)) w3 rfl (by kernel_rfl) (by go_simp) hI ?_ AllN.nil
        try simp only [Act.put, List.setIfInBounds_toArray, List.set_cons_zero, List.set_cons_succ]
        refine readyN [11] (by kernel_rfl) (by simp) ?_
        refine AllN.value 11 58 (.pointer (some ⟨w.heap.size, 2, none⟩)) w3 rfl (by kernel_rfl) (by go_simp) hI ?_ AllN.nil
        try simp only [Act.put, List.setIfInBounds_toArray, List.set_cons_zero, List.set_cons_succ]
        refine readyN [12] (by kernel_rfl) (by simp) ?_
        refine AllN.last 12 (w3.setCell ⟨w.heap.size, 2, none⟩ (.slice vo (ps ++ [fP (w0.heap.size + 2) w0.heap.size]).length vc)) rfl (by kernel_rfl) (by go_simp) ?_ AllN.nil
        try simp only [Act.put, List.setIfInBounds_toArray, List.set_cons_zero, List.set_cons_succ]
        refine doneN (by kernel_rfl) ?_
        obtain ⟨W5, hW5⟩ : ∃ W5, w3.setCell ⟨w.heap.size, 2, none⟩ (.slice vo (ps ++ [fP (w0.heap.size + 2) w0.heap.size]).length vc) = W5 := ⟨_, rfl⟩
        have HS4 : Hid (∃ sv pv cs ps D, OfS w W5 (.slice (some ⟨g, 0, none⟩) N cap) sv pv w.heap.size cs ps D (L.take (n + 1)) ∧ cs.length ≤ n + 1 ∧ ps.length ≤ n + 1) := by
          rw [HTK.out, ← hW5]
          exact ⟨_, _, _, _, _, HSS.out.pref (r := (3, p)) (by simp) w2 hBW (b := w0.heap.size + 2) (g := w0.heap.size) (m := w0.heap.size + 1) (by have := hbW.size; omega) hbW.size (by have := hbW.size; omega) hb2 hg2 hm2 ho3 hg3 hob, by omega, by simp; omega⟩
        rw [hW5]
        clear hW5 ho3 hg3 hob hI hI4 hI5 z0 z1 z2 y1 y2 hnp hnx
        go_wp2
        go_roundw
        case rel => exact ⟨n + 1, by go_num, by omega, HS4⟩
        case measure => simp; omega
    · have hn2 : n = N := by omega
      subst hn2
      obtain ⟨sv, pv, cs, ps, D, hS, _, _⟩ := HS.out
      rw [List.take_of_length_le (by rw [HN.out]; exact Nat.le_refl _)] at hS
      have HF : Hid ((IsRules wr w.heap.size L ∧ (∃ sv pv, wr.heap[w.heap.size]? = some (.cells #[.slice ao n cap, sv, pv] 74)) ∧ w.heap.size ≤ w.heap.size) ∧ Below w.heap.size w wr) := ⟨⟨hS.rules (HV.out.up hS.be), ⟨sv, pv, hS.blk⟩, Nat.le_refl _⟩, hS.be⟩
      clear hS HS
      go_wp2
      go_ret
      exact ⟨_, rfl, HF.out.1, HF.out.2⟩
end Go.Proofs.YtpngnhpnjkepjaaGreatDoor
