/-
  SumParts: cutUp by contract: parts that lie one behind another in the bytes.
-/
import Derived.Test.YtmglopfjjbnfiaaDoorDam
namespace Go.Proofs.YtmglopfjjbnfiaaDoor
open Go.RowKit

theorem Tryd.info43 : (Tryd.prog.info? 43).map (fun i => (i.zero, i.size, i.bytes)) = some (some (.slice none 0 0), 1, 24) := by kernel_rfl

/-- A slice's value holds these numbers. -/
def HasI (w : World) (v : Value) (l : List Int) : Prop :=
  (v = .slice none 0 0 ∧ l = []) ∨ ∃ a cap, v = .slice (some a) l.length cap ∧ l.length ≤ cap ∧ ∀ i, i < l.length → w.cell? (a.add i) = some (.int .i64 (l.getD i 0))

theorem HasI.below {w w' : World} {v : Value} {l : List Int} (h : HasI w v l) (hb : Below w.heap.size w w') : HasI w' v l := by
  rcases h with h | ⟨a, cap, hv, hc, h⟩
  · exact .inl h
  · refine .inr ⟨a, cap, hv, hc, fun i hi => ?_⟩
    have h1 := h i hi
    rw [hb.cell (World.block_lt_of_cell? w _ h1)]
    exact h1

theorem HasI.form {w : World} {v : Value} {l : List Int} (h : HasI w v l) : ∃ ao cap, v = .slice ao l.length cap ∧ l.length ≤ cap := by
  rcases h with ⟨rfl, rfl⟩ | ⟨a, cap, rfl, hc, _⟩
  · exact ⟨none, 0, rfl, Nat.le_refl _⟩
  · exact ⟨some a, cap, rfl, hc⟩

/-- The list of parts as it grows: its row is the call's own, each part holds its bytes in the world w. -/
structure PartsIn (w wr : World) (lo : Nat) (v : Value) (ps : List (List Nat)) : Prop where
  own : ∃ us : List Value, us.length = ps.length ∧ wr.ownsRow lo 43 1 v us.length us ∧ ∀ i, i < ps.length → Has w (us.getD i (.slice none 0 0)) (ps.getD i [])

theorem PartsIn.nil (w wr : World) (lo : Nat) : PartsIn w wr lo (.slice none 0 0) [] := ⟨⟨[], rfl, World.ownsRow_nil _ _ _ _, fun i hi => by simp at hi⟩⟩

theorem PartsIn.block {w wr wz : World} {lo : Nat} {v : Value} {ps : List (List Nat)} (h : PartsIn w wr lo v ps) (hb : ∀ k, k < wr.heap.size → wz.heap[k]? = wr.heap[k]?) : PartsIn w wz lo v ps := by
  obtain ⟨us, h1, h2, h3⟩ := h.own
  refine ⟨⟨us, h1, ?_, h3⟩⟩
  have hl := World.ownsRow.lt h2
  obtain ⟨g1, h | ⟨g, cap, cur, hv, hg, hh, hr⟩⟩ := h2
  · exact ⟨g1, .inl h⟩
  · subst hv
    exact ⟨g1, .inr ⟨g, cap, cur, rfl, hg, (hb g (hl g rfl).2).trans hh, hr⟩⟩

theorem PartsIn.has {w wr : World} {lo : Nat} {v : Value} {ps : List (List Nat)} (h : PartsIn w wr lo v ps) (hb : Below w.heap.size w wr) : HasL wr v ps := by
  obtain ⟨us, h1, h2, h3⟩ := h.own
  have h0 := h2
  obtain ⟨g1, h | ⟨g, cap, cur, hv, hg, hh, hn, hr⟩⟩ := h2
  · obtain ⟨rfl, hl⟩ := h
    exact .inl ⟨rfl, List.length_eq_zero_iff.1 (by rw [← h1]; exact hl)⟩
  · subst hv
    refine .inr ⟨⟨g, 0, none⟩, cap, by rw [← h1], by rw [← h1]; exact hn, fun i hi => ⟨us.getD i (.slice none 0 0), ?_, (h3 i hi).below hb⟩⟩
    exact World.ownsRow.cells h0 (g := g) rfl i _ (by simp [List.getD, List.getElem?_eq_getElem (show i < us.length by omega)])

theorem PartsIn.form {w wr : World} {lo : Nat} {v : Value} {ps : List (List Nat)} (h : PartsIn w wr lo v ps) : ∃ ao cap, v = .slice ao ps.length cap := by
  obtain ⟨us, h1, h2, h3⟩ := h.own
  obtain ⟨g1, h | ⟨g, cap, cur, hv, hg, hh, hn, hr⟩⟩ := h2
  · obtain ⟨rfl, hl⟩ := h
    exact ⟨none, 0, by rw [← h1, hl]⟩
  · exact ⟨_, _, by rw [← h1]; exact hv⟩

/-- 'l = append(l, u)'. -/
theorem wpList_append_part {w w0 : World} {ops : Array Oper} {rest : List Oper} {o : Oper} {a : Act} {Q : Exit → Act → World → Prop} (hgd : o.guard = none) (s x : Operand)
    (ho : o.op = .call { callee := .builtin .append, args := #[s, x], argTypes := #[22, 22] })
    (lo : Nat) (v u : Value) (g : Nat) (ps : List (List Nat)) (p : List Nat) (hs : a.eval s = v) (hx : a.eval x = .slice (some ⟨g, 0, none⟩) 1 1) (hown : PartsIn w0 w lo v ps) (hc : w.cell? ⟨g, 0, none⟩ = some u) (hu : Has w0 u p)
    (hlen : ps.length + 1 ≤ 65536) (hbase : lo ≤ w.heap.size)
    (h : ∀ v' w', PartsIn w0 w' lo v' (ps ++ [p]) → Below lo w w' → wpList Tryd.prog ops Q rest (a.put o.dst v') w') : wpList Tryd.prog ops Q (o :: rest) a w := by
  obtain ⟨i0, hi, hz0, hz1, hz2⟩ := info_parts Tryd.info43
  obtain ⟨us, h1, h2, h3⟩ := hown.own
  refine wpList_append_own w hgd s x 22 ho lo 43 i0 (.slice none 0 0) 1 24 Tryd.underlying22 hi hz0 hz1 hz2 rfl (by decide) v us.length us hs h2 ⟨g, 0, none⟩ 1 1 [u] hx (by simp) ?_ ?_ ?_ ?_ hbase ?_
  · intro j y hj
    have hj0 : j = 0 := by
      have := (List.getElem?_eq_some_iff.1 hj).1
      simpa using this
    subst hj0
    rw [show (⟨g, 0, none⟩ : Addr).add 0 = ⟨g, 0, none⟩ from rfl, hc]; exact hj
  · intro y hy; rw [List.mem_singleton.1 hy]; obtain ⟨_, _, e, _⟩ := hu.form; rw [e]; rfl
  · unfold maxLen; omega
  · omega
  · intro v' w' h4 h5 _
    refine h v' w' ⟨⟨us ++ [u], by simp [h1], ?_, fun i hi => ?_⟩⟩ ((Below.refl lo w).grown h5 hbase fun k hk => (World.ownsRow.lt h2 k hk).1)
    · simpa using h4
    · by_cases hlt : i < ps.length
      · have e1 : (us ++ [u]).getD i (.slice none 0 0) = us.getD i (.slice none 0 0) := by simp [List.getD, List.getElem?_append_left (show i < us.length by omega)]
        have e2 : (ps ++ [p]).getD i [] = ps.getD i [] := by simp [List.getD, List.getElem?_append_left hlt]
        rw [e1, e2]; exact h3 i hlt
      · obtain rfl : i = ps.length := by simp at hi; omega
        have e1 : (us ++ [u]).getD ps.length (.slice none 0 0) = u := by rw [← h1]; simp [List.getD]
        have e2 : (ps ++ [p]).getD ps.length [] = p := by simp [List.getD]
        rw [e1, e2]; exact hu

def cutM (b i : Value) : Nat := match b with | .slice _ 0 _ => 0 | _ => 102 - (intOf i).toNat
theorem cutM_lt (a b : Option Addr) (n c m d : Nat) (k : Nat) (h : 0 < m) (hk : k ≤ 100) : cutM (.slice a n c) (.int .i64 ((k : Int) + 1)) < cutM (.slice b m d) (.int .i64 k) := by
  have h2 : cutM (.slice b m d) (.int .i64 k) = 102 - k := by
    unfold cutM
    split
    · rename_i e; simp only [Value.slice.injEq] at e; omega
    · simp [intOf]
  have h1 : cutM (.slice a n c) (.int .i64 ((k : Int) + 1)) ≤ 101 - k := by
    unfold cutM
    split
    · omega
    · simp only [intOf]; omega
  omega

set_option maxHeartbeats 2000000 in
set_option maxRecDepth 100000 in
theorem cutUp_any (ao0 : Option Addr) (cap0 : Nat) (L : List Nat) (w0 w : World) (hL : Has w0 (.slice ao0 L.length cap0) L) (hl : L.length ≤ 32768) (cv : Value) (cs : List Int) (hC : HasI w cv cs) (hcs : cs.length ≤ 9223372036854775807) :
    Calls Tryd.prog 30 #[.slice ao0 L.length cap0, cv] w fun e w' => ∃ v ps, e = .returned v ∧ PartsIn w0 w' w.heap.size v ps ∧ ps.flatten = L ∧ ps.length ≤ 101 ∧ Below w.heap.size w w' := by
  obtain ⟨co, cc, rfl, hcc⟩ := hC.form
  have HC : Hid (HasI w (.slice co cs.length cc) cs ∧ cs.length ≤ 9223372036854775807) := ⟨hC, hcs⟩
  have HLL : Hid (L.length ≤ 32768) := hl
  obtain ⟨cn, hcn⟩ : ∃ cn, cn = cs.length := ⟨_, rfl⟩
  have HCN : Hid (cn = cs.length) := hcn
  rw [← hcn]
  clear hC hcs hl hcn hcc
  go_enter Tryd.func30, Tryd.ntmps30
  go_wp2_with fail
  go_loopw [0, 5, 6] (fun b lv i wr => ∃ (bs : List Nat) (ps : List (List Nat)) (ao : Option Addr) (cap : Nat), b = .slice ao bs.length cap ∧ i = .int .i64 (ps.length : Nat) ∧ Hid (Has w0 (.slice ao bs.length cap) bs) ∧ Hid (PartsIn w0 wr w.heap.size lv ps) ∧ Hid (ps.flatten ++ bs = L) ∧ ps.length ≤ 101 ∧ (ps.length = 101 → bs.length = 0) ∧ Hid (Below w.heap.size w wr)) (fun b _ i _ => cutM b i)
  case atStart => exact ⟨L, [], ao0, cap0, rfl, rfl, hL, PartsIn.nil _ _ _, by show _ = _; simp, by simp, fun h => by simp at h, Below.refl _ _⟩
  case round =>
    clear hL
    obtain ⟨bs, ps, ao, cap, rfl, rfl, HB, HP, HE, hp1, hp2, HW⟩ := hrel
    by_cases h0 : bs.length = 0
    · obtain rfl : bs = [] := List.eq_nil_of_length_eq_zero h0
      obtain ⟨vo, vc, rfl⟩ := HP.out.form
      go_wp2
      go_ret
      exact ⟨_, ps, rfl, HP.out, by have := HE.out; rw [List.append_nil] at this; exact this, hp1, HW.out⟩
    · obtain ⟨a, rfl⟩ : ∃ a, ao = some a := by
        rcases HB.out with ⟨e, h⟩ | ⟨a, c, e, _⟩
        · rw [h] at h0; exact absurd rfl h0
        · simp only [Value.slice.injEq] at e; exact ⟨a, e.1⟩
      have hcap : bs.length ≤ cap := by obtain ⟨_, _, e, h⟩ := HB.out.form; simp only [Value.slice.injEq] at e; omega
      have hbs : bs.length ≤ 32768 := by have h := HE.out; have := HLL.out; rw [← h, List.length_append] at this; omega
      obtain ⟨bl, hbl⟩ : ∃ bl, bl = bs.length := ⟨_, rfl⟩
      obtain ⟨k, hk⟩ : ∃ k, k = ps.length := ⟨_, rfl⟩
      have hk1 : k ≤ 100 := by omega
      rw [← hbl] at HB h0 hcap hbs ⊢
      rw [← hk] at ⊢
      have HBL : Hid (bl = bs.length) := hbl
      have HK : Hid (k = ps.length ∧ k ≤ 100) := ⟨hk, hk1⟩
      have hb0 : (0 : Int) < (bl : Int) := by omega
      have hb1 : 0 < bl := by omega
      have FIN : ∀ n, n ≤ bl → Hid ((∀ wz, (Instr.sliceAt 43 (.slice (some a) bl cap) none (some (.int .i64 (n : Int))) none).run Tryd.prog wz = .ok (.slice (some a) n cap) wz) ∧ (∀ wz, (Instr.sliceAt 43 (.slice (some a) bl cap) (some (.int .i64 (n : Int))) none none).run Tryd.prog wz = .ok (.slice (some (if cap = n then a else a.add n)) (bl - n) (cap - n)) wz) ∧ Has w0 (.slice (some a) n cap) (bs.take n) ∧ Has w0 (.slice (some (if cap = n then a else a.add n)) (bl - n) (cap - n)) (bs.drop n)) := fun n hn => by
        have h := HB.out
        have e := HBL.out
        refine ⟨slice43_h (some a) bl cap n hn hcap, slice43 a bl cap n hn, ?_, ?_⟩
        · exact Has.take (by rw [← e]; exact h) n (by omega)
        · have := Has.drop (a := a) (cap := cap) (l := bs) (by rw [← e]; exact h) n (by omega)
          rw [← e] at this; exact this
      clear hbl hk hp2 hp1
      by_cases hg : 0 < cn ∧ k < 100
      · obtain ⟨hg1, hg2⟩ := hg
        have hg1I : (0 : Int) < (cn : Int) := by omega
        have hg2I : (k : Int) < 100 := by omega
        have hmlt : k % cn < cn := Nat.mod_lt _ hg1
        obtain ⟨ca, rfl⟩ : ∃ ca, co = some ca := by
          rcases HC.out.1 with ⟨e, h⟩ | ⟨a, c, e, _⟩
          · have := HCN.out; rw [h] at this; simp at this; omega
          · simp only [Value.slice.injEq] at e; exact ⟨a, e.1⟩
        obtain ⟨z, hz⟩ : ∃ z : Int, wr.cell? (ca.add (k % cn)) = some (.int .i64 z) := by
          rcases HC.out.1.below HW.out with ⟨e, h⟩ | ⟨a, c, e, _, hcell⟩
          · cases e
          · simp only [Value.slice.injEq, Option.some.injEq] at e
            obtain ⟨rfl, _⟩ := e
            exact ⟨_, hcell (k % cn) (by have := HCN.out; omega)⟩
        obtain ⟨n, hn, CP⟩ := place_any z (bl + 1) (by omega) (by omega)
        obtain ⟨s1, s2, s3, s4⟩ := (FIN n (by omega)).out
        have HT : Hid (Has w0 (.slice (some a) n cap) (bs.take n)) := s3
        have HD : Hid (Has w0 (.slice (some (if cap = n then a else a.add n)) (bl - n) (cap - n)) (bs.drop n)) := s4
        have hnI : (n : Int) ≤ (bl : Int) := by omega
        have hcm : (k : Int) % (cn : Int) < (cn : Int) := by omega
        have hcz : ¬ ((cn : Int) = 0) := by omega
        have HCP : Hid (∀ wz, Calls Tryd.prog 59 #[.int .i64 z, .int .i64 ((bl : Int) + 1)] wz fun e w' => e = .returned (.int .i64 (n : Int)) ∧ wz = w') := fun wz => by have := CP wz; rw [show (((bl + 1 : Nat)) : Int) = (bl : Int) + 1 by omega] at this; exact this
        have hwrap : IntKind.i64.wrap ((bl : Int) + 1) = (bl : Int) + 1 := by rw [IntKind.wrap_i64]; omega
        clear s3 s4 CP FIN
        go_wp2_with (first | (go_at_call 59; refine (HCP.out _).mono ?_; rintro e wz ⟨rfl, rfl⟩) | (at_builtin; refine wpList_append_part rfl (.tmp 33) (.tmp 37) rfl w.heap.size _ (.slice (some a) n cap) wr.heap.size ps (bs.take n) rfl rfl (HP.out.block fun q hq => heap_alloc_old _ _ hq) (by rw [cell_of_row _ _ 0 _ _ _ (heap_alloc_new _ _)]; rfl) HT.out (by have := HK.out; omega) (by have := HW.out.size; simp; omega) ?_; intro v' w' hp' hb'; have HP2 : Hid (PartsIn w0 w' w.heap.size v' (ps ++ [bs.take n]) ∧ Below w.heap.size w w') := ⟨hp', HW.out.trans (((Below.refl w.heap.size wr).alloc HW.out.size _).trans hb')⟩; clear hp' hb'))
        go_roundw
        case rel => exact ⟨bs.drop n, ps ++ [bs.take n], _, _, by rw [List.length_drop, ← HBL.out], by rw [List.length_append, ← HK.out.1]; go_num, by rw [List.length_drop, ← HBL.out]; exact HD.out, HP2.out.1, by show _ = _; rw [List.flatten_append, List.append_assoc]; simp; exact HE.out, by rw [List.length_append, ← HK.out.1]; simp; omega, by rw [List.length_append, ← HK.out.1]; simp; omega, HP2.out.2⟩
        case measure => exact cutM_lt _ _ _ _ _ _ _ (by omega) (by omega)
      · have hn : bl ≤ bl := Nat.le_refl _
        obtain ⟨s1, s2, s3, s4⟩ := (FIN bl (Nat.le_refl _)).out
        have HT : Hid (Has w0 (.slice (some a) bl cap) (bs.take bl)) := s3
        have HD : Hid (Has w0 (.slice (some (if cap = bl then a else a.add bl)) (bl - bl) (cap - bl)) (bs.drop bl)) := s4
        have hgd : (decide ((0 : Int) < (cn : Int)) && decide ((k : Int) < 100)) = false := by
          rw [Bool.and_eq_false_iff]
          by_cases h1 : 0 < cn
          · right; simp; omega
          · left; simp; omega
        clear s3 s4 FIN
        go_wp2_with (first | (at_builtin; refine wpList_append_part rfl (.tmp 33) (.tmp 37) rfl w.heap.size _ (.slice (some a) bl cap) wr.heap.size ps (bs.take bl) rfl rfl (HP.out.block fun q hq => heap_alloc_old _ _ hq) (by rw [cell_of_row _ _ 0 _ _ _ (heap_alloc_new _ _)]; rfl) HT.out (by have := HK.out; omega) (by have := HW.out.size; simp; omega) ?_; intro v' w' hp' hb'; have HP2 : Hid (PartsIn w0 w' w.heap.size v' (ps ++ [bs.take bl]) ∧ Below w.heap.size w w') := ⟨hp', HW.out.trans (((Below.refl w.heap.size wr).alloc HW.out.size _).trans hb')⟩; clear hp' hb'))
        all_goals
          go_roundw
          case rel => exact ⟨bs.drop bl, ps ++ [bs.take bl], _, _, by rw [List.length_drop, ← HBL.out, Nat.sub_self], by rw [List.length_append, ← HK.out.1]; go_num, by rw [List.length_drop, ← HBL.out]; exact HD.out, HP2.out.1, by show _ = _; rw [List.flatten_append, List.append_assoc]; simp; exact HE.out, by rw [List.length_append, ← HK.out.1]; simp; omega, by intro _; rw [List.length_drop, ← HBL.out]; omega, HP2.out.2⟩
          case measure => exact cutM_lt _ _ _ _ _ _ _ (by omega) (by omega)
end Go.Proofs.YtmglopfjjbnfiaaDoor
