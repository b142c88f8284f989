/-
  SumSHAs' helpers by contract: few, copies, sameLists.
-/
import Derived.Test.YtmglopfjjbnfiaaDoorLists
namespace Go.Proofs.YtmglopfjjbnfiaaDoor
open Go.RowKit

set_option maxHeartbeats 2000000 in
set_option maxRecDepth 100000 in
theorem few_any (v : Value) (ps : List (List Nat)) (w : World) (hv : HasL w v ps) (hn : ps.length ≤ 9223372036854775807) (hp : ∀ p ∈ ps, p.length ≤ 9223372036854775807) :
    Calls Tryd.prog 9 #[v] w fun e w' => ∃ q, e = .returned (.bool q) ∧ (q = true → ps.length + ps.flatten.length ≤ 32768) ∧ Below w.heap.size w w' := by
  have C23 : Hid (Calls Tryd.prog 23 #[.int .i64 32768] w fun e w' => e = .returned (.pointer (some ⟨w.heap.size, 0, none⟩)) ∧ (CountAt w' w.heap.size 32768 ∧ Below w.heap.size w w')) := many_any w
  have C38 : Hid (∀ wz, CountAt wz w.heap.size 32768 → Below w.heap.size w wz → Calls Tryd.prog 38 #[.pointer (some ⟨w.heap.size, 0, none⟩), v] wz fun e w' => ∃ u, e = .returned u ∧ ∃ z, (CountAt w' w.heap.size z ∧ (0 ≤ z → wt ps ≤ 32768) ∧ Below w.heap.size w w')) := fun wz h1 h2 => (chunks_any w.heap.size v ps w wz h1 hv h2 (Nat.le_refl _) hn hp).mono fun e w' ⟨⟨u, q1⟩, z, q2⟩ => ⟨u, q1, z, q2⟩
  clear hv hn hp
  go_enter Tryd.func9, Tryd.ntmps9
  go_upto_region 3 with (first
    | (go_at_call 23; refine C23.out.mono ?_; rintro e w1 ⟨rfl, h1⟩; have H1 : Hid (CountAt w1 w.heap.size 32768 ∧ Below w.heap.size w w1) := h1; clear h1)
    | (go_at_call 38; refine (C38.out _ H1.out.1 H1.out.2).mono ?_; rintro e w2 ⟨u, rfl, z, h2⟩; have H2 : Hid (CountAt w2 w.heap.size z ∧ (0 ≤ z → wt ps ≤ 32768) ∧ Below w.heap.size w w2) := h2; clear h2))
  have K24 : Hid (Calls Tryd.prog 24 #[.pointer (some ⟨w.heap.size, 0, none⟩)] w2 fun e w' => e = .returned (.bool (decide (0 ≤ z))) ∧ w2 = w') := ok_any w.heap.size z w2 H2.out.1
  obtain ⟨q, hq⟩ : ∃ q, q = decide (0 ≤ z) := ⟨_, rfl⟩
  have HQ : Hid (q = true → ps.length + ps.flatten.length ≤ 32768) := fun h => by
    rw [hq] at h
    have := H2.out.2.1 (of_decide_eq_true h)
    rw [wt_flat] at this
    exact this
  rw [← hq] at K24
  clear hq C23 C38
  go_wp2_with (go_at_call 24; refine K24.out.mono ?_; rintro e w' ⟨rfl, rfl⟩)
  go_ret
  exact ⟨q, rfl, HQ.out, H2.out.2.2⟩

set_option maxHeartbeats 2000000 in
set_option maxRecDepth 100000 in
theorem sameLists_any (va vb' : Value) (ps : List (List Nat)) (w : World) (ha : HasL w va ps) (hb : HasL w vb' ps) (hn : ps.length ≤ 100000) (hp : ∀ p ∈ ps, p.length ≤ 100000) :
    Calls Tryd.prog 14 #[va, vb'] w fun e w' => e = .returned (.bool true) ∧ ∃ n, w' = w.drewN n := by
  obtain ⟨ao, ca, rfl⟩ := ha.form
  obtain ⟨bo, cb, rfl⟩ := hb.form
  have HA : Hid (HasL w (.slice ao ps.length ca) ps ∧ HasL w (.slice bo ps.length cb) ps ∧ ∀ p ∈ ps, p.length ≤ 100000) := ⟨ha, hb, hp⟩
  obtain ⟨n, hnn⟩ : ∃ n, n = ps.length := ⟨_, rfl⟩
  have HN : Hid (n = ps.length) := hnn
  rw [← hnn] at hn ⊢
  have hne : ((n : Int) != (n : Int)) = false := by simp
  clear ha hb hp hnn
  go_enter Tryd.func14, Tryd.ntmps14
  go_wp2_with fail
  go_loopw [5] (fun i wr => ∃ (k : Nat), k ≤ n ∧ i = .int .i64 k ∧ Hid (∃ m, wr = w.drewN m)) (fun i _ => n - (intOf i).toNat)
  case atStart => exact ⟨0, by omega, rfl, ⟨0, rfl⟩⟩
  case round =>
    obtain ⟨k, hk, rfl, HW⟩ := hrel
    by_cases hlt : k < n
    · have hkI : (k : Int) < (n : Int) := by omega
      have hkp : k < ps.length := by have := HN.out; omega
      have hbw : Below w.heap.size w wr := by obtain ⟨m, hm⟩ := HW.out; rw [hm]; exact ⟨rfl, rfl, rfl, Nat.le_refl _, fun _ _ => rfl⟩
      obtain ⟨a, uo, uc, rfl, hcu, HU⟩ := HA.out.1.at hbw hkp
      obtain ⟨b, to, tc, rfl, hct, HT⟩ := HA.out.2.1.at hbw hkp
      obtain ⟨m, hm⟩ : ∃ m, m = (ps.getD k []).length := ⟨_, rfl⟩
      rw [← hm] at hcu hct HU HT
      have hml : m ≤ 100000 := by rw [hm]; exact HA.out.2.2 _ (by simp [List.getD, List.getElem?_eq_getElem hkp])
      have K22 : Hid (∀ j, Calls Tryd.prog 22 #[.slice uo m uc, .slice to m tc] (wr.drewN j) fun e w' => e = .returned (.bool true) ∧ ∃ i, w' = (wr.drewN j).drewN i) := fun j => by
        refine (same_any _ _ (ps.getD k []) (ps.getD k []) (wr.drewN j) (HU.out.heap rfl) (HT.out.heap rfl) (by omega) (by omega)).mono fun e w' ⟨q1, q2⟩ => ⟨by rw [q1, decide_eq_true rfl], q2⟩
      clear hm hkp hbw HU HT
      go_upto_region 6 with fail
      go_quiet ((go_at_call 22; exact Calls.quiet_of (K22.out _)))
      go_wp2_with fail
      go_roundw
      case rel => exact ⟨k + 1, by omega, by go_num, by obtain ⟨i, hi⟩ := HW.out; exact ⟨i + nq, by rw [hi, World.drewN_drewN]⟩⟩
      case measure => simp [intOf]; omega
    · have hkI : ¬ (k : Int) < (n : Int) := by omega
      go_wp2
      go_ret
      exact ⟨rfl, HW.out⟩

/-- Copies in a list of one's own. -/
structure CopIn (wr : World) (lo : Nat) (v : Value) (ps : List (List Nat)) (us : List Value) : Prop where
  len : us.length = ps.length
  row : wr.ownsRow lo 43 1 v us.length us
  each : ∀ i, i < ps.length → Owns wr lo (us.getD i (.slice none 0 0)) (ps.getD i [])
  sep : ∀ i k, i < ps.length → (us.getD i (.slice none 0 0)).ownBlock = some k → v.ownBlock ≠ some k

theorem CopIn.hasL {wr : World} {lo : Nat} {v : Value} {ps : List (List Nat)} {us : List Value} (h : CopIn wr lo v ps us) : HasL wr v ps := by
  have h0 := h.row
  obtain ⟨g1, h' | ⟨g, cap, cur, hv, hg, hh, hn, hr⟩⟩ := h.row
  · obtain ⟨rfl, hl⟩ := h'
    exact .inl ⟨rfl, List.length_eq_zero_iff.1 (by rw [← h.len]; exact hl)⟩
  · subst hv
    refine .inr ⟨⟨g, 0, none⟩, cap, by rw [← h.len], by rw [← h.len]; exact hn, fun i hi => ⟨us.getD i (.slice none 0 0), ?_, (h.each i hi).has⟩⟩
    exact World.ownsRow.cells h0 (g := g) rfl i _ (by simp [List.getD, List.getElem?_eq_getElem (show i < us.length by have := h.len; omega)])

theorem CopIn.below {wr wz : World} {lo : Nat} {v : Value} {ps : List (List Nat)} {us : List Value} (h : CopIn wr lo v ps us) (hb : Below wr.heap.size wr wz) : CopIn wz lo v ps us := by
  have hl := World.ownsRow.lt h.row
  refine ⟨h.len, ?_, fun i hi => (h.each i hi).block fun k hk => hb.block k ((h.each i hi).lt k hk).2, h.sep⟩
  obtain ⟨g1, h' | ⟨g, cap, cur, hv, hg, hh, hr⟩⟩ := h.row
  · exact ⟨g1, .inl h'⟩
  · subst hv
    exact ⟨g1, .inr ⟨g, cap, cur, rfl, hg, (hb.block g (hl g rfl).2).trans hh, hr⟩⟩

/-- 'l = append(l, u)', u a copy of its own. -/
theorem wpList_append_cop {w : World} {ops : Array Oper} {rest : List Oper} {o : Oper} {a : Act} {Q : Exit → Act → World → Prop} (hgd : o.guard = none) (s x : Operand)
    (ho : o.op = .call { callee := .builtin .append, args := #[s, x], argTypes := #[22, 22] })
    (lo : Nat) (v u : Value) (g : Nat) (ps : List (List Nat)) (us : List Value) (p : List Nat) (hs : a.eval s = v) (hx : a.eval x = .slice (some ⟨g, 0, none⟩) 1 1) (hown : CopIn w lo v ps us) (hc : w.cell? ⟨g, 0, none⟩ = some u) (hu : Owns w lo u p) (hsep : ∀ k, u.ownBlock = some k → v.ownBlock ≠ some k)
    (hlen : ps.length + 1 ≤ 200000) (hbase : lo ≤ w.heap.size)
    (h : ∀ v' w', CopIn w' lo v' (ps ++ [p]) (us ++ [u]) → Below lo w w' → wpList Tryd.prog ops Q rest (a.put o.dst v') w') : wpList Tryd.prog ops Q (o :: rest) a w := by
  obtain ⟨i0, hi, hz0, hz1, hz2⟩ := info_parts Tryd.infoR43
  have hl := hown.len
  refine wpList_append_own_at w hgd s x 22 ho lo 43 i0 (.slice none 0 0) 1 24 Tryd.underlying22 hi hz0 hz1 hz2 rfl (by decide) v us.length us hs hown.row ⟨g, 0, none⟩ 1 1 [u] hx (by simp) ?_ ?_ ?_ ?_ hbase ?_
  · intro j y hj
    have hj0 : j = 0 := by
      have := (List.getElem?_eq_some_iff.1 hj).1
      simpa using this
    subst hj0
    rw [show (⟨g, 0, none⟩ : Addr).add 0 = ⟨g, 0, none⟩ from rfl, hc]; exact hj
  · intro y hy; rw [List.mem_singleton.1 hy]; obtain ⟨_, _, e, _⟩ := hu.has.form; rw [e]; rfl
  · unfold maxLen; omega
  · omega
  · intro v' w' h4 h5 _ h6
    have hkeep : ∀ (y : Value) (l : List Nat), Owns w lo y l → (∀ k, y.ownBlock = some k → v.ownBlock ≠ some k) → Owns w' lo y l ∧ ∀ k, y.ownBlock = some k → v'.ownBlock ≠ some k := fun y l hy hyk => by
      refine ⟨hy.block fun k hk => h5.block k (hy.lt k hk).2 (fun e => hyk k hk e.symm), fun k hk e => ?_⟩
      rcases h6 with q | q
      · rw [q] at e; exact hyk k hk e
      · rw [q] at e; have := (hy.lt k hk).2; obtain rfl := Option.some.inj e; omega
    refine h v' w' ⟨by simp [hl], by simpa using h4, fun i hi => ?_, fun i k hi => ?_⟩ ((Below.refl lo w).grown h5 hbase fun k hk => (World.ownsRow.lt hown.row k hk).1)
    · by_cases hlt : i < ps.length
      · have e1 : (us ++ [u]).getD i (.slice none 0 0) = us.getD i (.slice none 0 0) := by simp [List.getD, List.getElem?_append_left (show i < us.length by omega)]
        have e2 : (ps ++ [p]).getD i [] = ps.getD i [] := by simp [List.getD, List.getElem?_append_left hlt]
        rw [e1, e2]; exact (hkeep _ _ (hown.each i hlt) fun k hk => hown.sep i k hlt hk).1
      · obtain rfl : i = ps.length := by simp at hi; omega
        have e1 : (us ++ [u]).getD ps.length (.slice none 0 0) = u := by rw [← hl]; simp [List.getD]
        have e2 : (ps ++ [p]).getD ps.length [] = p := by simp [List.getD]
        rw [e1, e2]; exact (hkeep _ _ hu hsep).1
    · by_cases hlt : i < ps.length
      · have e1 : (us ++ [u]).getD i (.slice none 0 0) = us.getD i (.slice none 0 0) := by simp [List.getD, List.getElem?_append_left (show i < us.length by omega)]
        rw [e1]; exact fun hk => (hkeep _ _ (hown.each i hlt) fun k hk => hown.sep i k hlt hk).2 k hk
      · obtain rfl : i = ps.length := by simp at hi; omega
        have e1 : (us ++ [u]).getD ps.length (.slice none 0 0) = u := by rw [← hl]; simp [List.getD]
        rw [e1]; exact fun hk => (hkeep _ _ hu hsep).2 k hk

set_option maxHeartbeats 2000000 in
set_option maxRecDepth 100000 in
theorem copies_any (v : Value) (ps : List (List Nat)) (w : World) (hv : HasL w v ps) (hn : ps.length ≤ 100000) (hp : ∀ p ∈ ps, p.length ≤ 100000) :
    Calls Tryd.prog 15 #[v] w fun e w' => ∃ u, e = .returned u ∧ HasL w' u ps ∧ Below w.heap.size w w' := by
  obtain ⟨ao, cap, rfl⟩ := hv.form
  have HV : Hid (HasL w (.slice ao ps.length cap) ps ∧ ∀ p ∈ ps, p.length ≤ 100000) := ⟨hv, hp⟩
  obtain ⟨n, hnn⟩ : ∃ n, n = ps.length := ⟨_, rfl⟩
  have HN : Hid (n = ps.length) := hnn
  rw [← hnn] at hn ⊢
  clear hv hp hnn
  go_enter Tryd.func15, Tryd.ntmps15
  go_wp2_with fail
  go_loopw [3, 4] (fun ov i wr => ∃ (k : Nat) (us : List Value), k ≤ n ∧ i = .int .i64 k ∧ Hid (CopIn wr w.heap.size ov (ps.take k) us) ∧ Hid (Below w.heap.size w wr)) (fun _ i _ => n - (intOf i).toNat)
  case atStart => exact ⟨0, [], by omega, rfl, ⟨rfl, World.ownsRow_nil _ _ _ _, fun i hi => by simp at hi, fun i k hi => by simp at hi⟩, Below.refl _ _⟩
  case round =>
    obtain ⟨k, us, hk, rfl, HO, HW⟩ := hrel
    by_cases hlt : k < n
    · have hkI : (k : Int) < (n : Int) := by omega
      have hkp : k < ps.length := by have := HN.out; omega
      obtain ⟨a, uo, uc, rfl, hcu, HU⟩ := HV.out.1.at HW.out hkp
      obtain ⟨m, hm⟩ : ∃ m, m = (ps.getD k []).length := ⟨_, rfl⟩
      rw [← hm] at hcu HU
      have HM : Hid (m = (ps.getD k []).length ∧ m ≤ 100000 ∧ ps.take k ++ [ps.getD k []] = ps.take (k + 1) ∧ (ps.take k).length = k) := ⟨hm, by rw [hm]; exact HV.out.2 _ (by simp [List.getD, List.getElem?_eq_getElem hkp]), by rw [List.take_succ_eq_append_getElem hkp]; simp [List.getD, List.getElem?_eq_getElem hkp], by simp; omega⟩
      clear hm hkp
      go_wp2_with (first
        | (at_builtin; refine wpList_append_has rfl (.const (.slice none 0 0)) (.tmp 15) rfl wr.heap.size _ _ [] (ps.getD k []) rfl rfl (Owns.nil _ _) HU.out (by rw [← HM.out.1]; have := HM.out.2.1; simp; omega) (Nat.le_refl _) ?_; intro v2 w2 ho2 hb2; rw [List.nil_append] at ho2; obtain ⟨yo, yc, e2, _⟩ := ho2.has.form; rw [← HM.out.1] at e2; subst e2; have H2 : Hid (Owns w2 wr.heap.size (.slice yo m yc) (ps.getD k []) ∧ Below wr.heap.size wr w2) := ⟨ho2, hb2⟩; clear ho2 hb2)
        | (at_builtin; refine wpList_append_cop rfl (.tmp 11) (.tmp 17) rfl w.heap.size _ (.slice yo m yc) w2.heap.size (ps.take k) us (ps.getD k []) rfl rfl (CopIn.below HO.out (Below.trans H2.out.2 ((Below.refl wr.heap.size w2).alloc H2.out.2.size _)) ) (by rw [cell_of_row _ _ 0 _ _ _ (heap_alloc_new _ _)]; rfl) ((H2.out.1.mono HW.out.size).block fun q hq => heap_alloc_old _ _ (H2.out.1.lt q hq).2) (fun q hq e => by have h1 := (H2.out.1.lt q hq).1; have h2 := (World.ownsRow.lt HO.out.row q e).2; omega) (by have := HM.out.2.2.2; omega) (by have := HW.out.size; have := H2.out.2.size; simp; omega) ?_; intro v3 w3 hc3 hb3; have H3 : Hid (CopIn w3 w.heap.size v3 (ps.take (k + 1)) (us ++ [.slice yo m yc]) ∧ Below w.heap.size w w3) := ⟨by rw [← HM.out.2.2.1]; exact hc3, HW.out.trans ((H2.out.2.mono HW.out.size).trans (((Below.refl w.heap.size w2).alloc (Nat.le_trans HW.out.size H2.out.2.size) _).trans hb3))⟩; clear hc3 hb3))
      obtain ⟨xo, xc, e3⟩ := H3.out.1.hasL.form
      subst e3
      go_roundw
      case rel => exact ⟨k + 1, us ++ [Value.slice yo m yc], by omega, by go_num, H3.out.1, H3.out.2⟩
      case measure => simp [intOf]; omega
    · have hkI : ¬ (k : Int) < (n : Int) := by omega
      obtain rfl : k = n := by omega
      have ho := HO.out.hasL
      rw [HN.out, List.take_length] at ho
      obtain ⟨xo, xc, e3⟩ := ho.form
      subst e3
      have R : Hid (HasL wr (.slice xo ps.length xc) ps ∧ Below w.heap.size w wr) := ⟨ho, HW.out⟩
      clear ho HO HW
      go_wp2
      go_ret
      exact ⟨_, rfl, R.out⟩
end Go.Proofs.YtmglopfjjbnfiaaDoor
