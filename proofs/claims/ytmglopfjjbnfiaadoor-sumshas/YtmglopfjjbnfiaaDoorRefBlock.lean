/-
  The reference's block: the eight words behind a block.
-/
import Derived.Test.YtmglopfjjbnfiaaDoorRefWords
namespace Go.Proofs.YtmglopfjjbnfiaaDoor
open Go.RowKit

/-- 'append([]uint64(nil), l...)'. -/
theorem wpList_copy_q {w : World} {ops : Array Oper} {rest : List Oper} {o : Oper} {a : Act} {Q : Exit → Act → World → Prop} (hgd : o.guard = none) (x : Operand)
    (ho : o.op = .call { callee := .builtin .append, args := #[.const (.slice none 0 0), x], argTypes := #[81, 81] })
    (lo : Nat) (v : Value) (l : List Nat) (hx : a.eval x = v) (hh : HasQ w v l) (hpos : 0 < l.length)
    (hlen : l.length ≤ 65536) (hbase : lo ≤ w.heap.size)
    (h : ∀ v' w', OwnsQ w' lo v' l → Below lo w w' → wpList Tryd.prog ops Q rest (a.put o.dst v') w') : wpList Tryd.prog ops Q (o :: rest) a w := by
  obtain ⟨i0, hi, hz0, hz1, hz2⟩ := info_parts Tryd.info84
  obtain ⟨g, cap, rfl, hc⟩ := hh.at hpos
  refine wpList_append_own w hgd _ x 81 ho lo 84 i0 (.int .u64 0) 1 8 Tryd.underlying81 hi hz0 hz1 hz2 rfl (by decide) (.slice none 0 0) 0 [] rfl (World.ownsRow_nil _ _ _ _) ⟨g, 0, none⟩ l.length cap (l.map vq) hx (by simp) ?_ ?_ ?_ ?_ hbase ?_
  · intro j u hj
    have hjl : j < l.length := by
      have := (List.getElem?_eq_some_iff.1 hj).1
      simpa using this
    rw [show (⟨g, 0, none⟩ : Addr).add j = ⟨g, j, none⟩ by unfold Addr.add; split <;> simp_all, hc.out j hjl]
    simpa [List.getD, List.getElem?_eq_getElem hjl] using hj
  · intro u hu; obtain ⟨_, _, rfl⟩ := List.mem_map.1 hu; rfl
  · unfold maxLen; omega
  · omega
  · intro v' w' h4 h5 _
    refine h v' w' ?_ ((Below.refl lo w).grown h5 hbase fun k hk => by simp [Value.ownBlock] at hk)
    unfold OwnsQ
    simpa using h4

/-- What a round's and's and xor's come to, in 64 bits. -/
theorem ch_bits64 {e f g : Nat} (he : e < 4294967296) (hf : f < 4294967296) (hg : g < 4294967296) :
    ∃ ef eg ch : Nat, bits .and .u64 (e : Int) (f : Int) = (ef : Int) ∧ bits .and .u64 (4294967295 - (e : Int)) (g : Int) = (eg : Int) ∧ bits .xor .u64 (ef : Int) (eg : Int) = (ch : Int) ∧ ch < 4294967296 ∧ Hid (ch = (e &&& f) ^^^ ((4294967295 - e) &&& g)) := by
  have h1 : e &&& f < 4294967296 := Nat.and_lt_two_pow (n := 32) _ hf
  have h2 : (4294967295 - e) &&& g < 4294967296 := Nat.and_lt_two_pow (n := 32) _ hg
  refine ⟨e &&& f, (4294967295 - e) &&& g, _, u64_and_nat _ _ (by omega) (by omega), ?_, u64_xor_nat _ _ (by omega) (by omega), Nat.xor_lt_two_pow (n := 32) h1 h2, rfl⟩
  rw [show (4294967295 - (e : Int)) = ((4294967295 - e : Nat) : Int) by omega, u64_and_nat _ _ (by omega) (by omega)]
theorem maj_bits64 {a b c : Nat} (ha : a < 4294967296) (hb : b < 4294967296) (hc : c < 4294967296) :
    ∃ ab ac bc m1 mj : Nat, bits .and .u64 (a : Int) (b : Int) = (ab : Int) ∧ bits .and .u64 (a : Int) (c : Int) = (ac : Int) ∧ bits .and .u64 (b : Int) (c : Int) = (bc : Int) ∧ bits .xor .u64 (ab : Int) (ac : Int) = (m1 : Int) ∧ bits .xor .u64 (m1 : Int) (bc : Int) = (mj : Int) ∧ mj < 4294967296 ∧ Hid (mj = (a &&& b) ^^^ (a &&& c) ^^^ (b &&& c)) := by
  have h1 : a &&& b < 4294967296 := Nat.and_lt_two_pow (n := 32) _ hb
  have h2 : a &&& c < 4294967296 := Nat.and_lt_two_pow (n := 32) _ hc
  have h3 : b &&& c < 4294967296 := Nat.and_lt_two_pow (n := 32) _ hc
  have h4 : (a &&& b) ^^^ (a &&& c) < 4294967296 := Nat.xor_lt_two_pow (n := 32) h1 h2
  exact ⟨_, _, _, _, _, u64_and_nat _ _ (by omega) (by omega), u64_and_nat _ _ (by omega) (by omega), u64_and_nat _ _ (by omega) (by omega), u64_xor_nat _ _ (by omega) (by omega), u64_xor_nat _ _ (by omega) (by omega), Nat.xor_lt_two_pow (n := 32) h4 h3, rfl⟩
theorem tri_bits64 {x i j k : Nat} (hx : x < 4294967296) :
    ∃ r1 r2 r3 q s : Nat, Hid (r1 = Sha.rot x i) ∧ Hid (r2 = Sha.rot x j) ∧ Hid (r3 = Sha.rot x k) ∧ bits .xor .u64 (r1 : Int) (r2 : Int) = (q : Int) ∧ bits .xor .u64 (q : Int) (r3 : Int) = (s : Int) ∧ s < 4294967296 ∧ Hid (s = Sha.tri x i j k) := by
  have h1 : Sha.rot x i < 4294967296 := rot_lt hx
  have h2 : Sha.rot x j < 4294967296 := rot_lt hx
  have h3 : Sha.rot x k < 4294967296 := rot_lt hx
  have h4 := Nat.xor_lt_two_pow (n := 32) h1 h2
  exact ⟨_, _, _, _, _, rfl, rfl, rfl, u64_xor_nat _ _ (by omega) (by omega), u64_xor_nat _ _ (by omega) (by omega), Nat.xor_lt_two_pow (n := 32) h4 h3, rfl⟩

theorem rnd_ok {k w : Nat} {v : Sha.V} (h : vok v) : vok (Sha.rnd k w v) := by
  obtain ⟨h1, h2, h3, h4, h5, h6, h7, h8⟩ := h
  exact ⟨Nat.mod_lt _ (by decide), h1, h2, h3, Nat.mod_lt _ (by decide), h5, h6, h7⟩
theorem runF_ok (f : Nat → Sha.V → Sha.V) (hf : ∀ n v, vok v → vok (f n v)) : ∀ n v, vok v → vok (Sha.runF f n v)
  | 0, _, h => h
  | n + 1, v, h => hf n _ (runF_ok f hf n v h)

theorem vlist_has {w : World} {g cap : Nat} {U : Sha.V} (h : HasQ w (.slice (some ⟨g, 0, none⟩) 8 cap) (vlist U)) : ∀ i, i < 8 → w.cell? ⟨g, i, none⟩ = some (vq ((vlist U).getD i 0)) := by
  rcases h with ⟨h, _⟩ | ⟨g', c', e, _, hc⟩
  · cases h
  · simp only [Value.slice.injEq, Option.some.injEq, Addr.mk.injEq, and_true] at e
    obtain ⟨rfl, _, _⟩ := e
    exact hc

theorem same_turn {f : FuncId} {args : Array Value} {w : World} {v : Value} (h : Calls Tryd.prog f args w fun e w' => e = .returned v ∧ w = w') : Calls Tryd.prog f args w fun e w' => e = .returned v ∧ w' = w := h.mono fun _ _ ⟨h1, h2⟩ => ⟨h1, h2.symm⟩

theorem hasQ_new (W : World) (l : List Nat) (T : TypeId) : HasQ ((W.alloc (.cells (l.map vq).toArray T)).drew) (.slice (some ⟨W.heap.size, 0, none⟩) l.length l.length) l := by
  refine .inr ⟨_, _, rfl, Nat.le_refl _, fun i hi => ?_⟩
  have h : ((W.alloc (.cells (l.map vq).toArray T)).drew).heap[W.heap.size]? = some (.cells (l.map vq).toArray T (0, 0)) := heap_alloc_new W _
  rw [cell_of_row _ _ i _ _ _ h]
  simp [List.getD, hi]
theorem ownsQ_mono {w : World} {lo lo' : Nat} {v : Value} {l : List Nat} (h : OwnsQ w lo v l) (hl : lo' ≤ lo) : OwnsQ w lo' v l := by
  obtain ⟨h1, h | ⟨g, cap, cur, hv, hg, hr⟩⟩ := h
  · exact ⟨h1, .inl h⟩
  · exact ⟨h1, .inr ⟨g, cap, cur, hv, Nat.le_trans hl hg, hr⟩⟩
theorem vlist_lt {V : Sha.V} (h : vok V) (i : Nat) : (vlist V).getD i 0 < 4294967296 := by
  obtain ⟨h1, h2, h3, h4, h5, h6, h7, h8⟩ := h
  match i with
  | 0 => exact h1
  | 1 => exact h2
  | 2 => exact h3
  | 3 => exact h4
  | 4 => exact h5
  | 5 => exact h6
  | 6 => exact h7
  | 7 => exact h8
  | n + 8 => simp [vlist]
theorem plus_take (V R : Sha.V) (k : Nat) (hk : k < 8) : (vlist (Sha.plus V R)).take k ++ [((vlist V).getD k 0 + (vlist R).getD k 0) % 4294967296] = (vlist (Sha.plus V R)).take (k + 1) := by
  match k, hk with
  | 0, _ | 1, _ | 2, _ | 3, _ | 4, _ | 5, _ | 6, _ | 7, _ => rfl

set_option maxHeartbeats 4000000 in
set_option maxRecDepth 100000 in
theorem block_any (vh vk v : Value) (V : Sha.V) (b : List Nat) (w : World) (hh : HasQ w vh (vlist V)) (hV : vok V) (hk : HasQ w vk Sha.ks) (hv : Has w v b) (hB : Bytes b) (hl : b.length = 64) :
    Calls Tryd.prog 43 #[vh, vk, v] w fun e w' => ∃ u, e = .returned u ∧ OwnsQ w' w.heap.size u (vlist (Sha.mix V b)) ∧ Below w.heap.size w w' := by
  obtain ⟨gh, ch, rfl, _⟩ := hh.at (by simp [vlist])
  rw [show (vlist V).length = 8 from rfl] at hh ⊢
  obtain ⟨gk, ck, rfl, _⟩ := hk.at (by decide)
  rw [show Sha.ks.length = 64 from rfl] at hk ⊢
  obtain ⟨ws, hws⟩ : ∃ ws, ws = Sha.sched b := ⟨_, rfl⟩
  have HWS : Hid (ws = Sha.sched b ∧ ws.length = 64 ∧ ∀ i, ws.getD i 0 < 4294967296) := ⟨hws, by rw [hws, Sha.sched, Sha.growF_len, Sha.firstsF_len], fun i => by
    by_cases hj : i < ws.length
    · exact (by rw [hws]; exact sched_lt hB : ∀ x ∈ ws, x < 4294967296) _ (by simp [List.getD, List.getElem?_eq_getElem hj])
    · simp [List.getD, List.getElem?_eq_none (Nat.le_of_not_lt hj)]⟩
  have CW : Hid (Calls Tryd.prog 64 #[v] w fun e w' => ∃ gw cw, e = .returned (.slice (some ⟨gw, 0, none⟩) 64 cw) ∧ (HasQ w' (.slice (some ⟨gw, 0, none⟩) 64 cw) ws ∧ Below w.heap.size w w')) := by
    refine (words_any v b w hv hB hl).mono fun e w' ⟨u, h1, h2, h3⟩ => ?_
    rw [← hws] at h2
    obtain ⟨g, c, e2, _⟩ := h2.has.at (by have := HWS.out.2.1; omega)
    rw [HWS.out.2.1] at e2
    exact ⟨g, c, by rw [h1, e2], by rw [← e2]; exact h2.has, h3⟩
  have HH : Hid (HasQ w (.slice (some ⟨gh, 0, none⟩) 8 ch) (vlist V) ∧ HasQ w (.slice (some ⟨gk, 0, none⟩) 64 ck) Sha.ks ∧ vok V) := ⟨hh, hk, hV⟩
  clear hh hk hv hB hl hws hV
  go_enter Tryd.func43, Tryd.ntmps43
  go_wp2_with (first
    | (go_at_call 64; refine CW.out.mono ?_; rintro e w1 ⟨gw, cw, rfl, h1⟩; have H1 : Hid (HasQ w1 (.slice (some ⟨gw, 0, none⟩) 64 cw) ws ∧ Below w.heap.size w w1) := h1; clear h1)
    | (at_builtin; refine wpList_copy_q rfl (.tmp 20) rfl w1.heap.size _ (vlist V) rfl (HH.out.1.below H1.out.2) (by simp [vlist]) (by simp [vlist]) (Nat.le_refl _) ?_; intro v2 w2 ho2 hb2; obtain ⟨g2, c2, e2, _⟩ := ho2.has.at (by simp [vlist]); rw [show (vlist V).length = 8 from rfl] at e2; subst e2; have H2 : Hid (HasQ w2 (.slice (some ⟨g2, 0, none⟩) 8 c2) (vlist V) ∧ HasQ w2 (.slice (some ⟨gw, 0, none⟩) 64 cw) ws ∧ Below w.heap.size w w2) := ⟨ho2.has, H1.out.1.below hb2, Below.up H1.out.2 hb2⟩; clear ho2 hb2))
  go_loopw [8, 9] (fun vv i wr => ∃ (k gv cv : Nat), k ≤ 64 ∧ i = .int .i64 k ∧ vv = .slice (some ⟨gv, 0, none⟩) 8 cv ∧ Hid (HasQ wr (.slice (some ⟨gv, 0, none⟩) 8 cv) (vlist (Sha.run ws k V))) ∧ Hid (Below w2.heap.size w2 wr)) (fun _ i _ => 64 - (intOf i).toNat)
  case atStart => exact ⟨0, g2, c2, by omega, rfl, rfl, H2.out.1, Below.refl _ _⟩
  case round =>
    obtain ⟨k, gv, cv, hk, rfl, rfl, HV, HW⟩ := hrel
    by_cases hlt : k < 64
    · have hkI : (k : Int) < 64 := by omega
      obtain ⟨U, hU⟩ : ∃ U, U = Sha.run ws k V := ⟨_, rfl⟩
      have HU : Hid (Sha.run ws (k + 1) V = Sha.rnd (Sha.ks.getD k 0) (ws.getD k 0) U) := by show _ = _; rw [hU]; rfl
      have hok : vok U := by rw [hU]; exact runF_ok _ (fun n v h => rnd_ok h) k V HH.out.2.2
      rw [← hU] at HV
      clear hU
      obtain ⟨a, b', c, d, e, f, g, h⟩ := U
      obtain ⟨oa, ob, oc, od, oe, of, og, oh⟩ := hok
      simp only at oa ob oc od oe of og oh
      obtain ⟨kt, hkt⟩ : ∃ x, x = Sha.ks.getD k 0 := ⟨_, rfl⟩
      obtain ⟨wt, hwt⟩ : ∃ x, x = ws.getD k 0 := ⟨_, rfl⟩
      have okt : kt < 4294967296 := by rw [hkt]; exact ks_lt k
      have owt : wt < 4294967296 := by rw [hwt]; exact HWS.out.2.2 k
      have VC := vlist_has HV.out
      have p0 : wr.cell? ⟨gv, 0, none⟩ = some (.int .u64 (a : Int)) := VC 0 (by omega)
      have p1 : wr.cell? ⟨gv, 1, none⟩ = some (.int .u64 (b' : Int)) := VC 1 (by omega)
      have p2 : wr.cell? ⟨gv, 2, none⟩ = some (.int .u64 (c : Int)) := VC 2 (by omega)
      have p3 : wr.cell? ⟨gv, 3, none⟩ = some (.int .u64 (d : Int)) := VC 3 (by omega)
      have p4 : wr.cell? ⟨gv, 4, none⟩ = some (.int .u64 (e : Int)) := VC 4 (by omega)
      have p5 : wr.cell? ⟨gv, 5, none⟩ = some (.int .u64 (f : Int)) := VC 5 (by omega)
      have p6 : wr.cell? ⟨gv, 6, none⟩ = some (.int .u64 (g : Int)) := VC 6 (by omega)
      have p7 : wr.cell? ⟨gv, 7, none⟩ = some (.int .u64 (h : Int)) := VC 7 (by omega)
      have pk : wr.cell? ⟨gk, k, none⟩ = some (.int .u64 (kt : Int)) := by
        obtain ⟨g', c', e', hc⟩ := (HH.out.2.1.below (Below.up H2.out.2.2 HW.out)).at (by decide)
        simp only [Value.slice.injEq, Option.some.injEq, Addr.mk.injEq, and_true] at e'
        obtain ⟨rfl, _⟩ := e'
        rw [hc.out k (by show k < 64; omega), hkt]; rfl
      have pw : wr.cell? ⟨gw, k, none⟩ = some (.int .u64 (wt : Int)) := by
        obtain ⟨g', c', e', hc⟩ := (H2.out.2.1.below HW.out).at (by have := HWS.out.2.1; omega)
        simp only [Value.slice.injEq, Option.some.injEq, Addr.mk.injEq, and_true] at e'
        obtain ⟨rfl, _⟩ := e'
        rw [hc.out k (by have := HWS.out.2.1; omega), hwt]; rfl
      obtain ⟨r6, r11, r25, qe, se, R6, R11, R25, eq1, eq2, lse, SE⟩ := tri_bits64 (x := e) (i := 6) (j := 11) (k := 25) oe
      obtain ⟨r2, r13, r22, qa, sa, R2, R13, R22, eq3, eq4, lsa, SA⟩ := tri_bits64 (x := a) (i := 2) (j := 13) (k := 22) oa
      obtain ⟨ef, eg, chh, eq5, eq6, eq7, lch, CH⟩ := ch_bits64 oe of og
      obtain ⟨ab, ac, bc, m1, mj, eq8, eq9, eq10, eq11, eq12, lmj, MJ⟩ := maj_bits64 oa ob oc
      obtain ⟨x, hx, HX, lx⟩ : ∃ x : Nat, Int.tmod ((h : Int) + se + chh + kt + wt) 4294967296 = (x : Int) ∧ Hid (x = Sha.xOf kt wt ⟨a, b', c, d, e, f, g, h⟩) ∧ x < 4294967296 := by
        refine ⟨(h + se + chh + kt + wt) % 4294967296, by rw [Int.tmod_eq_emod_of_nonneg (by omega)]; omega, ?_, by omega⟩
        show _ = _
        unfold Sha.xOf
        rw [SE.out, CH.out]
      obtain ⟨n0, hn0, HN0, ln0⟩ : ∃ y : Nat, Int.tmod ((x : Int) + ((sa : Int) + mj)) 4294967296 = (y : Int) ∧ Hid (y = (Sha.xOf kt wt ⟨a, b', c, d, e, f, g, h⟩ + Sha.yOf ⟨a, b', c, d, e, f, g, h⟩) % 4294967296) ∧ y < 4294967296 := by
        refine ⟨(x + (sa + mj)) % 4294967296, by rw [Int.tmod_eq_emod_of_nonneg (by omega)]; omega, ?_, by omega⟩
        show _ = _
        unfold Sha.yOf
        rw [← SA.out, ← MJ.out, ← HX.out]; omega
      obtain ⟨n4, hn4, HN4, ln4⟩ : ∃ y : Nat, Int.tmod ((d : Int) + x) 4294967296 = (y : Int) ∧ Hid (y = (d + Sha.xOf kt wt ⟨a, b', c, d, e, f, g, h⟩) % 4294967296) ∧ y < 4294967296 := by
        refine ⟨(d + x) % 4294967296, by rw [Int.tmod_eq_emod_of_nonneg (by omega)]; omega, ?_, by omega⟩
        show _ = _
        rw [← HX.out]
      have HRN : Hid (vlist (Sha.run ws (k + 1) V) = [n0, a, b', c, n4, e, f, g]) := by
        show _ = _
        rw [HU.out, ← hkt, ← hwt, HN0.out, HN4.out]; rfl
      have C6 : Hid (∀ wz, Calls Tryd.prog 65 #[.int .u64 (e : Int), .int .u64 6] wz fun e w' => e = .returned (.int .u64 (r6 : Int)) ∧ wz = w') := fun wz => by rw [R6.out]; exact turn_any e 6 wz oe (by omega) (by omega)
      have C11 : Hid (∀ wz, Calls Tryd.prog 65 #[.int .u64 (e : Int), .int .u64 11] wz fun e w' => e = .returned (.int .u64 (r11 : Int)) ∧ wz = w') := fun wz => by rw [R11.out]; exact turn_any e 11 wz oe (by omega) (by omega)
      have C25 : Hid (∀ wz, Calls Tryd.prog 65 #[.int .u64 (e : Int), .int .u64 25] wz fun e w' => e = .returned (.int .u64 (r25 : Int)) ∧ wz = w') := fun wz => by rw [R25.out]; exact turn_any e 25 wz oe (by omega) (by omega)
      have C2 : Hid (∀ wz, Calls Tryd.prog 65 #[.int .u64 (a : Int), .int .u64 2] wz fun e w' => e = .returned (.int .u64 (r2 : Int)) ∧ wz = w') := fun wz => by rw [R2.out]; exact turn_any a 2 wz oa (by omega) (by omega)
      have C13 : Hid (∀ wz, Calls Tryd.prog 65 #[.int .u64 (a : Int), .int .u64 13] wz fun e w' => e = .returned (.int .u64 (r13 : Int)) ∧ wz = w') := fun wz => by rw [R13.out]; exact turn_any a 13 wz oa (by omega) (by omega)
      have C22 : Hid (∀ wz, Calls Tryd.prog 65 #[.int .u64 (a : Int), .int .u64 22] wz fun e w' => e = .returned (.int .u64 (r22 : Int)) ∧ wz = w') := fun wz => by rw [R22.out]; exact turn_any a 22 wz oa (by omega) (by omega)
      have u1 : IntKind.u64.wrap ((h : Int) + se) = (h : Int) + se := by rw [IntKind.wrap_u64]; omega
      have u2 : IntKind.u64.wrap ((h : Int) + se + chh) = (h : Int) + se + chh := by rw [IntKind.wrap_u64]; omega
      have u3 : IntKind.u64.wrap ((h : Int) + se + chh + kt) = (h : Int) + se + chh + kt := by rw [IntKind.wrap_u64]; omega
      have u4 : IntKind.u64.wrap ((h : Int) + se + chh + kt + wt) = (h : Int) + se + chh + kt + wt := by rw [IntKind.wrap_u64]; omega
      have u5 : IntKind.u64.wrap ((sa : Int) + mj) = (sa : Int) + mj := by rw [IntKind.wrap_u64]; omega
      have u6 : IntKind.u64.wrap ((x : Int) + ((sa : Int) + mj)) = (x : Int) + ((sa : Int) + mj) := by rw [IntKind.wrap_u64]; omega
      have u7 : IntKind.u64.wrap ((d : Int) + x) = (d : Int) + x := by rw [IntKind.wrap_u64]; omega
      have u8 : IntKind.u64.wrap (4294967295 - (e : Int)) = 4294967295 - (e : Int) := by rw [IntKind.wrap_u64]; omega
      clear hkt hwt VC R6 R11 R25 R2 R13 R22 SE SA CH MJ HX HN0 HN4 HU hk hlt HV
      go_upto_region 9 with (first
            | (go_at_call_of 65 (Value.int IntKind.u64 6); refine (C6.out _).mono ?_; rintro e w' ⟨rfl, rfl⟩)
            | (go_at_call_of 65 (Value.int IntKind.u64 11); refine (C11.out _).mono ?_; rintro e w' ⟨rfl, rfl⟩)
            | (go_at_call_of 65 (Value.int IntKind.u64 25); refine (C25.out _).mono ?_; rintro e w' ⟨rfl, rfl⟩))
      go_quiet (fail)
      go_upto_region 11 with fail
      refine step_world (fun W => (∀ a, W.cell? a = wr.cell? a) ∧ Below w2.heap.size w2 W) ⟨fun _ => rfl, HW.out.trans ⟨rfl, rfl, rfl, Nat.le_refl _, fun _ _ => rfl⟩⟩ fun wq HHq => ?_
      have s0 := (HHq.1 _).trans p0
      have s1 := (HHq.1 _).trans p1
      have s2 := (HHq.1 _).trans p2
      have s3 := (HHq.1 _).trans p3
      have s5 := (HHq.1 _).trans p5
      have s6 := (HHq.1 _).trans p6
      have HWq : Hid (Below w2.heap.size w2 wq) := HHq.2
      clear HHq p0 p1 p2 p3 p4 p5 p6 p7 pk pw
      go_quiet (first | (go_at_call_of 65 (Value.int IntKind.u64 2); exact Calls.quiet_of_same (same_turn (C2.out _))) | (go_at_call_of 65 (Value.int IntKind.u64 13); exact Calls.quiet_of_same (same_turn (C13.out _))) | (go_at_call_of 65 (Value.int IntKind.u64 22); exact Calls.quiet_of_same (same_turn (C22.out _))))
      go_upto_region 12 with fail
      refine step_world (fun W => (∀ a, W.cell? a = wq.cell? a) ∧ Below w2.heap.size w2 W) ⟨fun _ => rfl, HWq.out.trans ⟨rfl, rfl, rfl, Nat.le_refl _, fun _ _ => rfl⟩⟩ fun wy HHq => ?_
      have t1 := (HHq.1 _).trans s1
      have t2 := (HHq.1 _).trans s2
      have t3 := (HHq.1 _).trans s3
      have t5 := (HHq.1 _).trans s5
      have t6 := (HHq.1 _).trans s6
      have HWy : Hid (Below w2.heap.size w2 wy) := HHq.2
      clear HHq s0 s1 s2 s3 s5 s6
      have y1 := World.new_ne wy _ t1
      go_region_held3 (fun w' => w'.cell? ⟨gv, 1, none⟩ = some (.int .u64 (b' : Int)) ∧ w'.cell? ⟨gv, 2, none⟩ = some (.int .u64 (c : Int)) ∧ w'.cell? ⟨gv, 3, none⟩ = some (.int .u64 (d : Int)) ∧ w'.cell? ⟨gv, 5, none⟩ = some (.int .u64 (f : Int)) ∧ w'.cell? ⟨gv, 6, none⟩ = some (.int .u64 (g : Int))) (go_keep) (fail)
      clear t1 t2 t3 t5 t6 y1
      have HQ8 : Hid (HasQ ((wy.alloc (.cells #[.int .u64 (n0 : Int), .int .u64 (a : Int), .int .u64 (b' : Int), .int .u64 (c : Int), .int .u64 (n4 : Int), .int .u64 (e : Int), .int .u64 (f : Int), .int .u64 (g : Int)] 84)).drew) (.slice (some ⟨wy.heap.size, 0, none⟩) 8 8) (vlist (Sha.run ws (k + 1) V)) ∧ Below w2.heap.size w2 ((wy.alloc (.cells #[.int .u64 (n0 : Int), .int .u64 (a : Int), .int .u64 (b' : Int), .int .u64 (c : Int), .int .u64 (n4 : Int), .int .u64 (e : Int), .int .u64 (f : Int), .int .u64 (g : Int)] 84)).drew)) := by
        rw [HRN.out]
        exact ⟨hasQ_new wy [n0, a, b', c, n4, e, f, g] 84, (HWy.out.alloc HWy.out.size _).trans ⟨rfl, rfl, rfl, Nat.le_refl _, fun _ _ => rfl⟩⟩
      go_wp2_with fail
      go_roundw
      case rel => exact ⟨k + 1, wy.heap.size, 8, by omega, by go_num, rfl, HQ8.out.1, HQ8.out.2⟩
      case measure => simp [intOf]; omega
    · have hkI : ¬ (k : Int) < 64 := by omega
      obtain rfl : k = 64 := by omega
      obtain ⟨R, hR⟩ : ∃ R, R = Sha.run ws 64 V := ⟨_, rfl⟩
      have HR : Hid (R = Sha.run ws 64 V) := hR
      have hok : vok R := by rw [hR]; exact runF_ok _ (fun n v h => rnd_ok h) 64 V HH.out.2.2
      have HM : Hid (vlist (Sha.mix V b) = vlist (Sha.plus V R)) := by show _ = _; rw [Sha.mix, ← HWS.out.1, hR]
      rw [← hR] at HV
      have HVL : Hid ((vlist V).length = 8 ∧ (vlist R).length = 8 ∧ ∀ i, (vlist V).getD i 0 < 4294967296 ∧ (vlist R).getD i 0 < 4294967296) := ⟨rfl, rfl, fun i => ⟨vlist_lt HH.out.2.2 i, vlist_lt hok i⟩⟩
      have H3 : Hid (HasQ wr (.slice (some ⟨gv, 0, none⟩) 8 cv) (vlist R) ∧ HasQ wr (.slice (some ⟨gh, 0, none⟩) 8 ch) (vlist V) ∧ Below w.heap.size w wr) := ⟨HV.out, HH.out.1.below (Below.up H2.out.2.2 HW.out), Below.up H2.out.2.2 HW.out⟩
      clear HV HW hR hok HWS CW H1 H2
      obtain ⟨w3, hw3⟩ : ∃ w3, w3 = wr := ⟨_, rfl⟩
      rw [← hw3] at H3 ⊢
      clear hw3
      go_wp2_with fail
      go_loopw [16, 17] (fun ov i wr => ∃ (k : Nat) (o : List Nat), k ≤ 8 ∧ i = .int .i64 k ∧ Hid (o = (vlist (Sha.plus V R)).take k) ∧ Hid (OwnsQ wr w3.heap.size ov o) ∧ Hid (Below w3.heap.size w3 wr)) (fun _ i _ => 8 - (intOf i).toNat)
      case atStart => exact ⟨0, [], by omega, rfl, rfl, OwnsQ.nil _ _, Below.refl _ _⟩
      case round =>
        obtain ⟨k, o, hk, rfl, HOE, HO, HW⟩ := hrel
        by_cases hlt : k < 8
        · have hkI : (k : Int) < 8 := by omega
          obtain ⟨oo, oc, rfl⟩ := HO.out.has.form
          obtain ⟨x, hx⟩ : ∃ x, x = (vlist V).getD k 0 := ⟨_, rfl⟩
          obtain ⟨y, hy⟩ : ∃ y, y = (vlist R).getD k 0 := ⟨_, rfl⟩
          have lx : x < 4294967296 := by rw [hx]; exact (HVL.out.2.2 k).1
          have ly : y < 4294967296 := by rw [hy]; exact (HVL.out.2.2 k).2
          obtain ⟨z, hz, HZ⟩ : ∃ z : Nat, Int.tmod ((x : Int) + y) 4294967296 = (z : Int) ∧ Hid (z = (x + y) % 4294967296) := ⟨(x + y) % 4294967296, by rw [Int.tmod_eq_emod_of_nonneg (by omega)]; omega, rfl⟩
          have HON : Hid (o ++ [z] = (vlist (Sha.plus V R)).take (k + 1)) := by
            show _ = _
            rw [HZ.out, HOE.out, hx, hy]; exact plus_take V R k hlt
          have HOL : Hid (o.length ≤ 8) := by show _ ≤ _; rw [HOE.out]; simp; omega
          have u1 : IntKind.u64.wrap ((x : Int) + y) = (x : Int) + y := by rw [IntKind.wrap_u64]; omega
          have n8 : ¬ (8 ≤ k) := by omega
          have qx : wr.cell? ⟨gh, k, none⟩ = some (.int .u64 (x : Int)) := by rw [vlist_has (H3.out.2.1.below HW.out) k hlt, hx]; rfl
          have qy : wr.cell? ⟨gv, k, none⟩ = some (.int .u64 (y : Int)) := by rw [vlist_has (H3.out.1.below HW.out) k hlt, hy]; rfl
          have QX : Hid (wr.cell? ⟨gh, k, none⟩ = some (.int .u64 (x : Int)) ∧ wr.cell? ⟨gv, k, none⟩ = some (.int .u64 (y : Int))) := ⟨qx, qy⟩
          clear hx hy qx qy HOE
          go_upto_region 17 with fail
          refine wp_region_any (by kernel_rfl) ?_
          change wpAny _ _ _ _ _ _ _ (World.drew _)
          generalize hw4 : World.drew wr = wq
          have HBW : Hid (Below w3.heap.size w3 wq) := by rw [← hw4]; exact HW.out.trans ⟨rfl, rfl, rfl, Nat.le_refl _, fun _ _ => rfl⟩
          have HOW : Hid (∀ c : Obj, OwnsQ (wq.alloc c) w3.heap.size (.slice oo o.length oc) o) := by rw [← hw4]; exact fun c => (HO.out.block (w' := wr.drew) fun _ _ => rfl).block fun q hq => heap_alloc_old _ _ hq
          have HCa : Hid (wq.cell? ⟨gh, k, none⟩ = some (.int .u64 (x : Int))) := by rw [← hw4]; exact QX.out.1
          have HCb : Hid (wq.cell? ⟨gv, k, none⟩ = some (.int .u64 (y : Int))) := by rw [← hw4]; exact QX.out.2
          clear hw4 HO QX
          refine wpAny_take (i := 0) (v := .slice oo o.length oc) rfl (by kernel_rfl) (by kernel_rfl) (by kernel_rfl) (fun _ _ _ h => h) (Or.inl ⟨by kernel_rfl, ?_⟩) ?_
          · intro wz; go_simp
          refine wpAny_take (i := 1) (v := .slice (some ⟨gh, 0, none⟩) 8 ch) rfl (by kernel_rfl) (by kernel_rfl) (by kernel_rfl) (fun _ _ _ h => h) (Or.inl ⟨by kernel_rfl, ?_⟩) ?_
          · intro wz; go_simp
          refine wpAny_take (i := 2) (v := .int .i64 (k : Int)) rfl (by kernel_rfl) (by kernel_rfl) (by kernel_rfl) (fun _ _ _ h => h) (Or.inl ⟨by kernel_rfl, ?_⟩) ?_
          · intro wz; go_simp
          refine wpAny_take (i := 3) (v := .pointer (some ⟨gh, k, none⟩)) rfl (by kernel_rfl) (by kernel_rfl) (by kernel_rfl) (fun _ _ _ h => h) (Or.inl ⟨by kernel_rfl, ?_⟩) ?_
          · intro wz; go_simp
          refine wpAny_take (i := 5) (v := .slice (some ⟨gv, 0, none⟩) 8 cv) rfl (by kernel_rfl) (by kernel_rfl) (by kernel_rfl) (fun _ _ _ h => h) (Or.inl ⟨by kernel_rfl, ?_⟩) ?_
          · intro wz; go_simp
          refine wpAny_take (i := 6) (v := .int .i64 (k : Int)) rfl (by kernel_rfl) (by kernel_rfl) (by kernel_rfl) (fun _ _ _ h => h) (Or.inl ⟨by kernel_rfl, ?_⟩) ?_
          · intro wz; go_simp
          refine wpAny_take (i := 7) (v := .pointer (some ⟨gv, k, none⟩)) rfl (by kernel_rfl) (by kernel_rfl) (by kernel_rfl) (fun _ _ _ h => h) (Or.inl ⟨by kernel_rfl, ?_⟩) ?_
          · intro wz; go_simp
          simp only [Act.put, List.getElem_toArray, List.getElem_cons_zero, List.getElem_cons_succ, List.setIfInBounds_toArray, List.set_cons_zero, List.set_cons_succ]
          refine wpAny_ready (rs := [4, 8]) (by kernel_rfl) (by simp) ?_
          refine ar_load84 rfl rfl (.tmp 130) rfl ⟨gh, k, none⟩ rfl (.int .u64 (x : Int)) HCa.out ?_ (ar_load84 rfl rfl (.tmp 134) rfl ⟨gv, k, none⟩ rfl (.int .u64 (y : Int)) HCb.out ?_ AllReady.nil)
          · simp only [Act.put, List.getElem_toArray, List.getElem_cons_zero, List.getElem_cons_succ, List.setIfInBounds_toArray, List.set_cons_zero, List.set_cons_succ]
            refine wpAny_ready (rs := [8]) (by kernel_rfl) (by simp) ?_
            refine ar_load84 rfl rfl (.tmp 134) rfl ⟨gv, k, none⟩ rfl (.int .u64 (y : Int)) HCb.out ?_ AllReady.nil
            simp only [Act.put, List.getElem_toArray, List.getElem_cons_zero, List.getElem_cons_succ, List.setIfInBounds_toArray, List.set_cons_zero, List.set_cons_succ]
            refine wpAny_take (i := 9) (v := .int .u64 ((x : Int) + y)) rfl (by kernel_rfl) (by kernel_rfl) (by kernel_rfl) (fun _ _ _ h => h) (Or.inl ⟨by kernel_rfl, ?_⟩) ?_
            · intro wz; go_simp
            refine wpAny_take (i := 10) (v := .int .u64 (z : Int)) rfl (by kernel_rfl) (by kernel_rfl) (by kernel_rfl) (fun _ _ _ h => h) (Or.inl ⟨by kernel_rfl, ?_⟩) ?_
            · intro wz; go_simp
            simp only [Act.put, List.getElem_toArray, List.getElem_cons_zero, List.getElem_cons_succ, List.setIfInBounds_toArray, List.set_cons_zero, List.set_cons_succ]
            refine wpAny_ready (rs := [11]) (by kernel_rfl) (by simp) ?_
            refine AllReady.cons rfl (fun K' hK' => ?_) AllReady.nil
            go_simp
            refine hK' _ _ ?_
            clear hK' K'
            refine wpAny_ready (rs := [12]) (by kernel_rfl) (by simp) ?_
            refine ar_append_q rfl rfl (.tmp 127) (.tmp 138) rfl w3.heap.size (.slice oo o.length oc) wq.heap.size z o rfl rfl (HOW.out _) (by rw [cell_of_row _ _ 0 _ _ _ (heap_alloc_new _ _)]; rfl) (by have := HOL.out; omega) (by have := HBW.out.size; simp; omega) (fun v' w' ho' hb' => ?_) AllReady.nil
            have R : Hid (OwnsQ w' w3.heap.size v' (o ++ [z]) ∧ Below w3.heap.size w3 w') := ⟨ho', HBW.out.trans (((Below.refl w3.heap.size wq).alloc HBW.out.size _).trans hb')⟩
            clear ho' hb'
            obtain ⟨vo', vc', hv'⟩ := R.out.1.has.form
            subst hv'
            refine wpAny_take (i := 13) (v := .slice vo' (o ++ [z]).length vc') rfl (by kernel_rfl) (by kernel_rfl) (by kernel_rfl) (fun _ _ _ h => h) (Or.inl ⟨by kernel_rfl, ?_⟩) ?_
            · intro wz; go_simp
            refine wpAny_done (by kernel_rfl) ?_ _
            go_simp
            go_wp2_with fail
            go_roundw
            case rel => exact ⟨k + 1, o ++ [z], by omega, by go_num, HON.out, by have := R.out.1; rw [List.length_append] at this; exact this, R.out.2⟩
            case measure => simp [intOf]; omega
          · simp only [Act.put, List.getElem_toArray, List.getElem_cons_zero, List.getElem_cons_succ, List.setIfInBounds_toArray, List.set_cons_zero, List.set_cons_succ]
            refine wpAny_ready (rs := [4]) (by kernel_rfl) (by simp) ?_
            refine ar_load84 rfl rfl (.tmp 130) rfl ⟨gh, k, none⟩ rfl (.int .u64 (x : Int)) HCa.out ?_ AllReady.nil
            simp only [Act.put, List.getElem_toArray, List.getElem_cons_zero, List.getElem_cons_succ, List.setIfInBounds_toArray, List.set_cons_zero, List.set_cons_succ]
            refine wpAny_take (i := 9) (v := .int .u64 ((x : Int) + y)) rfl (by kernel_rfl) (by kernel_rfl) (by kernel_rfl) (fun _ _ _ h => h) (Or.inl ⟨by kernel_rfl, ?_⟩) ?_
            · intro wz; go_simp
            refine wpAny_take (i := 10) (v := .int .u64 (z : Int)) rfl (by kernel_rfl) (by kernel_rfl) (by kernel_rfl) (fun _ _ _ h => h) (Or.inl ⟨by kernel_rfl, ?_⟩) ?_
            · intro wz; go_simp
            simp only [Act.put, List.getElem_toArray, List.getElem_cons_zero, List.getElem_cons_succ, List.setIfInBounds_toArray, List.set_cons_zero, List.set_cons_succ]
            refine wpAny_ready (rs := [11]) (by kernel_rfl) (by simp) ?_
            refine AllReady.cons rfl (fun K' hK' => ?_) AllReady.nil
            go_simp
            refine hK' _ _ ?_
            clear hK' K'
            refine wpAny_ready (rs := [12]) (by kernel_rfl) (by simp) ?_
            refine ar_append_q rfl rfl (.tmp 127) (.tmp 138) rfl w3.heap.size (.slice oo o.length oc) wq.heap.size z o rfl rfl (HOW.out _) (by rw [cell_of_row _ _ 0 _ _ _ (heap_alloc_new _ _)]; rfl) (by have := HOL.out; omega) (by have := HBW.out.size; simp; omega) (fun v' w' ho' hb' => ?_) AllReady.nil
            have R : Hid (OwnsQ w' w3.heap.size v' (o ++ [z]) ∧ Below w3.heap.size w3 w') := ⟨ho', HBW.out.trans (((Below.refl w3.heap.size wq).alloc HBW.out.size _).trans hb')⟩
            clear ho' hb'
            obtain ⟨vo', vc', hv'⟩ := R.out.1.has.form
            subst hv'
            refine wpAny_take (i := 13) (v := .slice vo' (o ++ [z]).length vc') rfl (by kernel_rfl) (by kernel_rfl) (by kernel_rfl) (fun _ _ _ h => h) (Or.inl ⟨by kernel_rfl, ?_⟩) ?_
            · intro wz; go_simp
            refine wpAny_done (by kernel_rfl) ?_ _
            go_simp
            go_wp2_with fail
            go_roundw
            case rel => exact ⟨k + 1, o ++ [z], by omega, by go_num, HON.out, by have := R.out.1; rw [List.length_append] at this; exact this, R.out.2⟩
            case measure => simp [intOf]; omega
        · have hkI : ¬ (k : Int) < 8 := by omega
          obtain rfl : k = 8 := by omega
          obtain ⟨oo, oc, rfl⟩ := HO.out.has.form
          have hoe : o = vlist (Sha.mix V b) := by rw [HOE.out, HM.out]; rfl
          have RR : Hid (OwnsQ wr w.heap.size (.slice oo o.length oc) (vlist (Sha.mix V b)) ∧ Below w.heap.size w wr) := ⟨by rw [← hoe]; exact ownsQ_mono HO.out H3.out.2.2.size, Below.up H3.out.2.2 HW.out⟩
          clear hoe HOE HO HW
          go_wp2
          go_ret
          exact ⟨_, rfl, RR.out⟩
end Go.Proofs.YtmglopfjjbnfiaaDoor
